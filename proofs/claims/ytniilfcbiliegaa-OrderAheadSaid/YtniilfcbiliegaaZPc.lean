/-
  The statements' ints and few. No statement is proved here.
-/
import Derived.Test.YtniilfcbiliegaaZPb
namespace Go.Proofs.Ytniilfcbiliegaa
open Go.RowKit Go.Maps

theorem cut_reads {w : World} {B size n : Nat} {A : Option Addr} {α : Type} {f : α → List Value} (hs : ∀ a, (f a).length = size) {l : List α} (h : Reads w B size A n (flat f l)) (m : Nat) : Reads w B size A (min n m) (flat f (l.take m)) := by
  have hl := h.1
  rw [length_flat f hs] at hl
  by_cases h0 : size = 0
  · subst h0
    refine ⟨by rw [length_flat f hs]; omega, fun hn => ?_⟩
    obtain ⟨ad, e, hb, _⟩ := h.2 (by omega)
    refine ⟨ad, e, hb, fun j u hj => ?_⟩
    have := (List.getElem?_eq_some_iff.1 hj).1
    rw [length_flat f hs] at this
    omega
  have hl2 : l.length = n := Nat.eq_of_mul_eq_mul_right (by omega) hl
  refine ⟨by rw [length_flat f hs, List.length_take, hl2, Nat.min_comm], fun hn => ?_⟩
  obtain ⟨ad, e, hb, hc⟩ := h.2 (by omega)
  refine ⟨ad, e, hb, fun j u hj => hc j u ?_⟩
  have e2 : flat f l = flat f (l.take m) ++ flat f (l.drop m) := by rw [← flat_append, List.take_append_drop]
  rw [e2, List.getElem?_append_left (List.getElem?_eq_some_iff.1 hj).1]
  exact hj
theorem cut_vs {w : World} {B n : Nat} {A : Option Addr} {l : List Int} (h : Reads w B 1 A n (vs l)) (m : Nat) : Reads w B 1 A (min n m) (vs (l.take m)) := by
  have e : ∀ l : List Int, vs l = flat (fun i => [Value.int .i64 i]) l := fun l => by
    induction l with
    | nil => rfl
    | cons a l ih => rw [flat_cons, ← ih]; rfl
  rw [e] at h ⊢
  exact cut_reads (f := fun i => [Value.int .i64 i]) (fun _ => rfl) h m

set_option maxRecDepth 100000 in
set_option maxHeartbeats 4000000 in
theorem ints_any (A : Option Addr) (n c : Nat) (is : List Int) (w : World) (hR : Reads w w.heap.size 1 A n (vs is)) (hc : n ≤ c) : Calls Try.prog 31 #[.slice A n c] w fun e w' =>
    ∃ A' c', e = .returned (.slice A' (min n 17) c') ∧ w'.ownsRow w.heap.size 3 1 (.slice A' (min n 17) c') (min n 17) (vs (is.take 17)) ∧ Below w.heap.size w w' := by
  obtain ⟨i0, hi0, hz0, hz1, hz2⟩ := info_parts9 int_info
  have hcut := cut_vs hR 17
  obtain ⟨m, hm⟩ : ∃ m, min n 17 = m := ⟨_, rfl⟩
  rw [hm] at hcut ⊢
  have hmi : min (n : Int) 17 = (m : Int) := by omega
  have m0 : (0 : Int) ≤ (m : Int) := by omega
  have m1 : (m : Int) ≤ (c : Int) := by omega
  have m2 : m ≤ 17 := by omega
  have HC := Lib.hid (hcut.alloc (Nat.le_refl _) (.cells #[] 3))
  have HB := Lib.hid ((Below.refl w.heap.size w).alloc (Nat.le_refl _) (.cells #[] 3))
  clear hcut hR hm hc
  go_enter Try.func31, Try.ntmps31
  go_wp2_with (
    at_builtin
    refine wpList_append_any _ rfl (.tmp 3) (.tmp 8) 40 rfl w.heap.size 3 i0 (.int .i64 0) 1 8 Try.underlying40 hi0 hz0 hz1 hz2 rfl (by decide) (.slice (some ⟨w.heap.size, 0, none⟩) 0 0) 0 [] rfl (by simpa using World.ownsRow_made w #[] 0 (Nat.le_refl _) (by simp [maxLen]) (by simp)) _ A m c (vs (is.take 17)) rfl HC.out (vs_ones _) (by simp only [maxLen]; omega) (by omega) (by simp) ?_
    intro v9 w9 own9 grow9 _
    rw [List.nil_append, Nat.zero_add] at own9
    obtain ⟨A9, c9, rfl, _, _⟩ := own_reads own9
    have HO := Lib.hid (And.intro own9 (HB.out.grown grow9 HB.out.size (fun k hk => by simp [Value.ownBlock] at hk; omega)))
    clear own9 grow9)
  go_ret
  exact ⟨A9, c9, rfl, HO.out.1, HO.out.2⟩

/-- what the statements keep of an entity -/
def shE (x : Et) : Et := (x.1.take 17, x.2)
/-- entities that came in -/
structure EA (w : World) (A : Option Addr) (n : Nat) (l : List En) : Prop where
  row : Reads w w.heap.size 6 A n (flat ev l)
  big : n ≤ maxLen
  mem : ∀ e ∈ l, Reads w w.heap.size 1 e.1.1 e.1.2.1 (vs e.1.2.2.2) ∧ e.1.2.1 ≤ e.1.2.2.1
theorem EA.below {w w' : World} {A : Option Addr} {n : Nat} {l : List En} (h : EA w A n l) (hb : Below w.heap.size w w') : EA w' A n l :=
  ⟨(h.row.below hb).more hb.size, h.big, fun e he => ⟨((h.mem e he).1.below hb).more hb.size, (h.mem e he).2⟩⟩
theorem EA.len {w : World} {A : Option Addr} {n : Nat} {l : List En} (h : EA w A n l) : l.length = n := by
  have h1 := h.row.1
  rw [length_flat ev length_ev] at h1
  omega
theorem EA.at_ {w : World} {A : Option Addr} {n : Nat} {l : List En} (h : EA w A n l) {k : Nat} {A2 : Option Addr} {n2 c2 : Nat} {is : List Int} {a b x o : Nat} {f : Bool} (hx : l[k]? = some ((A2, n2, c2, is), (a, b, x), o, f)) :
    ∃ ad, A = some ad ∧ ad.block < w.heap.size ∧ w.cell? (ad.add (k * 6)) = some (.slice A2 n2 c2) ∧ w.cell? ⟨(ad.add (k * 6)).block, (ad.add (k * 6)).off + 1, none⟩ = some (.int .u64 (a : Int)) ∧ w.cell? ⟨(ad.add (k * 6)).block, (ad.add (k * 6)).off + 2, none⟩ = some (.int .u64 (b : Int)) ∧
      w.cell? ⟨(ad.add (k * 6)).block, (ad.add (k * 6)).off + 3, none⟩ = some (.int .u64 (x : Int)) ∧ w.cell? ⟨(ad.add (k * 6)).block, (ad.add (k * 6)).off + 4, none⟩ = some (.int .u64 (o : Int)) ∧ w.cell? ⟨(ad.add (k * 6)).block, (ad.add (k * 6)).off + 5, none⟩ = some (.bool f) := by
  obtain ⟨ad, e, hb, hc⟩ := h.row.elem ev length_ev hx (by omega)
  have s0 := hc 0 _ rfl
  have s1 := hc 1 _ rfl
  have s2 := hc 2 _ rfl
  have s3 := hc 3 _ rfl
  have s4 := hc 4 _ rfl
  have s5 := hc 5 _ rfl
  rw [Nat.add_zero] at s0
  rw [add_past ad (k * 6) 0] at s1
  rw [add_past ad (k * 6) 1] at s2
  rw [add_past ad (k * 6) 2] at s3
  rw [add_past ad (k * 6) 3] at s4
  rw [add_past ad (k * 6) 4] at s5
  exact ⟨ad, e, hb, s0, s1, s2, s3, s4, s5⟩
/-- entities in memory of their own, from B on: what they are -/
structure EF (w : World) (B : Nat) (A : Option Addr) (n c : Nat) (X : List Et) : Prop where
  ex : ∃ E : List En, ES w B A n c E ∧ E.map et = X
theorem EF.more {w w' : World} {B : Nat} {A A2 : Option Addr} {n c c2 : Nat} {E : List En} {o : Obj} {e : En} (h : ES w B A n c E) (hm : w.ownsRow B 3 1 (slE e) e.1.2.1 (vs e.1.2.2.2)) (hne : ∀ j j', (slE e).ownBlock = some j → (Value.slice A n c).ownBlock = some j' → j ≠ j')
    (hg : (w.alloc o).grownBy w' (Value.slice A n c).ownBlock) (ho : w'.ownsRow B 47 6 (.slice A2 (n + 1) c2) (n + 1) (flat ev (E ++ [e]))) (hw : (Value.slice A2 (n + 1) c2).ownBlock = (Value.slice A n c).ownBlock ∨ (Value.slice A2 (n + 1) c2).ownBlock = some (w.alloc o).heap.size) :
    ES w' B A2 (n + 1) c2 (E ++ [e]) := by
  refine ⟨ho, fun x hx => ?_, fun x hx => ?_⟩
  · rw [List.mem_append, List.mem_singleton] at hx
    rcases hx with hx | rfl
    · exact own_other ((h.mem x hx).alloc o) hg (h.ne x hx)
    · exact own_other (hm.alloc o) hg hne
  · rw [List.mem_append, List.mem_singleton] at hx
    rcases hx with hx | rfl
    · exact ne_other ((h.mem x hx).alloc o) (h.ne x hx) hw
    · exact ne_other (hm.alloc o) hne hw
def fewF (l : List En) : List Et := (l.map fun e => shE (et e)).take 20
def Few (l : List En) (w : World) (e : Ending) (w' : World) : Prop := ∃ A n c E, e = .returned (.slice A n c) ∧ ES w' w.heap.size A n c E ∧ E.map et = fewF l ∧ n ≤ 20 ∧ Below w.heap.size w w'

set_option maxRecDepth 100000 in
set_option maxHeartbeats 8000000 in
theorem few_any (A : Option Addr) (n c : Nat) (l : List En) (w : World) (hA : EA w A n l) : Calls Try.prog 17 #[.slice A n c] w (Few l w) := by
  obtain ⟨i0, hi0, hz0, hz1, hz2⟩ := info_parts9 ent_info
  have HA := Lib.hid hA
  have HL := Lib.hid hA.len
  have hn : n ≤ 9223372036854775807 := by have := hA.big; unfold maxLen at this; omega
  clear hA
  go_enter Try.func17, Try.ntmps17
  go_wp2_with fail
  go_loopw [3, 8] (fun s i wr => ∃ (k : Nat) (A2 : Option Addr) (n2 c2 : Nat) (E : List En), k ≤ n ∧ i = .int .i64 (k : Int) ∧ s = .slice A2 n2 c2 ∧ n2 ≤ 20 ∧ Hid (ES wr w.heap.size A2 n2 c2 E ∧ E.map et = ((l.take k).map fun e => shE (et e)).take 20 ∧ Below w.heap.size w wr ∧ (k < 20 → n2 = k))) (fun _ i _ => n - (intOf i).toNat)
  case atStart => exact ⟨0, none, 0, 0, [], Nat.zero_le _, rfl, rfl, by omega, Lib.hid ⟨⟨World.ownsRow_nil _ _ _ _, (fun e he => by cases he), (fun e he => by cases he)⟩, rfl, Below.refl _ _, fun _ => rfl⟩⟩
  case round =>
    obtain ⟨k, A2, n2, c2, E, hk, rfl, rfl, hn2, HJ⟩ := hrel
    by_cases hlt : k < n
    · obtain ⟨⟨⟨A3, n3, c3, is⟩, ⟨a, b, x⟩, o, f⟩, hx⟩ := elem_at (l := l) (k := k) (by rw [HL.out]; exact hlt)
      obtain ⟨ad, rfl, hb1, d0, d1, d2, d3, d4, d5⟩ := (HA.out.below HJ.out.2.2.1).at_ hx
      have HM := Lib.hid ((HA.out.below HJ.out.2.2.1).mem _ (List.mem_of_getElem? hx))
      have HX := Lib.hid hx
      have i1 : (0 : Int) ≤ (k : Int) := by omega
      have i2 : (k : Int) < (n : Int) := by omega
      have KD := Blk.new wr 47 #[.slice A3 n3 c3, .int .u64 (a : Int), .int .u64 (b : Int), .int .u64 (x : Int), .int .u64 (o : Int), .bool f]
      have z0 := KD.cell 0
      have g0 := KD.frozen 0
      have BB := (Below.refl wr.heap.size wr).alloc (Nat.le_refl _) (.cells #[.slice A3 n3 c3, .int .u64 (a : Int), .int .u64 (b : Int), .int .u64 (x : Int), .int .u64 (o : Int), .bool f] 47)
      have SV := HJ.out.1.below BB
      have BV := HJ.out.2.2.1.alloc HJ.out.2.2.1.size (.cells #[.slice A3 n3 c3, .int .u64 (a : Int), .int .u64 (b : Int), .int .u64 (x : Int), .int .u64 (o : Int), .bool f] 47)
      have HI := Lib.hid (ints_any A3 n3 c3 is _ ((HM.out.1.below BB).more BB.size) HM.out.2)
      clear hx hb1
      by_cases h20 : k < 20
      · have c1 : decide ((k : Int) < 20) = true := decide_eq_true (by omega)
        have hnk := HJ.out.2.2.2 h20
        subst hnk
        have HT : Hid (((l.take (n2 + 1)).map fun e => shE (et e)).take 20 = ((l.take n2).map fun e => shE (et e)).take 20 ++ [(is.take 17, (a, b, x), o, f)]) := Lib.hid (by
          have e9 : l.take (n2 + 1) = l.take n2 ++ [((A3, n3, c3, is), (a, b, x), o, f)] := by rw [List.take_add_one (l := l), HX.out]; rfl
          rw [e9, List.map_append, List.take_of_length_le (i := 20) (by simp; omega), List.take_of_length_le (i := 20) (by simp; omega)]
          rfl)
        have HSV := Lib.hid (And.intro SV (And.intro BV KD))
        clear SV BV BB KD
        go_wp2_with fail
        refine HI.out.mono ?_
        rintro e w4 ⟨A4, c4, rfl, own4, h9⟩
        obtain ⟨m, hm⟩ : ∃ m, min n3 17 = m := ⟨_, rfl⟩
        rw [hm] at own4 ⊢
        obtain ⟨SV, BV, KD⟩ := HSV.out
        have hne : ∀ j j', (Value.slice A4 m c4).ownBlock = some j → (Value.slice A2 n2 c2).ownBlock = some j' → j ≠ j' := fun j j' hj hj' => by
          have := (own4.lt j hj).1
          have := (SV.row.lt j' hj').2
          omega
        replace SV := SV.below h9
        replace KD := KD.below h9 KD.lt
        replace BV := BV.trans (h9.mono BV.size)
        have z1 := KD.cell 0
        have g1 := KD.frozen 0
        have HKD : Hid (w.heap.size ≤ wr.heap.size) := Lib.hid HJ.out.2.2.1.size
        have hsz : (wr.alloc (.cells #[.slice A3 n3 c3, .int .u64 (a : Int), .int .u64 (b : Int), .int .u64 (x : Int), .int .u64 (o : Int), .bool f] 47)).heap.size = wr.heap.size + 1 := by simp
        rw [hsz] at own4
        have KE : Blk (w4.setCell ⟨wr.heap.size, 0, none⟩ (.slice A4 m c4)) wr.heap.size 47 #[.slice A4 m c4, .int .u64 (a : Int), .int .u64 (b : Int), .int .u64 (x : Int), .int .u64 (o : Int), .bool f] := by have := KD.set_ 0 (.slice A4 m c4); simpa using this
        have y0 := KE.cell 0
        have y1 := KE.cell 1
        have y2 := KE.cell 2
        have y3 := KE.cell 3
        have y4 := KE.cell 4
        have y5 := KE.cell 5
        have hoff : ∀ j, (Value.slice A2 n2 c2).ownBlock = some j → j ≠ wr.heap.size := fun j hj => by have := (HJ.out.1.row.lt j hj).2; omega
        have SW : ES (w4.setCell ⟨wr.heap.size, 0, none⟩ (.slice A4 m c4)) w.heap.size A2 n2 c2 E := ⟨own_off SV.row hoff 0 _, fun e he => own_off (SV.mem e he) (fun j hj => by have := ((HJ.out.1.mem e he).lt j hj).2; omega) 0 _, SV.ne⟩
        have OW := own_down (own_set own4 (g := wr.heap.size) (by omega) 0 (.slice A4 m c4)) (show w.heap.size ≤ wr.heap.size + 1 by have := HKD.out; omega)
        have BW := BV.setCell (p := ⟨wr.heap.size, 0, none⟩) HKD.out (.slice A4 m c4)
        have HS := Lib.hid (And.intro SW (And.intro OW (And.intro BW hne)))
        have HLN : Hid ((is.take 17).length = m) := Lib.hid (by have := own4.1; rw [length_vs] at this; omega)
        clear SV BV KD SW OW BW own4 h9 hsz KE hoff hne
        go_wp2_with (
          at_builtin
          refine wpList_append_any _ rfl (.tmp 19) (.tmp 21) 34 rfl w.heap.size 47 i0 (.agg #[.slice none 0 0, .int .u64 0, .int .u64 0, .int .u64 0, .int .u64 0, .bool false]) 6 64 Try.underlying34 hi0 hz0 hz1 hz2 rfl (by decide) (.slice A2 n2 c2) n2 (flat ev E) rfl (HS.out.1.row.alloc _) _ (some ⟨w4.heap.size, 0, none⟩) 1 1 (flat ev [((A4, m, c4, is.take 17), (a, b, x), o, f)]) rfl (reads_new _ _ _ rfl (by simp)) (ev_ones _) (by simp only [maxLen]; omega) (by omega) (by have := HS.out.2.2.1.size; simp at this; simp; omega) ?_
          intro v9 w9 own9 grow9 ne9
          rw [← flat_append] at own9
          obtain ⟨A9, c9, rfl, _, _⟩ := own_reads own9
          have HF : Hid (ES w9 w.heap.size A9 (n2 + 1) c9 (E ++ [((A4, m, c4, is.take 17), (a, b, x), o, f)])) := Lib.hid (EF.more HS.out.1 HS.out.2.1 HS.out.2.2.2 grow9 own9 ne9)
          have HB9 := Lib.hid ((HS.out.2.2.1.alloc HS.out.2.2.1.size _).grown grow9 (HS.out.2.2.1.alloc HS.out.2.2.1.size _).size (fun j hj => (HS.out.1.row.lt j hj).1))
          clear own9 grow9 ne9)
        clear d0 d1 d2 d3 d4 d5 z0 g0 z1 g1
        go_wp2
        go_roundw
        case rel => exact ⟨n2 + 1, A9, n2 + 1, c9, _, by omega, by go_num, rfl, by omega, Lib.hid ⟨HF.out, by rw [HT.out, List.map_append, HJ.out.2.1]; rfl, HB9.out, fun _ => rfl⟩⟩
        case measure => simp [intOf] <;> omega
      · have c1 : decide ((k : Int) < 20) = false := decide_eq_false (by omega)
        have HT : Hid (((l.take (k + 1)).map fun e => shE (et e)).take 20 = ((l.take k).map fun e => shE (et e)).take 20) := Lib.hid (by
          rw [← List.map_take, ← List.map_take, List.take_take, List.take_take, Nat.min_eq_left (by omega), Nat.min_eq_left (by omega)])
        have HSV := Lib.hid (And.intro SV BV)
        clear SV BV BB KD z0 g0
        go_wp2_with fail
        go_roundw
        case rel => exact ⟨k + 1, A2, n2, c2, E, by omega, by go_num, rfl, hn2, Lib.hid ⟨HSV.out.1, by rw [HT.out]; exact HJ.out.2.1, HSV.out.2, fun h => by omega⟩⟩
        case measure => simp [intOf] <;> omega
    · obtain rfl : k = n := by omega
      have HT : Hid (((l.take k).map fun e => shE (et e)).take 20 = fewF l) := Lib.hid (by unfold fewF; rw [List.take_of_length_le (l := l) (by rw [HL.out]; exact Nat.le_refl _)])
      go_wp2
      go_ret
      exact ⟨A2, n2, c2, E, rfl, HJ.out.1, by rw [HJ.out.2.1, HT.out], hn2, HJ.out.2.2.1⟩

end Go.Proofs.Ytniilfcbiliegaa
