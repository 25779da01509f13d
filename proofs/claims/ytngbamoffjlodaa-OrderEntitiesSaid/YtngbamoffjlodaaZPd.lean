/-
  The document's Copy; the statements' short. No statement is proved here.
-/
import Derived.Test.YtngbamoffjlodaaZPc
import Derived.Deep.RegionHeld3
namespace Go.Proofs.Ytngbamoffjlodaa
open Go.RowKit Go.Maps

theorem wait_info : (Try.prog.info? 67).map (fun i => (i.zero, i.size, i.bytes)) = some (some (.agg #[.int .i64 0, .int .u64 0, .bool false]), 3, 24) := by kernel_rfl
theorem slice_info : (Try.prog.info? 40).map (fun i => (i.zero, i.size, i.bytes)) = some (some (.slice none 0 0), 1, 24) := by kernel_rfl
theorem wtv_ones (l : List Wt) : ∀ u ∈ flat wtv l, u.oneCell' = true := flat_all wtv (fun a u hu => by
  simp only [wtv, List.mem_cons, List.not_mem_nil, or_false] at hu
  rcases hu with rfl | rfl | rfl <;> rfl) l
theorem gv_ones (l : List Gg) : ∀ u ∈ flat gv l, u.oneCell' = true := flat_all gv (fun a u hu => by
  simp only [gv, List.mem_cons, List.not_mem_nil, or_false] at hu
  rcases hu with rfl; rfl) l
theorem own_new {V W : World} {base size n : Nat} {e : TypeId} {v : Value} {xs : List Value} (h : V.ownsRow base e size v n xs) (o : Obj) (hg : (V.alloc o).grownBy W (some V.heap.size)) : W.ownsRow base e size v n xs := by
  refine (h.alloc o).kept hg ?_
  cases ho : v.ownBlock with
  | none => exact .inl rfl
  | some k => exact .inr (fun he => by have := (h.lt k ho).2; injection he with he; omega)
theorem own3 {w : World} {base n size : Nat} {e : TypeId} {v a b c : Value} {xs : List Value} (h : w.ownsRow base e size v n xs) {g : Nat} (hg : g < base) : (((w.setCell ⟨g, 0, none⟩ a).setCell ⟨g, 1, none⟩ b).setCell ⟨g, 2, none⟩ c).ownsRow base e size v n xs := own_set (own_set (own_set h hg 0 a) hg 1 b) hg 2 c
theorem far3 {w : World} {k g : Nat} {t : TypeId} {cs : Array Value} (h : Blk w k t cs) (hk : k ≠ g) (a b c : Value) : Blk (((w.setCell ⟨g, 0, none⟩ a).setCell ⟨g, 1, none⟩ b).setCell ⟨g, 2, none⟩ c) k t cs :=
  ((h.far (p := ⟨g, 0, none⟩) hk a).far (p := ⟨g, 1, none⟩) hk b).far (p := ⟨g, 2, none⟩) hk c
theorem put3b {w w1 : World} {g b : Nat} {t : TypeId} {p1 p2 p3 x y z : Value} (K : Blk w1 g t #[p1, p2, p3]) (B : Below b w w1) (hg : b ≤ g) :
    Blk (((w1.setCell ⟨g, 0, none⟩ x).setCell ⟨g, 1, none⟩ y).setCell ⟨g, 2, none⟩ z) g t #[x, y, z] ∧ Below b w (((w1.setCell ⟨g, 0, none⟩ x).setCell ⟨g, 1, none⟩ y).setCell ⟨g, 2, none⟩ z) := by
  refine ⟨?_, ((B.setCell (p := ⟨g, 0, none⟩) hg x).setCell (p := ⟨g, 1, none⟩) hg y).setCell (p := ⟨g, 2, none⟩) hg z⟩
  have := ((K.set_ 0 x).set_ 1 y).set_ 2 z
  simpa using this
/-- a queue in memory of its own -/
def Copied (n : Nat) (qs : List Rn) (w : World) (e : Ending) (w' : World) : Prop := ∃ A c, e = .returned (.agg #[.slice A n c]) ∧ w'.ownsRow w.heap.size 59 5 (.slice A n c) n (flat rv qs) ∧ Below w.heap.size w w'

set_option maxRecDepth 100000 in
set_option maxHeartbeats 4000000 in
theorem copy_any (A : Option Addr) (n c : Nat) (qs : List Rn) (w : World) (hR : Reads w w.heap.size 5 A n (flat rv qs)) (hn : n ≤ 1000) : Calls Try.prog 32 #[.agg #[.slice A n c]] w (Copied n qs w) := by
  obtain ⟨i0, hi0, hz0, hz1, hz2⟩ := info_parts9 rn_info
  obtain ⟨K0, K, GB⟩ := blks2 w 26 26 #[.slice A n c] #[.slice none 0 0]
  have hbz := GB.size
  have HRr := Lib.hid (((hR.below GB).more GB.size).alloc (Nat.le_refl _) (.cells #[] 59))
  have k0 := (K0.alloc (.cells #[] 59)).cell 0
  have HS := Lib.hid (And.intro (K.alloc (.cells #[] 59)) (And.intro (GB.alloc hbz (.cells #[] 59)) hbz))
  clear hR K0 K GB hbz
  go_enter Try.func32, Try.ntmps32
  go_wp2_with (
    at_builtin
    refine wpList_append_any _ rfl (.tmp 3) (.tmp 5) 24 rfl (w.heap.size + 1 + 1) 59 i0 (.agg #[.int .i64 0, .int .i64 0, .int .u64 0, .int .u64 0, .int .u64 0]) 5 40 Try.underlying24 hi0 hz0 hz1 hz2 rfl (by decide) (.slice (some ⟨w.heap.size + 1 + 1, 0, none⟩) 0 0) 0 [] rfl (by simpa using World.ownsRow_made ((w.alloc (.cells #[.slice A n c] 26)).alloc (.cells #[.slice none 0 0] 26)) #[] 0 (Nat.le_refl _) (by simp [maxLen]) (by simp)) _ A n c (flat rv qs) rfl HRr.out (rv_ones _) (by simp only [maxLen]; omega) (by omega) (by simp) ?_
    intro v9 w9 own9 grow9 hw9
    rw [List.nil_append, Nat.zero_add] at own9
    obtain ⟨A9, c9, rfl, _, _⟩ := own_reads own9
    have hb9 : ∀ k, (Value.slice (some ⟨w.heap.size + 1 + 1, 0, none⟩) 0 0).ownBlock = some k → w.heap.size + 1 + 1 ≤ k := fun k hk => by simp [Value.ownBlock] at hk; omega
    have KK := HS.out.1.grown grow9 (fun hk => by have := hb9 _ hk.symm; omega)
    have GG := HS.out.2.1.grown grow9 (by simp; omega) (fun g hg => by have := hb9 g hg; omega)
    have d0 := KK.cell 0
    have f0 := KK.frozen 0
    have HP := Lib.hid (put1 (x := .slice A9 n c9) KK GG (by omega))
    have HO := Lib.hid (own_down (own_set own9 (g := w.heap.size + 1) (by omega) 0 (.slice A9 n c9)) (show w.heap.size ≤ w.heap.size + 1 + 1 by omega))
    clear own9 grow9 hw9 KK GG hb9)
  exact bodyPost_ret (v := .agg #[.slice A9 n c9]) (results_cell_row Try.results32 _ _ _ _ _ _ _ rfl HP.out.1 Try.underlying26 rfl (by kernel_rfl)) rfl ⟨_, _, rfl, HO.out, HP.out.2⟩


/-- gangs that came in -/
structure GA (w : World) (A : Option Addr) (n : Nat) (l : List Gg) : Prop where
  row : Reads w w.heap.size 1 A n (flat gv l)
  big : n ≤ maxLen
  mem : ∀ g ∈ l, Reads w w.heap.size 1 g.1 g.2.1 (vs g.2.2.2) ∧ g.2.1 ≤ g.2.2.1
theorem GA.below {w w' : World} {A : Option Addr} {n : Nat} {l : List Gg} (h : GA w A n l) (hb : Below w.heap.size w w') : GA w' A n l :=
  ⟨(h.row.below hb).more hb.size, h.big, fun e he => ⟨((h.mem e he).1.below hb).more hb.size, (h.mem e he).2⟩⟩
theorem GA.len {w : World} {A : Option Addr} {n : Nat} {l : List Gg} (h : GA w A n l) : l.length = n := by
  have h1 := h.row.1
  rw [length_flat gv length_gv] at h1
  omega
theorem GA.at_ {w : World} {A : Option Addr} {n : Nat} {gs : List Gg} (h : GA w A n gs) {k : Nat} {g : Gg} (hx : gs[k]? = some g) :
    ∃ ad, A = some ad ∧ ad.block < w.heap.size ∧ w.cell? (ad.add k) = some (.slice g.1 g.2.1 g.2.2.1) := by
  obtain ⟨ad, e, hb, hc⟩ := h.row.elem gv length_gv hx (by omega)
  have := hc 0 _ rfl
  rw [Nat.mul_one, Nat.add_zero] at this
  exact ⟨ad, e, hb, this⟩
/-- the slice of a gang -/
def slG (g : Gg) : Value := .slice g.1 g.2.1 g.2.2.1
/-- gangs in memory of their own, from B on -/
structure GO (w : World) (B : Nat) (A : Option Addr) (n c : Nat) (G : List Gg) : Prop where
  row : w.ownsRow B 40 1 (.slice A n c) n (flat gv G)
  mem : ∀ g ∈ G, w.ownsRow B 3 1 (slG g) g.2.1 (vs g.2.2.2)
  ne : ∀ g ∈ G, ∀ j j', (slG g).ownBlock = some j → (Value.slice A n c).ownBlock = some j' → j ≠ j'
section
variable {w w' : World} {B : Nat} {A : Option Addr} {n c : Nat} {G : List Gg}
theorem GO.below (h : GO w B A n c G) (hb : Below w.heap.size w w') : GO w' B A n c G := ⟨own_below h.row hb, fun e he => own_below (h.mem e he) hb, h.ne⟩
theorem GO.new (h : GO w B A n c G) (o : Obj) (hg : (w.alloc o).grownBy w' (some w.heap.size)) : GO w' B A n c G := ⟨own_new h.row o hg, fun e he => own_new (h.mem e he) o hg, h.ne⟩
theorem GO.set3 (h : GO w B A n c G) {a b c' : Value} {g : Nat} (hg : g < B) : GO (((w.setCell ⟨g, 0, none⟩ a).setCell ⟨g, 1, none⟩ b).setCell ⟨g, 2, none⟩ c') B A n c G := ⟨own3 h.row hg, fun e he => own3 (h.mem e he) hg, h.ne⟩
theorem GO.down (h : GO w B A n c G) {B' : Nat} (hb : B' ≤ B) : GO w B' A n c G := ⟨own_down h.row hb, fun e he => own_down (h.mem e he) hb, h.ne⟩
theorem GO.len (h : GO w B A n c G) : G.length = n := by
  have h1 := h.row.1
  rw [length_flat gv length_gv] at h1
  omega
theorem GO.more {A2 : Option Addr} {c2 : Nat} {o : Obj} {e : Gg} (h : GO w B A n c G) (hm : w.ownsRow B 3 1 (slG e) e.2.1 (vs e.2.2.2)) (hne : ∀ j j', (slG e).ownBlock = some j → (Value.slice A n c).ownBlock = some j' → j ≠ j')
    (hg : (w.alloc o).grownBy w' (Value.slice A n c).ownBlock) (ho : w'.ownsRow B 40 1 (.slice A2 (n + 1) c2) (n + 1) (flat gv (G ++ [e]))) (hw : (Value.slice A2 (n + 1) c2).ownBlock = (Value.slice A n c).ownBlock ∨ (Value.slice A2 (n + 1) c2).ownBlock = some (w.alloc o).heap.size) :
    GO w' B A2 (n + 1) c2 (G ++ [e]) := by
  refine ⟨ho, fun x hx => ?_, fun x hx => ?_⟩
  · rw [List.mem_append, List.mem_singleton] at hx
    rcases hx with hx | rfl
    · exact own_other ((h.mem x hx).alloc o) hg (h.ne x hx)
    · exact own_other (hm.alloc o) hg hne
  · rw [List.mem_append, List.mem_singleton] at hx
    rcases hx with hx | rfl
    · exact ne_other ((h.mem x hx).alloc o) (h.ne x hx) hw
    · exact ne_other (hm.alloc o) hne hw
end
/-- what the statements keep of gangs -/
def shG (gs : List Gg) : List (List Int) := (gs.map fun g => g.2.2.2.take 17).take 17
def Short (qs : List Rn) (ws : List Wt) (gs : List Gg) (w : World) (e : Ending) (w' : World) : Prop :=
  ∃ A n c A' n' c' A2 n2 c2 G, e = .returned (.agg #[.slice A n c, .slice A' n' c', .slice A2 n2 c2]) ∧ w'.ownsRow w.heap.size 59 5 (.slice A n c) n (flat rv (qs.take 17)) ∧ w'.ownsRow w.heap.size 67 3 (.slice A' n' c') n' (flat wtv (ws.take 17)) ∧
    GO w' w.heap.size A2 n2 c2 G ∧ gsI G = shG gs ∧ (∀ g ∈ G, g.2.1 ≤ 17) ∧ n ≤ 17 ∧ n' ≤ 17 ∧ n2 ≤ 17 ∧ Below w.heap.size w w'

set_option maxRecDepth 100000 in
set_option maxHeartbeats 16000000 in
theorem short_any (A : Option Addr) (n c : Nat) (qs : List Rn) (A' : Option Addr) (n' c' : Nat) (ws : List Wt) (A2 : Option Addr) (n2 c2 : Nat) (gs : List Gg) (w : World) (hQ : Reads w w.heap.size 5 A n (flat rv qs)) (hq : n ≤ c) (hW : Reads w w.heap.size 3 A' n' (flat wtv ws)) (hw : n' ≤ c') (hG : GA w A2 n2 gs) :
    Calls Try.prog 10 #[.agg #[.slice A n c, .slice A' n' c', .slice A2 n2 c2]] w (Short qs ws gs w) := by
  obtain ⟨i0, hi0, hz0, hz1, hz2⟩ := info_parts9 wait_info
  obtain ⟨ji, hi1, hy0, hy1, hy2⟩ := info_parts9 slice_info
  obtain ⟨K0, K1, GB⟩ := blks2 w 30 30 #[.slice A n c, .slice A' n' c', .slice A2 n2 c2] #[.slice none 0 0, .slice none 0 0, .slice none 0 0]
  have hcq := cut_reads length_rv hQ 17
  have hcw := cut_reads length_wtv hW 17
  obtain ⟨m, hm⟩ : ∃ m, min n 17 = m := ⟨_, rfl⟩
  obtain ⟨m', hm'⟩ : ∃ m', min n' 17 = m' := ⟨_, rfl⟩
  rw [hm] at hcq
  rw [hm'] at hcw
  have HRW := Lib.hid (fun (u : World) (h : Below w.heap.size w u) => hcw.below h)
  have HCo := Lib.hid (fun (u : World) (h : Below w.heap.size w u) (c5 : Nat) => copy_any A m c5 (qs.take 17) u ((hcq.below h).more h.size) (by omega))
  have HGA := Lib.hid hG
  have HL := Lib.hid hG.len
  have HM7 : Hid (m ≤ 17 ∧ m' ≤ 17) := Lib.hid (by omega)
  have hmi : min (n : Int) 17 = (m : Int) := by omega
  have hmi' : min (n' : Int) 17 = (m' : Int) := by omega
  have m0 : (0 : Int) ≤ (m : Int) := by omega
  have m1 : (m : Int) ≤ (c : Int) := by omega
  have m2 : (0 : Int) ≤ (m' : Int) := by omega
  have m3 : (m' : Int) ≤ (c' : Int) := by omega
  have hn2 : n2 ≤ 9223372036854775807 := by have := hG.big; unfold maxLen at this; omega
  have z0 := K0.cell 0
  have z1 := K0.cell 1
  have z2 := K0.cell 2
  clear hQ hq hW hw hG hcq hcw hm hm'
  go_enter Try.func10, Try.ntmps10
  go_wp2_with fail
  clear z0 z1 z2
  have hXz : ((w.alloc (.cells #[.slice A n c, .slice A' n' c', .slice A2 n2 c2] 30)).alloc (.cells #[.slice none 0 0, .slice none 0 0, .slice none 0 0] 30)).heap.size = w.heap.size + 1 + 1 := by simp
  generalize World.alloc (World.alloc _ _) _ = X at K0 K1 GB hXz ⊢
  have HX := Lib.hid (And.intro K0 (And.intro K1 (And.intro GB (Nat.le_of_eq hXz.symm))))
  have HXZ := Lib.hid hXz
  clear hXz
  go_loopw [3, 10] (fun s i wr => ∃ (k : Nat) (A5 : Option Addr) (n5 c5 : Nat) (G : List Gg), k ≤ n2 ∧ i = .int .i64 (k : Int) ∧ s = .slice A5 n5 c5 ∧ n5 ≤ 17 ∧ Hid (GO wr (w.heap.size + 1 + 1) A5 n5 c5 G ∧ gsI G = ((gs.take k).map fun g => g.2.2.2.take 17).take 17 ∧ (∀ g ∈ G, g.2.1 ≤ 17) ∧ Below X.heap.size X wr ∧ (k < 17 → n5 = k))) (fun _ i _ => n2 - (intOf i).toNat)
  case atStart => exact ⟨0, none, 0, 0, [], Nat.zero_le _, rfl, rfl, by omega, Lib.hid ⟨⟨World.ownsRow_nil _ _ _ _, (fun e he => by cases he), (fun e he => by cases he)⟩, rfl, (fun e he => by cases he), Below.refl _ _, fun _ => rfl⟩⟩
  case round =>
    clear K0 K1 GB
    obtain ⟨k, A5, n5, c5, G, hk, rfl, rfl, hn5, HJ⟩ := hrel
    by_cases hlt : k < n2
    · obtain ⟨⟨A3, n3, c3, is⟩, hx⟩ := elem_at (l := gs) (k := k) (by rw [HL.out]; exact hlt)
      have hB : Below w.heap.size w wr := HX.out.2.2.1.trans (HJ.out.2.2.2.1.mono HX.out.2.2.1.size)
      obtain ⟨ad, rfl, hb1, d0⟩ := (HGA.out.below hB).at_ hx
      have hM := (HGA.out.below hB).mem _ (List.mem_of_getElem? hx)
      have HI := Lib.hid (ints_any A3 n3 c3 is _ hM.1 hM.2)
      have HX2 := Lib.hid hx
      have i1 : (0 : Int) ≤ (k : Int) := by omega
      have i2 : (k : Int) < (n2 : Int) := by omega
      clear hx hb1 hM hB
      by_cases h17 : k < 17
      · have c1 : decide ((k : Int) < 17) = true := decide_eq_true (by omega)
        have hnk := HJ.out.2.2.2.2 h17
        subst hnk
        have HT : Hid (((gs.take (n5 + 1)).map fun g => g.2.2.2.take 17).take 17 = ((gs.take n5).map fun g => g.2.2.2.take 17).take 17 ++ [is.take 17]) := Lib.hid (by
          have e9 : gs.take (n5 + 1) = gs.take n5 ++ [(A3, n3, c3, is)] := by rw [List.take_add_one (l := gs), HX2.out]; rfl
          rw [e9, List.map_append, List.take_of_length_le (i := 17) (by simp; omega), List.take_of_length_le (i := 17) (by simp; omega)]
          rfl)
        go_wp2_with fail
        refine HI.out.mono ?_
        rintro e w4 ⟨A4, c4, rfl, own4, h9⟩
        obtain ⟨q, hq⟩ : ∃ q, min n3 17 = q := ⟨_, rfl⟩
        have HQ7 : Hid (q ≤ 17) := Lib.hid (by omega)
        rw [hq] at own4 ⊢
        obtain ⟨SG, eG, h7, BX, _⟩ := HJ.out
        have hne : ∀ j j', (Value.slice A4 q c4).ownBlock = some j → (Value.slice A5 n5 c5).ownBlock = some j' → j ≠ j' := fun j j' hj hj' => by
          have := (own4.lt j hj).1
          have := (SG.row.lt j' hj').2
          omega
        have hBX : w.heap.size + 1 + 1 ≤ wr.heap.size := Nat.le_trans HX.out.2.2.2 BX.size
        replace SG := SG.below h9
        replace BX := BX.trans (h9.mono BX.size)
        have HS := Lib.hid (And.intro SG (And.intro (own_down own4 hBX) (And.intro BX hne)))
        clear SG BX own4 h9 hne hBX hq
        go_wp2_with (
          at_builtin
          refine wpList_append_any _ rfl (.tmp 17) (.tmp 20) 28 rfl (w.heap.size + 1 + 1) 40 ji (.slice none 0 0) 1 24 Try.underlying28 hi1 hy0 hy1 hy2 rfl (by decide) (.slice A5 n5 c5) n5 (flat gv G) rfl (HS.out.1.row.alloc _) _ (some ⟨w4.heap.size, 0, none⟩) 1 1 (flat gv [(A4, q, c4, is.take 17)]) rfl (reads_new _ _ _ rfl (by simp)) (gv_ones _) (by simp only [maxLen]; omega) (by omega) (by have := Nat.le_trans HX.out.2.2.2 HS.out.2.2.1.size; simp; omega) ?_
          intro v9 w9 own9 grow9 ne9
          rw [← flat_append] at own9
          obtain ⟨A9, c9, rfl, _, _⟩ := own_reads own9
          have HF : Hid (GO w9 (w.heap.size + 1 + 1) A9 (n5 + 1) c9 (G ++ [(A4, q, c4, is.take 17)])) := Lib.hid (HS.out.1.more HS.out.2.1 HS.out.2.2.2 grow9 own9 ne9)
          have HB9 : Hid (Below X.heap.size X w9) := Lib.hid ((HS.out.2.2.1.alloc HS.out.2.2.1.size _).grown grow9 (HS.out.2.2.1.alloc HS.out.2.2.1.size _).size (fun j hj => by have := (HS.out.1.row.lt j hj).1; have := HXZ.out; omega))
          clear own9 grow9 ne9)
        clear d0
        go_wp2
        go_roundw
        case rel => exact ⟨n5 + 1, A9, n5 + 1, c9, _, by omega, by go_num, rfl, by omega, Lib.hid ⟨HF.out, by rw [HT.out]; unfold gsI; rw [List.map_append]; have := HJ.out.2.1; unfold gsI at this; rw [this]; rfl, fun g hg => by
          rw [List.mem_append, List.mem_singleton] at hg
          rcases hg with hg | rfl
          · exact HJ.out.2.2.1 g hg
          · exact HQ7.out, HB9.out, fun _ => rfl⟩⟩
        case measure => simp [intOf] <;> omega
      · have c1 : decide ((k : Int) < 17) = false := decide_eq_false (by omega)
        have HT : Hid (((gs.take (k + 1)).map fun g => g.2.2.2.take 17).take 17 = ((gs.take k).map fun g => g.2.2.2.take 17).take 17) := Lib.hid (by
          rw [← List.map_take, ← List.map_take, List.take_take, List.take_take, Nat.min_eq_left (by omega), Nat.min_eq_left (by omega)])
        go_wp2_with fail
        go_roundw
        case rel => exact ⟨k + 1, A5, n5, c5, G, by omega, by go_num, rfl, hn5, Lib.hid ⟨HJ.out.1, by rw [HT.out]; exact HJ.out.2.1, HJ.out.2.2.1, HJ.out.2.2.2.1, fun h => by omega⟩⟩
        case measure => simp [intOf] <;> omega
    · obtain rfl : k = n2 := by omega
      have HT : Hid (((gs.take k).map fun g => g.2.2.2.take 17).take 17 = shG gs) := Lib.hid (by unfold shG; rw [List.take_of_length_le (l := gs) (by rw [HL.out]; exact Nat.le_refl _)])
      have HGF : Hid (gsI G = shG gs ∧ (∀ g ∈ G, g.2.1 ≤ 17) ∧ n5 ≤ 17) := Lib.hid ⟨by rw [HJ.out.2.1, HT.out], HJ.out.2.2.1, hn5⟩
      have BX := HJ.out.2.2.2.1
      have KRow := HX.out.1.below BX HX.out.1.lt
      have KRes := HX.out.2.1.below BX HX.out.2.1.lt
      have hB : Below w.heap.size w wr := HX.out.2.2.1.trans (BX.mono HX.out.2.2.1.size)
      have z0 := KRow.cell 0
      have SG := HJ.out.1
      have hB2 : w.heap.size + 1 + 1 ≤ wr.heap.size := Nat.le_trans HX.out.2.2.2 BX.size
      obtain ⟨G5, hG5⟩ : ∃ x, G = x := ⟨_, rfl⟩
      rw [hG5] at SG HGF
      clear HJ hG5 G HT
      go_wp2_with fail
      refine (HCo.out _ hB _).mono ?_
      rintro e w6 ⟨A4, c4, rfl, own6, h9⟩
      replace own6 := own_down own6 hB2
      replace SG := SG.below h9
      replace KRow := KRow.below h9 KRow.lt
      replace KRes := KRes.below h9 KRes.lt
      replace hB := hB.trans (h9.mono hB.size)
      have hs6 := h9.size
      clear z0 h9
      have KQ := Blk.new w6 26 #[.slice A4 m c4]
      have BQ := (Below.refl w6.heap.size w6).alloc (Nat.le_refl _) (.cells #[.slice A4 m c4] 26)
      have hsz : (w6.alloc (.cells #[.slice A4 m c4] 26)).heap.size = w6.heap.size + 1 := by simp
      have HV0 := Lib.hid (And.intro (own_below own6 BQ) (And.intro (SG.below BQ) (And.intro (KRes.below BQ KRes.lt) (And.intro (hB.trans (BQ.mono hB.size)) (And.intro (show w.heap.size + 1 + 1 ≤ (w6.alloc (.cells #[.slice A4 m c4] 26)).heap.size by omega) (And.intro (show w.heap.size < (w6.alloc (.cells #[.slice A4 m c4] 26)).heap.size by omega) (And.intro KQ.lt (show w.heap.size + 1 + 1 ≤ w6.heap.size by omega))))))))
      have KR0 := KRow.below BQ KRow.lt
      clear own6 SG KRow KRes hB hB2 BQ hsz hs6
      go_upto_region 9 with fail
      refine wp_region_held_drew (S := fun u => Blk u w.heap.size 30 #[.slice A n c, .slice A' n' c', .slice A2 k c2] ∧ Blk u w6.heap.size 26 #[.slice A4 m c4]) (by kernel_rfl) ⟨KR0, KQ⟩ (fun hS => ?_)
      obtain ⟨gq, hgq⟩ : ∃ x, w6.heap.size = x := ⟨_, rfl⟩
      have HDR := (Below.refl (w6.alloc (.cells #[.slice A4 m c4] 26)).heap.size (w6.alloc (.cells #[.slice A4 m c4] 26))).drew
      have HV1 := Lib.hid (show _ ∧ _ ∧ _ ∧ _ ∧ _ ∧ _ ∧ _ ∧ _ from ⟨own_below HV0.out.1 HDR, HV0.out.2.1.below HDR, HV0.out.2.2.1.below HDR HV0.out.2.2.1.lt, HV0.out.2.2.2.1.drew, HV0.out.2.2.2.2.1, HV0.out.2.2.2.2.2.1, HV0.out.2.2.2.2.2.2.1, HV0.out.2.2.2.2.2.2.2⟩)
      have hdz : (World.drew (w6.alloc (.cells #[.slice A4 m c4] 26))).heap.size = (w6.alloc (.cells #[.slice A4 m c4] 26)).heap.size := rfl
      rw [← hdz, hgq] at HV1
      rw [hgq] at hS ⊢
      clear HV0 KR0 KQ HDR hdz hgq
      obtain ⟨V, hV⟩ : ∃ V, World.drew (w6.alloc (.cells #[.slice A4 m c4] 26)) = V := ⟨_, rfl⟩
      rw [hV] at HV1 hS ⊢
      have HV := HV1
      clear HV1 hV
      refine wpAnyH_take (i := 0) (v := .agg #[.slice A4 m c4]) rfl (by kernel_rfl) (by kernel_rfl) (by kernel_rfl) (fun _ _ _ h => h) (Or.inl ⟨by kernel_rfl, fun u hSw => (by have q0 := hSw.2.cell 0; go_simp)⟩) hS ?_
      change wpAnyH _ _ _ _ _ _ _ (Act.put _ (some 34) _) _
      simp only [Act.put]
      try simp only [List.setIfInBounds_toArray, List.set_cons_zero, List.set_cons_succ]
      refine wpAnyH_take (i := 2) (v := .pointer (some ⟨w.heap.size, 1, none⟩)) rfl (by kernel_rfl) (by kernel_rfl) (by kernel_rfl) (fun _ _ _ h => h) (Or.inl ⟨by kernel_rfl, fun u hSw => (by go_simp)⟩) hS ?_
      change wpAnyH _ _ _ _ _ _ _ (Act.put _ (some 36) _) _
      simp only [Act.put]
      try simp only [List.setIfInBounds_toArray, List.set_cons_zero, List.set_cons_succ]
      refine wpAnyH_take (i := 3) (v := .slice A' n' c') rfl (by kernel_rfl) (by kernel_rfl) (by kernel_rfl) (fun _ _ _ h => h) (Or.inl ⟨by kernel_rfl, fun u hSw => (by have q0 := hSw.1.cell 1; go_simp)⟩) hS ?_
      change wpAnyH _ _ _ _ _ _ _ (Act.put _ (some 37) _) _
      simp only [Act.put]
      try simp only [List.setIfInBounds_toArray, List.set_cons_zero, List.set_cons_succ]
      refine wpAnyH_take (i := 4) (v := .pointer (some ⟨w.heap.size, 1, none⟩)) rfl (by kernel_rfl) (by kernel_rfl) (by kernel_rfl) (fun _ _ _ h => h) (Or.inl ⟨by kernel_rfl, fun u hSw => (by go_simp)⟩) hS ?_
      change wpAnyH _ _ _ _ _ _ _ (Act.put _ (some 38) _) _
      simp only [Act.put]
      try simp only [List.setIfInBounds_toArray, List.set_cons_zero, List.set_cons_succ]
      refine wpAnyH_take (i := 5) (v := .slice A' n' c') rfl (by kernel_rfl) (by kernel_rfl) (by kernel_rfl) (fun _ _ _ h => h) (Or.inl ⟨by kernel_rfl, fun u hSw => (by have q0 := hSw.1.cell 1; go_simp)⟩) hS ?_
      change wpAnyH _ _ _ _ _ _ _ (Act.put _ (some 39) _) _
      simp only [Act.put]
      try simp only [List.setIfInBounds_toArray, List.set_cons_zero, List.set_cons_succ]
      refine wpAnyH_take (i := 6) (v := .int .i64 (n' : Int)) rfl (by kernel_rfl) (by kernel_rfl) (by kernel_rfl) (fun _ _ _ h => h) (Or.inl ⟨by kernel_rfl, fun u hSw => (by go_simp)⟩) hS ?_
      change wpAnyH _ _ _ _ _ _ _ (Act.put _ (some 40) _) _
      simp only [Act.put]
      try simp only [List.setIfInBounds_toArray, List.set_cons_zero, List.set_cons_succ]
      refine wpAnyH_take (i := 7) (v := .int .i64 (m' : Int)) rfl (by kernel_rfl) (by kernel_rfl) (by kernel_rfl) (fun _ _ _ h => h) (Or.inl ⟨by kernel_rfl, fun u hSw => (by go_simp)⟩) hS ?_
      change wpAnyH _ _ _ _ _ _ _ (Act.put _ (some 41) _) _
      simp only [Act.put]
      try simp only [List.setIfInBounds_toArray, List.set_cons_zero, List.set_cons_succ]
      refine wpAnyH_take (i := 8) (v := .slice A' m' c') rfl (by kernel_rfl) (by kernel_rfl) (by kernel_rfl) (fun _ _ _ h => h) (Or.inl ⟨by kernel_rfl, fun u hSw => (by go_simp)⟩) hS ?_
      change wpAnyH _ _ _ _ _ _ _ (Act.put _ (some 42) _) _
      simp only [Act.put]
      try simp only [List.setIfInBounds_toArray, List.set_cons_zero, List.set_cons_succ]
      refine wpAnyH_take (i := 10) (v := .slice A5 n5 c5) rfl (by kernel_rfl) (by kernel_rfl) (by kernel_rfl) (fun _ _ _ h => h) (Or.inl ⟨by kernel_rfl, fun u hSw => (by go_simp)⟩) hS ?_
      change wpAnyH _ _ _ _ _ _ _ (Act.put _ (some 44) _) _
      simp only [Act.put]
      try simp only [List.setIfInBounds_toArray, List.set_cons_zero, List.set_cons_succ]
      refine wpAnyH_ready (rs := [1]) (by kernel_rfl) (by simp) ?_
      refine AllReadyH.cons rfl (fun K hK => ?_) AllReadyH.nil
      go_simp
      refine hK.out _ _ ⟨hS.1.alloc (.cells #[] 67), hS.2.alloc (.cells #[] 67)⟩ (fun hS => ?_)
      clear hK K
      refine wpAnyH_ready (rs := [9]) (by kernel_rfl) (by simp) ?_
      refine AllReadyH.cons rfl (fun K hK => ?_) AllReadyH.nil
      refine step_append_any _ rfl (.tmp 35) (.tmp 42) 27 rfl (w.heap.size + 1 + 1) 67 i0 (.agg #[.int .i64 0, .int .u64 0, .bool false]) 3 24 Try.underlying27 hi0 hz0 hz1 hz2 rfl (by decide) (.slice (some ⟨V.heap.size, 0, none⟩) 0 0) 0 [] rfl (by simpa using World.ownsRow_made V #[] 0 HV.out.2.2.2.2.1 (by simp [maxLen]) (by simp)) _ A' m' c' (flat wtv (ws.take 17)) rfl (HRW.out _ (HV.out.2.2.2.1.alloc HV.out.2.2.2.1.size (.cells #[] 67))) (wtv_ones _) (by have := HM7.out; simp only [maxLen]; omega) (by have := HM7.out; omega) (by have := HV.out.2.2.2.2.1; simp; omega) ?_
      intro v9 w9 own9 grow9 _
      rw [List.nil_append, Nat.zero_add] at own9
      obtain ⟨QV, GV, KR, BV, hB, hl1, hl2, hq1⟩ := HV.out
      have Q9 := own_new QV _ grow9
      have G9 := GV.new _ grow9
      have KR9 := (KR.alloc (.cells #[] 67)).grown grow9 (fun e => by have h : w.heap.size + 1 = V.heap.size := Option.some.inj e; have := KR.lt; omega)
      have S9 : Blk w9 w.heap.size 30 #[.slice A n c, .slice A' n' c', .slice A2 k c2] ∧ Blk w9 gq 26 #[.slice A4 m c4] := ⟨hS.1.grown grow9 (fun e => by have h : w.heap.size = V.heap.size := Option.some.inj e; omega), hS.2.grown grow9 (fun e => by have h : gq = V.heap.size := Option.some.inj e; omega)⟩
      have B9 := (BV.alloc BV.size (.cells #[] 67)).grown grow9 (BV.alloc BV.size (.cells #[] 67)).size (fun g hg => by have h : V.heap.size = g := Option.some.inj hg; rw [← h]; omega)
      obtain ⟨A9, c9, rfl, _, _⟩ := own_reads own9
      have HP3 := Lib.hid (put3b (x := .slice A4 m c4) (y := .slice A9 m' c9) (z := .slice A5 n5 c5) KR9 B9 (by omega))
      have HO3 := Lib.hid (And.intro (own3 (a := .slice A4 m c4) (b := .slice A9 m' c9) (c := .slice A5 n5 c5) Q9 (g := w.heap.size + 1) (by omega)) (And.intro (own3 (a := .slice A4 m c4) (b := .slice A9 m' c9) (c := .slice A5 n5 c5) own9 (g := w.heap.size + 1) (by omega)) (G9.set3 (a := .slice A4 m c4) (b := .slice A9 m' c9) (c' := .slice A5 n5 c5) (g := w.heap.size + 1) (by omega))))
      have k0 := KR9.cell 0
      have k1 := KR9.cell 1
      have k2 := KR9.cell 2
      have f0 := KR9.frozen 0
      have f1 := KR9.frozen 1
      have f2 := KR9.frozen 2
      have S10 : Blk (((w9.setCell ⟨w.heap.size + 1, 0, none⟩ (.slice A4 m c4)).setCell ⟨w.heap.size + 1, 1, none⟩ (.slice A9 m' c9)).setCell ⟨w.heap.size + 1, 2, none⟩ (.slice A5 n5 c5)) w.heap.size 30 #[.slice A n c, .slice A' n' c', .slice A2 k c2] ∧ Blk (((w9.setCell ⟨w.heap.size + 1, 0, none⟩ (.slice A4 m c4)).setCell ⟨w.heap.size + 1, 1, none⟩ (.slice A9 m' c9)).setCell ⟨w.heap.size + 1, 2, none⟩ (.slice A5 n5 c5)) gq 26 #[.slice A4 m c4] :=
        ⟨far3 S9.1 (by omega) _ _ _, far3 S9.2 (by omega) _ _ _⟩
      clear QV GV KR BV hB hl1 hl2 hq1 Q9 G9 KR9 B9 own9 grow9 hS
      refine hK.out _ _ S9 (fun hS => ?_)
      clear hK K S9
      refine wpAnyH_take (i := 11) (v := .agg #[.slice A4 m c4, .slice A9 m' c9, .slice A5 n5 c5]) rfl (by kernel_rfl) (by kernel_rfl) (by kernel_rfl) (fun _ _ _ h => h) (Or.inl ⟨by kernel_rfl, fun u hSw => (by go_simp)⟩) hS ?_
      change wpAnyH _ _ _ _ _ _ _ (Act.put _ (some 45) _) _
      simp only [Act.put]
      refine wpAnyH_ready (rs := [12]) (by kernel_rfl) (by simp) ?_
      refine AllReadyH.cons rfl (fun K hK => ?_) AllReadyH.nil
      go_simp
      refine hK.out _ _ S10 (fun hS => ?_)
      clear hK K S10 k0 k1 k2 f0 f1 f2
      refine wpAnyH_done (by kernel_rfl) ?_ _
      clear hS
      go_wp2_with fail
      exact bodyPost_ret (v := .agg #[.slice A4 m c4, .slice A9 m' c9, .slice A5 n5 c5]) (results_cell_row Try.results10 _ _ _ _ _ _ _ rfl HP3.out.1 Try.underlying30 rfl (by kernel_rfl)) rfl
        ⟨A4, m, c4, A9, m', c9, A5, n5, c5, G5, rfl, own_down HO3.out.1 (by omega), own_down HO3.out.2.1 (by omega), HO3.out.2.2.down (by omega), HGF.out.1, HGF.out.2.1, HM7.out.1, HM7.out.2, HGF.out.2.2, HP3.out.2⟩

end Go.Proofs.Ytngbamoffjlodaa
