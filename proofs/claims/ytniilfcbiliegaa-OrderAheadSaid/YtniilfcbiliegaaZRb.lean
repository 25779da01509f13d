/-
  The landed First, with the library's Clone. No statement is proved here.
-/
import Derived.Test.YtniilfcbiliegaaZRa
import Derived.WalkMore
namespace Go.Proofs.Ytniilfcbiliegaa
open Go.RowKit Go.Maps

theorem put6e {w w1 : World} {g b : Nat} {t : TypeId} {p1 p2 p3 p4 p5 p6 x1 x2 x3 x4 x5 x6 : Value} (K : Blk w1 g t #[p1, p2, p3, p4, p5, p6]) (B : Below b w w1) (hg : b ≤ g) :
    Blk ((((((w1.setCell ⟨g, 0, none⟩ x1).setCell ⟨g, 1, none⟩ x2).setCell ⟨g, 2, none⟩ x3).setCell ⟨g, 3, none⟩ x4).setCell ⟨g, 4, none⟩ x5).setCell ⟨g, 5, none⟩ x6) g t #[x1, x2, x3, x4, x5, x6] ∧
    Below b w ((((((w1.setCell ⟨g, 0, none⟩ x1).setCell ⟨g, 1, none⟩ x2).setCell ⟨g, 2, none⟩ x3).setCell ⟨g, 3, none⟩ x4).setCell ⟨g, 4, none⟩ x5).setCell ⟨g, 5, none⟩ x6) := by
  refine ⟨?_, (((((B.setCell (p := ⟨g, 0, none⟩) hg x1).setCell (p := ⟨g, 1, none⟩) hg x2).setCell (p := ⟨g, 2, none⟩) hg x3).setCell (p := ⟨g, 3, none⟩) hg x4).setCell (p := ⟨g, 4, none⟩) hg x5).setCell (p := ⟨g, 5, none⟩) hg x6⟩
  have := (((((K.set_ 0 x1).set_ 1 x2).set_ 2 x3).set_ 3 x4).set_ 4 x5).set_ 5 x6
  simpa using this
theorem far6 {w : World} {k g : Nat} {t : TypeId} {cs : Array Value} {x1 x2 x3 x4 x5 x6 : Value} (h : Blk w k t cs) (hk : k ≠ g) :
    Blk ((((((w.setCell ⟨g, 0, none⟩ x1).setCell ⟨g, 1, none⟩ x2).setCell ⟨g, 2, none⟩ x3).setCell ⟨g, 3, none⟩ x4).setCell ⟨g, 4, none⟩ x5).setCell ⟨g, 5, none⟩ x6) k t cs :=
  (((((h.far (p := ⟨g, 0, none⟩) hk x1).far (p := ⟨g, 1, none⟩) hk x2).far (p := ⟨g, 2, none⟩) hk x3).far (p := ⟨g, 3, none⟩) hk x4).far (p := ⟨g, 4, none⟩) hk x5).far (p := ⟨g, 5, none⟩) hk x6

theorem own6 {w : World} {base n size : Nat} {e : TypeId} {v : Value} {xs : List Value} {g : Nat} {x1 x2 x3 x4 x5 x6 : Value} (h : w.ownsRow base e size v n xs) (hg : g < base) :
    ((((((w.setCell ⟨g, 0, none⟩ x1).setCell ⟨g, 1, none⟩ x2).setCell ⟨g, 2, none⟩ x3).setCell ⟨g, 3, none⟩ x4).setCell ⟨g, 4, none⟩ x5).setCell ⟨g, 5, none⟩ x6).ownsRow base e size v n xs :=
  own_set (own_set (own_set (own_set (own_set (own_set h hg 0 x1) hg 1 x2) hg 2 x3) hg 3 x4) hg 4 x5) hg 5 x6
/-- the first one so far -/
def firstS (b : Option En) (x : En) : Option En := match b with
  | none => if canE (et x) = true then some x else none
  | some y => if aheadE (et x) (et y) = true then some x else some y
def firstK (l : List En) : Option En := l.foldl firstS none
theorem first_next {l : List En} {k : Nat} {x : En} (hx : l[k]? = some x) : firstK (l.take (k + 1)) = firstS (firstK (l.take k)) x := by
  unfold firstK
  rw [List.take_add_one, hx, List.foldl_append]
  rfl
def bc : Option En → Array Value
  | none => #[.slice none 0 0, .int .u64 0, .int .u64 0, .int .u64 0, .int .u64 0, .bool false]
  | some e => #[.slice e.1.1 e.1.2.1 e.1.2.2.1, .int .u64 (e.2.1.1 : Int), .int .u64 (e.2.1.2.1 : Int), .int .u64 (e.2.1.2.2 : Int), .int .u64 (e.2.2.1 : Int), .bool e.2.2.2]
theorem can_bool {A : Option Addr} {n c h l x o : Nat} {f : Bool} {is : List Int} (hl : is.length = n) : canE (et ((A, n, c, is), (h, l, x), o, f)) = canB n h l x := by
  unfold canE canB fN fW et
  simp only
  rw [hl]

set_option maxRecDepth 100000 in
set_option maxHeartbeats 4000000 in
theorem clone_none (w : World) : Calls Try.prog 51 #[.slice none 0 0] w (Said (.slice none 0 0) w) := by
  have hnil : ∀ u : World, (binOp BinOp.eql 40 (.slice none 0 0) (.slice none 0 0)).run Try.prog u = .ok (.bool true) u := fun u => by kernel_rfl
  go_enter Try.func51, Try.ntmps51
  go_wp2_with fail
  go_ret
  exact ⟨rfl, Below.refl _ _⟩
set_option maxRecDepth 100000 in
set_option maxHeartbeats 4000000 in
theorem clone_some (ad : Addr) (n c : Nat) (is : List Int) (w : World) (hR : IR w (some ad) n is) : Calls Try.prog 51 #[.slice (some ad) n c] w fun e w' =>
    ∃ A' c', e = .returned (.slice A' n c') ∧ w'.ownsRow w.heap.size 3 1 (.slice A' n c') n (vs is) ∧ Below w.heap.size w w' := by
  obtain ⟨i0, hi0, hz0, hz1, hz2⟩ := info_parts9 int_info
  have hn := hR.small
  have HC := Lib.hid (hR.row.alloc (Nat.le_refl _) (.cells #[] 3))
  have HB := Lib.hid ((Below.refl w.heap.size w).alloc (Nat.le_refl _) (.cells #[] 3))
  have hnil : ∀ u : World, (binOp BinOp.eql 40 (.slice (some ad) n c) (.slice none 0 0)).run Try.prog u = .ok (.bool false) u := fun u => by kernel_rfl
  clear hR
  go_enter Try.func51, Try.ntmps51
  go_wp2_with (
    at_builtin
    refine wpList_append_any _ rfl (.tmp 5) (.tmp 6) 40 rfl w.heap.size 3 i0 (.int .i64 0) 1 8 Try.underlying40 hi0 hz0 hz1 hz2 rfl (by decide) (.slice (some ⟨w.heap.size, 0, none⟩) 0 0) 0 [] rfl (by simpa using World.ownsRow_made w #[] 0 (Nat.le_refl _) (by simp [maxLen]) (by simp)) _ (some ad) n c (vs is) rfl HC.out (vs_ones _) (by simp only [maxLen]; omega) (by omega) (by simp) ?_
    intro v9 w9 own9 grow9 _
    rw [List.nil_append, Nat.zero_add] at own9
    obtain ⟨A9, c9, rfl, _, _⟩ := own_reads own9
    have HO := Lib.hid (And.intro own9 (HB.out.grown grow9 HB.out.size (fun k hk => by simp [Value.ownBlock] at hk; omega)))
    clear own9 grow9)
  go_ret
  exact ⟨A9, c9, rfl, HO.out.1, HO.out.2⟩

/-- the first one, its members in memory of their own -/
def FirstP (b : Option En) (w : World) (e : Ending) (w' : World) : Prop := Below w.heap.size w w' ∧ match b with
  | none => e = .returned (.tuple #[.agg #[.slice none 0 0, .int .u64 0, .int .u64 0, .int .u64 0, .int .u64 0, .bool false], .bool false])
  | some y => ∃ A c, e = .returned (.tuple #[.agg (agE A y.1.2.1 c y.2.1.1 y.2.1.2.1 y.2.1.2.2 y.2.2.1 y.2.2.2), .bool true]) ∧ w'.ownsRow w.heap.size 3 1 (.slice A y.1.2.1 c) y.1.2.1 (vs y.1.2.2.2)

set_option maxRecDepth 100000 in
set_option maxHeartbeats 16000000 in
theorem first_any (A : Option Addr) (n c : Nat) (l : List En) (w : World) (hA : EQ w A n l) (hN : ∀ e ∈ l, e.1.2.1 ≤ 1000) : Calls Try.prog 20 #[.slice A n c] w (FirstP (firstK l) w) := by
  have HQ := Lib.hid hA
  have hn := hA.small
  have HL := Lib.hid hA.len
  have HN := Lib.hid hN
  clear hN
  obtain ⟨K0, K1, GB⟩ := blks2 w 47 47 #[.slice none 0 0, .int .u64 0, .int .u64 0, .int .u64 0, .int .u64 0, .bool false] #[.slice none 0 0, .int .u64 0, .int .u64 0, .int .u64 0, .int .u64 0, .bool false]
  clear hA
  go_enter Try.func20, Try.ntmps20
  go_wp2_with fail
  go_step3
  go_wp2_with fail
  go_step3
  go_wp2_with fail
  go_loopw [5, 6] (fun sv iv wr => ∃ (k : Nat) (b : Option En), k ≤ n ∧ sv = .bool b.isSome ∧ iv = .int .i64 (k : Int) ∧ firstK (l.take k) = b ∧ Hid (∀ y, b = some y → y ∈ l ∧ canE (et y) = true) ∧ Blk wr (w.heap.size + 1) 47 (bc b) ∧ Blk wr w.heap.size 47 #[.slice none 0 0, .int .u64 0, .int .u64 0, .int .u64 0, .int .u64 0, .bool false] ∧ Below w.heap.size w wr) (fun _ iv _ => n - (intOf iv).toNat)
  case atStart => exact ⟨0, none, by omega, rfl, rfl, rfl, Lib.hid (fun y hy => by cases hy), K1, K0, GB⟩
  case round =>
    obtain ⟨k, b, hk, rfl, rfl, hb, HI, KF, KZ, GW⟩ := hrel
    have HKZ := Lib.hid KZ
    have HGB := Lib.hid GW
    obtain ⟨V, hV⟩ : ∃ V, wr = V := ⟨_, rfl⟩
    rw [hV] at KF HKZ HGB ⊢
    clear KZ GW hV
    by_cases hlt : k < n
    · obtain ⟨⟨⟨A1, n1, c1, is1⟩, ⟨h1, l1, x1⟩, o1, f1⟩, hx⟩ := elem_at (l := l) (k := k) (by rw [HL.out]; exact hlt)
      have hm := List.mem_of_getElem? hx
      have HT0 := Lib.hid (first_next hx)
      rw [hb] at HT0
      obtain ⟨u1, u2, u3⟩ := HQ.out.u64 _ hm
      have hl1 : is1.length = n1 := HQ.out.len_mem hm
      obtain ⟨ad, rfl, _, _⟩ := HQ.out.at_ hx
      have HF : Hid (∀ u, Below V.heap.size V u → u.cell? (ad.add (k * 6)) = some (.slice A1 n1 c1) ∧ u.cell? ⟨(ad.add (k * 6)).block, (ad.add (k * 6)).off + 1, none⟩ = some (.int .u64 (h1 : Int)) ∧ u.cell? ⟨(ad.add (k * 6)).block, (ad.add (k * 6)).off + 2, none⟩ = some (.int .u64 (l1 : Int)) ∧ u.cell? ⟨(ad.add (k * 6)).block, (ad.add (k * 6)).off + 3, none⟩ = some (.int .u64 (x1 : Int)) ∧ u.cell? ⟨(ad.add (k * 6)).block, (ad.add (k * 6)).off + 4, none⟩ = some (.int .u64 (o1 : Int)) ∧ u.cell? ⟨(ad.add (k * 6)).block, (ad.add (k * 6)).off + 5, none⟩ = some (.bool f1)) := Lib.hid (fun u hu => by
        obtain ⟨ad2, e2, _, q⟩ := (HQ.out.below (HGB.out.trans (hu.mono HGB.out.size))).at_ hx
        obtain rfl : ad = ad2 := Option.some.inj e2
        exact q)
      have HR1 := Lib.hid (HQ.out.mem _ hm)
      have i1 : (0 : Int) ≤ (k : Int) := by omega
      have i2 : (k : Int) < (n : Int) := by omega
      have i3 : ((k : Int) == (n : Int)) = false := by simp; omega
      cases b with
      | none =>
        have HCs := Lib.hid (fun (u : World) => canstand_any A1 n1 c1 h1 l1 x1 o1 f1 u u1 u2 u3)
        have hcb := can_bool (A := A1) (c := c1) (h := h1) (l := l1) (x := x1) (o := o1) (f := f1) hl1
        cases hc : canE (et ((A1, n1, c1, is1), (h1, l1, x1), o1, f1)) with
        | true =>
          have HT : Hid (firstK (l.take (k + 1)) = some ((A1, n1, c1, is1), (h1, l1, x1), o1, f1)) := Lib.hid (by rw [HT0.out]; unfold firstS; simp only; rw [if_pos hc])
          have HIn : Hid (∀ y, (some ((A1, n1, c1, is1), (h1, l1, x1), o1, f1) : Option En) = some y → y ∈ l ∧ canE (et y) = true) := Lib.hid (fun y hy => by rw [← Option.some.inj hy]; exact ⟨hm, hc⟩)
          rw [← hcb, hc] at HCs
          unfold agE at HCs
          replace KF : Blk V (w.heap.size + 1) 47 #[.slice none 0 0, .int .u64 0, .int .u64 0, .int .u64 0, .int .u64 0, .bool false] := KF
          obtain ⟨q0, q1, q2, q3, q4, q5⟩ := HF.out _ (Below.refl _ V)
          clear hc hcb hx hm hb u1 u2 u3 hl1
          go_wp2_with fail
          refine (HCs.out _).mono ?_
          rintro e V2 ⟨rfl, BV⟩
          replace KF := KF.below BV KF.lt
          clear q0 q1 q2 q3 q4 q5
          have KZ2 := Lib.hid (HKZ.out.below BV HKZ.out.lt)
          have GBV := Lib.hid (HGB.out.trans (BV.mono HGB.out.size))
          have HP := Lib.hid (put6e (x1 := .slice A1 n1 c1) (x2 := .int .u64 (h1 : Int)) (x3 := .int .u64 (l1 : Int)) (x4 := .int .u64 (x1 : Int)) (x5 := .int .u64 (o1 : Int)) (x6 := .bool f1) KF GBV.out (by omega))
          have KZ3 := Lib.hid (far6 (x1 := .slice A1 n1 c1) (x2 := .int .u64 (h1 : Int)) (x3 := .int .u64 (l1 : Int)) (x4 := .int .u64 (x1 : Int)) (x5 := .int .u64 (o1 : Int)) (x6 := .bool f1) KZ2.out (g := w.heap.size + 1) (by omega))
          obtain ⟨q0, q1, q2, q3, q4, q5⟩ := HF.out _ BV
          have p0 := KF.cell 0
          have p1 := KF.cell 1
          have p2 := KF.cell 2
          have p3 := KF.cell 3
          have p4 := KF.cell 4
          have p5 := KF.cell 5
          have r0 := KF.frozen 0
          have r1 := KF.frozen 1
          have r2 := KF.frozen 2
          have r3 := KF.frozen 3
          have r4 := KF.frozen 4
          have r5 := KF.frozen 5
          clear KF BV
          go_wp2_with fail
          go_roundw
          case rel => exact ⟨k + 1, some ((A1, n1, c1, is1), (h1, l1, x1), o1, f1), by omega, rfl, by go_num, HT.out, HIn, HP.out.1, KZ3.out, HP.out.2⟩
          case measure => simp [intOf]; omega
        | false =>
          have HT : Hid (firstK (l.take (k + 1)) = none) := Lib.hid (by rw [HT0.out]; unfold firstS; simp only; rw [if_neg (by rw [hc]; decide)])
          have HIn : Hid (∀ y, (none : Option En) = some y → y ∈ l ∧ canE (et y) = true) := Lib.hid (fun y hy => by cases hy)
          have hah : aheadE (is1, (h1, l1, x1), o1, f1) ([], (0, 0, 0), 0, false) = false := by unfold aheadE; rw [show canE (is1, (h1, l1, x1), o1, f1) = false from hc]; rfl
          have HAh := Lib.hid (fun (u : World) (hu : Below V.heap.size V u) => ahead_any A1 n1 c1 h1 l1 x1 o1 f1 is1 none 0 0 0 0 0 0 false [] u u1 u2 u3 (by omega) (by omega) (by omega) ((HR1.out.below (HGB.out.trans (hu.mono HGB.out.size))).more (HGB.out.trans (hu.mono HGB.out.size)).size) Reads.none_)
          rw [hah] at HAh
          rw [← hcb, hc] at HCs
          unfold agE at HCs HAh
          replace KF : Blk V (w.heap.size + 1) 47 #[.slice none 0 0, .int .u64 0, .int .u64 0, .int .u64 0, .int .u64 0, .bool false] := KF
          obtain ⟨q0, q1, q2, q3, q4, q5⟩ := HF.out _ (Below.refl _ V)
          clear hc hcb hx hm hb u1 u2 u3 hl1 hah
          go_wp2_with fail
          refine (HCs.out _).mono ?_
          rintro e V2 ⟨rfl, BV2⟩
          replace KF := KF.below BV2 KF.lt
          replace HKZ := Lib.hid (HKZ.out.below BV2 HKZ.out.lt)
          replace HGB := Lib.hid (HGB.out.trans (BV2.mono HGB.out.size))
          replace HF := Lib.hid (fun (u : World) (hu : Below V2.heap.size V2 u) => HF.out u (BV2.trans (hu.mono BV2.size)))
          replace HAh := Lib.hid (fun (u : World) (hu : Below V2.heap.size V2 u) => HAh.out u (BV2.trans (hu.mono BV2.size)))
          clear q0 q1 q2 q3 q4 q5 BV2 HR1
          go_upto_region 5 with fail
          refine wp_region_held_drew (S := fun u => Below V2.heap.size V2 u ∧ Blk u (w.heap.size + 1) 47 #[.slice none 0 0, .int .u64 0, .int .u64 0, .int .u64 0, .int .u64 0, .bool false]) (by kernel_rfl) ⟨(Below.refl V2.heap.size V2).drew, KF⟩ (fun hS => ?_)
          generalize World.drew V2 = V' at hS ⊢
          clear KF
          refine wpAnyH_take (i := 0) (v := .slice (some ad) n c) rfl (by kernel_rfl) (by kernel_rfl) (by kernel_rfl) (fun _ _ _ h => h) (Or.inl ⟨by kernel_rfl, fun u hSw => (by go_simp)⟩) hS ?_
          change wpAnyH _ _ _ _ _ _ _ (Act.put _ (some 22) _) _
          simp only [Act.put]
          try simp only [List.setIfInBounds_toArray, List.set_cons_zero, List.set_cons_succ]
          refine wpAnyH_take (i := 1) (v := .int .i64 (k : Int)) rfl (by kernel_rfl) (by kernel_rfl) (by kernel_rfl) (fun _ _ _ h => h) (Or.inl ⟨by kernel_rfl, fun u hSw => (by go_simp)⟩) hS ?_
          change wpAnyH _ _ _ _ _ _ _ (Act.put _ (some 23) _) _
          simp only [Act.put]
          try simp only [List.setIfInBounds_toArray, List.set_cons_zero, List.set_cons_succ]
          refine wpAnyH_take (i := 2) (v := .pointer (some (ad.add (k * 6)))) rfl (by kernel_rfl) (by kernel_rfl) (by kernel_rfl) (fun _ _ _ h => h) (Or.inl ⟨by kernel_rfl, fun u hSw => (by go_simp)⟩) hS ?_
          change wpAnyH _ _ _ _ _ _ _ (Act.put _ (some 24) _) _
          simp only [Act.put]
          try simp only [List.setIfInBounds_toArray, List.set_cons_zero, List.set_cons_succ]
          refine wpAnyH_take (i := 3) (v := .agg #[.slice A1 n1 c1, .int .u64 (h1 : Int), .int .u64 (l1 : Int), .int .u64 (x1 : Int), .int .u64 (o1 : Int), .bool f1]) rfl (by kernel_rfl) (by kernel_rfl) (by kernel_rfl) (fun _ _ _ h => h) (Or.inl ⟨by kernel_rfl, fun u hSw => (by obtain ⟨q10, q11, q12, q13, q14, q15⟩ := HF.out u hSw.1; go_simp)⟩) hS ?_
          change wpAnyH _ _ _ _ _ _ _ (Act.put _ (some 25) _) _
          simp only [Act.put]
          try simp only [List.setIfInBounds_toArray, List.set_cons_zero, List.set_cons_succ]
          refine wpAnyH_take (i := 4) (v := .agg #[.slice none 0 0, .int .u64 0, .int .u64 0, .int .u64 0, .int .u64 0, .bool false]) rfl (by kernel_rfl) (by kernel_rfl) (by kernel_rfl) (fun _ _ _ h => h) (Or.inl ⟨by kernel_rfl, fun u hSw => (by have q0 := hSw.2.cell 0; have q1 := hSw.2.cell 1; have q2 := hSw.2.cell 2; have q3 := hSw.2.cell 3; have q4 := hSw.2.cell 4; have q5 := hSw.2.cell 5; go_simp)⟩) hS ?_
          change wpAnyH _ _ _ _ _ _ _ (Act.put _ (some 26) _) _
          simp only [Act.put]
          try simp only [List.setIfInBounds_toArray, List.set_cons_zero, List.set_cons_succ]
          refine wpAnyH_ready (rs := [5]) (by kernel_rfl) (by simp) ?_
          refine AllReadyH.cons rfl (fun K hK => ?_) AllReadyH.nil
          go_simp
          refine (HAh.out _ hS.1).mono ?_
          rintro e1 w1 ⟨rfl, h9⟩
          have S1 : Below V2.heap.size V2 w1 ∧ Blk w1 (w.heap.size + 1) 47 #[.slice none 0 0, .int .u64 0, .int .u64 0, .int .u64 0, .int .u64 0, .bool false] := ⟨hS.1.trans (h9.mono hS.1.size), hS.2.below h9 hS.2.lt⟩
          clear h9 hS
          refine hK.out _ _ S1 (fun hS => ?_)
          clear hK K S1
          refine wpAnyH_take (i := 6) (v := .bool false) rfl (by kernel_rfl) (by kernel_rfl) (by kernel_rfl) (fun _ _ _ h => h) (Or.inl ⟨by kernel_rfl, fun u hSw => (by go_simp)⟩) hS ?_
          change wpAnyH _ _ _ _ _ _ _ (Act.put _ (some 12) _) _
          simp only [Act.put]
          try simp only [List.setIfInBounds_toArray, List.set_cons_zero, List.set_cons_succ]
          refine wpAnyH_done (by kernel_rfl) ?_ _
          obtain ⟨BV, KF⟩ := hS
          have KZ2 := Lib.hid (HKZ.out.below BV HKZ.out.lt)
          have GBV := Lib.hid (HGB.out.trans (BV.mono HGB.out.size))
          have HKF := Lib.hid KF
          clear KF BV
          go_wp2_with fail
          go_roundw
          case rel => exact ⟨k + 1, none, by omega, rfl, by go_num, HT.out, HIn, HKF.out, KZ2.out, GBV.out⟩
          case measure => simp [intOf]; omega
      | some y =>
        obtain ⟨⟨A2, n2, c2, is2⟩, ⟨h2, l2, x2⟩, o2, f2⟩ := y
        obtain ⟨hm2, hc2⟩ := HI.out _ rfl
        obtain ⟨v1, v2, v3⟩ := HQ.out.u64 _ hm2
        have HR2 := Lib.hid (HQ.out.mem _ hm2)
        have HAh := Lib.hid (fun (u : World) (hu : Below V.heap.size V u) => ahead_any A1 n1 c1 h1 l1 x1 o1 f1 is1 A2 n2 c2 h2 l2 x2 o2 f2 is2 u u1 u2 u3 v1 v2 v3 ((HR1.out.below (HGB.out.trans (hu.mono HGB.out.size))).more (HGB.out.trans (hu.mono HGB.out.size)).size) ((HR2.out.below (HGB.out.trans (hu.mono HGB.out.size))).more (HGB.out.trans (hu.mono HGB.out.size)).size))
        unfold agE at HAh
        replace KF : Blk V (w.heap.size + 1) 47 #[.slice A2 n2 c2, .int .u64 (h2 : Int), .int .u64 (l2 : Int), .int .u64 (x2 : Int), .int .u64 (o2 : Int), .bool f2] := KF
        cases hah : aheadE (is1, (h1, l1, x1), o1, f1) (is2, (h2, l2, x2), o2, f2) with
        | true =>
          have hc : canE (et ((A1, n1, c1, is1), (h1, l1, x1), o1, f1)) = true := by
            have := hah
            unfold aheadE at this
            simp only [Bool.and_eq_true] at this
            exact this.1.1
          have HT : Hid (firstK (l.take (k + 1)) = some ((A1, n1, c1, is1), (h1, l1, x1), o1, f1)) := Lib.hid (by rw [HT0.out]; unfold firstS; simp only; rw [if_pos (show aheadE (et ((A1, n1, c1, is1), (h1, l1, x1), o1, f1)) (et ((A2, n2, c2, is2), (h2, l2, x2), o2, f2)) = true from hah)])
          have HIn : Hid (∀ y, (some ((A1, n1, c1, is1), (h1, l1, x1), o1, f1) : Option En) = some y → y ∈ l ∧ canE (et y) = true) := Lib.hid (fun y hy => by rw [← Option.some.inj hy]; exact ⟨hm, hc⟩)
          rw [hah] at HAh
          clear hah hc hx hm hb u1 u2 u3 hl1 hm2 hc2 v1 v2 v3 HR1 HR2
          go_upto_region 5 with fail
          refine wp_region_held_drew (S := fun u => Below V.heap.size V u ∧ Blk u (w.heap.size + 1) 47 #[.slice A2 n2 c2, .int .u64 (h2 : Int), .int .u64 (l2 : Int), .int .u64 (x2 : Int), .int .u64 (o2 : Int), .bool f2]) (by kernel_rfl) ⟨(Below.refl V.heap.size V).drew, KF⟩ (fun hS => ?_)
          generalize World.drew V = V' at hS ⊢
          clear KF
          refine wpAnyH_take (i := 0) (v := .slice (some ad) n c) rfl (by kernel_rfl) (by kernel_rfl) (by kernel_rfl) (fun _ _ _ h => h) (Or.inl ⟨by kernel_rfl, fun u hSw => (by go_simp)⟩) hS ?_
          change wpAnyH _ _ _ _ _ _ _ (Act.put _ (some 22) _) _
          simp only [Act.put]
          try simp only [List.setIfInBounds_toArray, List.set_cons_zero, List.set_cons_succ]
          refine wpAnyH_take (i := 1) (v := .int .i64 (k : Int)) rfl (by kernel_rfl) (by kernel_rfl) (by kernel_rfl) (fun _ _ _ h => h) (Or.inl ⟨by kernel_rfl, fun u hSw => (by go_simp)⟩) hS ?_
          change wpAnyH _ _ _ _ _ _ _ (Act.put _ (some 23) _) _
          simp only [Act.put]
          try simp only [List.setIfInBounds_toArray, List.set_cons_zero, List.set_cons_succ]
          refine wpAnyH_take (i := 2) (v := .pointer (some (ad.add (k * 6)))) rfl (by kernel_rfl) (by kernel_rfl) (by kernel_rfl) (fun _ _ _ h => h) (Or.inl ⟨by kernel_rfl, fun u hSw => (by go_simp)⟩) hS ?_
          change wpAnyH _ _ _ _ _ _ _ (Act.put _ (some 24) _) _
          simp only [Act.put]
          try simp only [List.setIfInBounds_toArray, List.set_cons_zero, List.set_cons_succ]
          refine wpAnyH_take (i := 3) (v := .agg #[.slice A1 n1 c1, .int .u64 (h1 : Int), .int .u64 (l1 : Int), .int .u64 (x1 : Int), .int .u64 (o1 : Int), .bool f1]) rfl (by kernel_rfl) (by kernel_rfl) (by kernel_rfl) (fun _ _ _ h => h) (Or.inl ⟨by kernel_rfl, fun u hSw => (by obtain ⟨q10, q11, q12, q13, q14, q15⟩ := HF.out u hSw.1; go_simp)⟩) hS ?_
          change wpAnyH _ _ _ _ _ _ _ (Act.put _ (some 25) _) _
          simp only [Act.put]
          try simp only [List.setIfInBounds_toArray, List.set_cons_zero, List.set_cons_succ]
          refine wpAnyH_take (i := 4) (v := .agg #[.slice A2 n2 c2, .int .u64 (h2 : Int), .int .u64 (l2 : Int), .int .u64 (x2 : Int), .int .u64 (o2 : Int), .bool f2]) rfl (by kernel_rfl) (by kernel_rfl) (by kernel_rfl) (fun _ _ _ h => h) (Or.inl ⟨by kernel_rfl, fun u hSw => (by have q0 := hSw.2.cell 0; have q1 := hSw.2.cell 1; have q2 := hSw.2.cell 2; have q3 := hSw.2.cell 3; have q4 := hSw.2.cell 4; have q5 := hSw.2.cell 5; go_simp)⟩) hS ?_
          change wpAnyH _ _ _ _ _ _ _ (Act.put _ (some 26) _) _
          simp only [Act.put]
          try simp only [List.setIfInBounds_toArray, List.set_cons_zero, List.set_cons_succ]
          refine wpAnyH_ready (rs := [5]) (by kernel_rfl) (by simp) ?_
          refine AllReadyH.cons rfl (fun K hK => ?_) AllReadyH.nil
          go_simp
          refine (HAh.out _ hS.1).mono ?_
          rintro e1 w1 ⟨rfl, h9⟩
          have S1 : Below V.heap.size V w1 ∧ Blk w1 (w.heap.size + 1) 47 #[.slice A2 n2 c2, .int .u64 (h2 : Int), .int .u64 (l2 : Int), .int .u64 (x2 : Int), .int .u64 (o2 : Int), .bool f2] := ⟨hS.1.trans (h9.mono hS.1.size), hS.2.below h9 hS.2.lt⟩
          clear h9 hS
          refine hK.out _ _ S1 (fun hS => ?_)
          clear hK K S1
          refine wpAnyH_take (i := 6) (v := .bool true) rfl (by kernel_rfl) (by kernel_rfl) (by kernel_rfl) (fun _ _ _ h => h) (Or.inl ⟨by kernel_rfl, fun u hSw => (by go_simp)⟩) hS ?_
          change wpAnyH _ _ _ _ _ _ _ (Act.put _ (some 12) _) _
          simp only [Act.put]
          try simp only [List.setIfInBounds_toArray, List.set_cons_zero, List.set_cons_succ]
          refine wpAnyH_done (by kernel_rfl) ?_ _
          obtain ⟨BV, KF⟩ := hS
          have KZ2 := Lib.hid (HKZ.out.below BV HKZ.out.lt)
          have GBV := Lib.hid (HGB.out.trans (BV.mono HGB.out.size))
          have HP := Lib.hid (put6e (x1 := .slice A1 n1 c1) (x2 := .int .u64 (h1 : Int)) (x3 := .int .u64 (l1 : Int)) (x4 := .int .u64 (x1 : Int)) (x5 := .int .u64 (o1 : Int)) (x6 := .bool f1) KF GBV.out (by omega))
          have KZ3 := Lib.hid (far6 (x1 := .slice A1 n1 c1) (x2 := .int .u64 (h1 : Int)) (x3 := .int .u64 (l1 : Int)) (x4 := .int .u64 (x1 : Int)) (x5 := .int .u64 (o1 : Int)) (x6 := .bool f1) KZ2.out (g := w.heap.size + 1) (by omega))
          obtain ⟨q0, q1, q2, q3, q4, q5⟩ := HF.out _ BV
          have p0 := KF.cell 0
          have p1 := KF.cell 1
          have p2 := KF.cell 2
          have p3 := KF.cell 3
          have p4 := KF.cell 4
          have p5 := KF.cell 5
          have r0 := KF.frozen 0
          have r1 := KF.frozen 1
          have r2 := KF.frozen 2
          have r3 := KF.frozen 3
          have r4 := KF.frozen 4
          have r5 := KF.frozen 5
          clear KF BV
          go_wp2_with fail
          go_roundw
          case rel => exact ⟨k + 1, some ((A1, n1, c1, is1), (h1, l1, x1), o1, f1), by omega, rfl, by go_num, HT.out, HIn, HP.out.1, KZ3.out, HP.out.2⟩
          case measure => simp [intOf]; omega
        | false =>
          have HT : Hid (firstK (l.take (k + 1)) = some ((A2, n2, c2, is2), (h2, l2, x2), o2, f2)) := Lib.hid (by rw [HT0.out]; unfold firstS; simp only; rw [if_neg (by rw [show aheadE (et ((A1, n1, c1, is1), (h1, l1, x1), o1, f1)) (et ((A2, n2, c2, is2), (h2, l2, x2), o2, f2)) = false from hah]; decide)])
          have HIn := HI
          rw [hah] at HAh
          clear hah hx hm hb u1 u2 u3 hl1 hm2 hc2 v1 v2 v3 HR1 HR2
          go_upto_region 5 with fail
          refine wp_region_held_drew (S := fun u => Below V.heap.size V u ∧ Blk u (w.heap.size + 1) 47 #[.slice A2 n2 c2, .int .u64 (h2 : Int), .int .u64 (l2 : Int), .int .u64 (x2 : Int), .int .u64 (o2 : Int), .bool f2]) (by kernel_rfl) ⟨(Below.refl V.heap.size V).drew, KF⟩ (fun hS => ?_)
          generalize World.drew V = V' at hS ⊢
          clear KF
          refine wpAnyH_take (i := 0) (v := .slice (some ad) n c) rfl (by kernel_rfl) (by kernel_rfl) (by kernel_rfl) (fun _ _ _ h => h) (Or.inl ⟨by kernel_rfl, fun u hSw => (by go_simp)⟩) hS ?_
          change wpAnyH _ _ _ _ _ _ _ (Act.put _ (some 22) _) _
          simp only [Act.put]
          try simp only [List.setIfInBounds_toArray, List.set_cons_zero, List.set_cons_succ]
          refine wpAnyH_take (i := 1) (v := .int .i64 (k : Int)) rfl (by kernel_rfl) (by kernel_rfl) (by kernel_rfl) (fun _ _ _ h => h) (Or.inl ⟨by kernel_rfl, fun u hSw => (by go_simp)⟩) hS ?_
          change wpAnyH _ _ _ _ _ _ _ (Act.put _ (some 23) _) _
          simp only [Act.put]
          try simp only [List.setIfInBounds_toArray, List.set_cons_zero, List.set_cons_succ]
          refine wpAnyH_take (i := 2) (v := .pointer (some (ad.add (k * 6)))) rfl (by kernel_rfl) (by kernel_rfl) (by kernel_rfl) (fun _ _ _ h => h) (Or.inl ⟨by kernel_rfl, fun u hSw => (by go_simp)⟩) hS ?_
          change wpAnyH _ _ _ _ _ _ _ (Act.put _ (some 24) _) _
          simp only [Act.put]
          try simp only [List.setIfInBounds_toArray, List.set_cons_zero, List.set_cons_succ]
          refine wpAnyH_take (i := 3) (v := .agg #[.slice A1 n1 c1, .int .u64 (h1 : Int), .int .u64 (l1 : Int), .int .u64 (x1 : Int), .int .u64 (o1 : Int), .bool f1]) rfl (by kernel_rfl) (by kernel_rfl) (by kernel_rfl) (fun _ _ _ h => h) (Or.inl ⟨by kernel_rfl, fun u hSw => (by obtain ⟨q10, q11, q12, q13, q14, q15⟩ := HF.out u hSw.1; go_simp)⟩) hS ?_
          change wpAnyH _ _ _ _ _ _ _ (Act.put _ (some 25) _) _
          simp only [Act.put]
          try simp only [List.setIfInBounds_toArray, List.set_cons_zero, List.set_cons_succ]
          refine wpAnyH_take (i := 4) (v := .agg #[.slice A2 n2 c2, .int .u64 (h2 : Int), .int .u64 (l2 : Int), .int .u64 (x2 : Int), .int .u64 (o2 : Int), .bool f2]) rfl (by kernel_rfl) (by kernel_rfl) (by kernel_rfl) (fun _ _ _ h => h) (Or.inl ⟨by kernel_rfl, fun u hSw => (by have q0 := hSw.2.cell 0; have q1 := hSw.2.cell 1; have q2 := hSw.2.cell 2; have q3 := hSw.2.cell 3; have q4 := hSw.2.cell 4; have q5 := hSw.2.cell 5; go_simp)⟩) hS ?_
          change wpAnyH _ _ _ _ _ _ _ (Act.put _ (some 26) _) _
          simp only [Act.put]
          try simp only [List.setIfInBounds_toArray, List.set_cons_zero, List.set_cons_succ]
          refine wpAnyH_ready (rs := [5]) (by kernel_rfl) (by simp) ?_
          refine AllReadyH.cons rfl (fun K hK => ?_) AllReadyH.nil
          go_simp
          refine (HAh.out _ hS.1).mono ?_
          rintro e1 w1 ⟨rfl, h9⟩
          have S1 : Below V.heap.size V w1 ∧ Blk w1 (w.heap.size + 1) 47 #[.slice A2 n2 c2, .int .u64 (h2 : Int), .int .u64 (l2 : Int), .int .u64 (x2 : Int), .int .u64 (o2 : Int), .bool f2] := ⟨hS.1.trans (h9.mono hS.1.size), hS.2.below h9 hS.2.lt⟩
          clear h9 hS
          refine hK.out _ _ S1 (fun hS => ?_)
          clear hK K S1
          refine wpAnyH_take (i := 6) (v := .bool false) rfl (by kernel_rfl) (by kernel_rfl) (by kernel_rfl) (fun _ _ _ h => h) (Or.inl ⟨by kernel_rfl, fun u hSw => (by go_simp)⟩) hS ?_
          change wpAnyH _ _ _ _ _ _ _ (Act.put _ (some 12) _) _
          simp only [Act.put]
          try simp only [List.setIfInBounds_toArray, List.set_cons_zero, List.set_cons_succ]
          refine wpAnyH_done (by kernel_rfl) ?_ _
          obtain ⟨BV, KF⟩ := hS
          have KZ2 := Lib.hid (HKZ.out.below BV HKZ.out.lt)
          have GBV := Lib.hid (HGB.out.trans (BV.mono HGB.out.size))
          have HKF := Lib.hid KF
          clear KF BV
          go_wp2_with fail
          go_roundw
          case rel => exact ⟨k + 1, some ((A2, n2, c2, is2), (h2, l2, x2), o2, f2), by omega, rfl, by go_num, HT.out, HIn, HKF.out, KZ2.out, GBV.out⟩
          case measure => simp [intOf]; omega
    · obtain rfl : k = n := by omega
      have HFB : firstK l = b := by
        rw [← hb, List.take_of_length_le (by rw [HL.out]; exact Nat.le_refl _)]
      have c1 : ((k : Int) == (k : Int)) = true := by simp
      clear hb
      cases b with
      | none =>
        have HCl := Lib.hid (clone_none V)
        replace KF : Blk V (w.heap.size + 1) 47 #[.slice none 0 0, .int .u64 0, .int .u64 0, .int .u64 0, .int .u64 0, .bool false] := KF
        have p0 := KF.cell 0
        go_wp2_with fail
        refine HCl.out.mono ?_
        rintro e V2 ⟨rfl, BV⟩
        have KF2 := KF.below BV KF.lt
        have KZ2 := HKZ.out.below BV HKZ.out.lt
        have GB2 := HGB.out.trans (BV.mono HGB.out.size)
        have KF3 : Blk (V2.setCell ⟨w.heap.size + 1, 0, none⟩ (.slice none 0 0)) (w.heap.size + 1) 47 #[.slice none 0 0, .int .u64 0, .int .u64 0, .int .u64 0, .int .u64 0, .bool false] := by simpa using KF2.set_ 0 (.slice none 0 0)
        have KZ3 := KZ2.far (p := ⟨w.heap.size + 1, 0, none⟩) (by simp) (.slice none 0 0)
        have GB3 := GB2.setCell (p := ⟨w.heap.size + 1, 0, none⟩) (by simp) (.slice none 0 0)
        have HP := Lib.hid (put6e (x1 := .slice none 0 0) (x2 := .int .u64 0) (x3 := .int .u64 0) (x4 := .int .u64 0) (x5 := .int .u64 0) (x6 := .bool false) KZ3 GB3 (Nat.le_refl _))
        have y0 := KF2.cell 0
        have r0 := KF2.frozen 0
        clear p0 BV KF KZ2 GB2 GB3 KF2 HKZ
        go_upto_region 9 with fail
        have z0 := KF3.cell 0
        have z1 := KF3.cell 1
        have z2 := KF3.cell 2
        have z3 := KF3.cell 3
        have z4 := KF3.cell 4
        have z5 := KF3.cell 5
        have q0 := KZ3.cell 0
        have q1 := KZ3.cell 1
        have q2 := KZ3.cell 2
        have q3 := KZ3.cell 3
        have q4 := KZ3.cell 4
        have q5 := KZ3.cell 5
        have s0 := KZ3.frozen 0
        have s1 := KZ3.frozen 1
        have s2 := KZ3.frozen 2
        have s3 := KZ3.frozen 3
        have s4 := KZ3.frozen 4
        have s5 := KZ3.frozen 5
        clear y0 r0 KF3 KZ3
        generalize V2.setCell ⟨w.heap.size + 1, 0, none⟩ (.slice none 0 0) = V3 at HP z0 z1 z2 z3 z4 z5 q0 q1 q2 q3 q4 q5 s0 s1 s2 s3 s4 s5 ⊢
        go_wp2_with fail
        try rw [Exit.noGoto_ret]
        exact bodyPost_ret (v := .tuple #[.agg #[.slice none 0 0, .int .u64 0, .int .u64 0, .int .u64 0, .int .u64 0, .bool false], .bool false]) (results_cell_row_tmp Try.results20 _ _ _ _ _ _ rfl HP.out.1 Try.underlying47 rfl (by kernel_rfl)) rfl (by rw [HFB]; exact ⟨HP.out.2, rfl⟩)
      | some y =>
        obtain ⟨⟨A2, n2, c2, is2⟩, ⟨h2, l2, x2⟩, o2, f2⟩ := y
        obtain ⟨hm2, hc2⟩ := HI.out _ rfl
        have hn2 : n2 ≤ 1000 := HN.out _ hm2
        have hl2 : is2.length = n2 := HQ.out.len_mem hm2
        have hp2 := can_pos hc2 hl2
        have hmr : Reads w w.heap.size 1 A2 n2 (vs is2) := HQ.out.mem _ hm2
        obtain ⟨ad2, rfl, _⟩ := hmr.2 hp2
        have HCl := Lib.hid (clone_some ad2 n2 c2 is2 V ⟨(hmr.below HGB.out).more HGB.out.size, hn2⟩)
        replace KF : Blk V (w.heap.size + 1) 47 #[.slice (some ad2) n2 c2, .int .u64 (h2 : Int), .int .u64 (l2 : Int), .int .u64 (x2 : Int), .int .u64 (o2 : Int), .bool f2] := KF
        have p0 := KF.cell 0
        clear hm2 hc2 hn2 hl2 hp2 hmr
        go_wp2_with fail
        refine HCl.out.mono ?_
        rintro e V2 ⟨A9, c9, rfl, own9, BV⟩
        have hZ1 := HKZ.out.lt
        have hZ2 := KF.lt
        have HO := Lib.hid (own_down (own6 (x1 := .slice A9 n2 c9) (x2 := .int .u64 (h2 : Int)) (x3 := .int .u64 (l2 : Int)) (x4 := .int .u64 (x2 : Int)) (x5 := .int .u64 (o2 : Int)) (x6 := .bool f2) (own_set own9 hZ2 0 (.slice A9 n2 c9)) hZ1) HGB.out.size)
        clear own9 hZ1 hZ2
        have KF2 := KF.below BV KF.lt
        have KZ2 := HKZ.out.below BV HKZ.out.lt
        have GB2 := HGB.out.trans (BV.mono HGB.out.size)
        have KF3 : Blk (V2.setCell ⟨w.heap.size + 1, 0, none⟩ (.slice A9 n2 c9)) (w.heap.size + 1) 47 #[.slice A9 n2 c9, .int .u64 (h2 : Int), .int .u64 (l2 : Int), .int .u64 (x2 : Int), .int .u64 (o2 : Int), .bool f2] := by simpa using KF2.set_ 0 (.slice A9 n2 c9)
        have KZ3 := KZ2.far (p := ⟨w.heap.size + 1, 0, none⟩) (by simp) (.slice A9 n2 c9)
        have GB3 := GB2.setCell (p := ⟨w.heap.size + 1, 0, none⟩) (by simp) (.slice A9 n2 c9)
        have HP := Lib.hid (put6e (x1 := .slice A9 n2 c9) (x2 := .int .u64 (h2 : Int)) (x3 := .int .u64 (l2 : Int)) (x4 := .int .u64 (x2 : Int)) (x5 := .int .u64 (o2 : Int)) (x6 := .bool f2) KZ3 GB3 (Nat.le_refl _))
        have y0 := KF2.cell 0
        have r0 := KF2.frozen 0
        clear p0 BV KF KZ2 GB2 GB3 KF2 HKZ
        go_upto_region 9 with fail
        have z0 := KF3.cell 0
        have z1 := KF3.cell 1
        have z2 := KF3.cell 2
        have z3 := KF3.cell 3
        have z4 := KF3.cell 4
        have z5 := KF3.cell 5
        have q0 := KZ3.cell 0
        have q1 := KZ3.cell 1
        have q2 := KZ3.cell 2
        have q3 := KZ3.cell 3
        have q4 := KZ3.cell 4
        have q5 := KZ3.cell 5
        have s0 := KZ3.frozen 0
        have s1 := KZ3.frozen 1
        have s2 := KZ3.frozen 2
        have s3 := KZ3.frozen 3
        have s4 := KZ3.frozen 4
        have s5 := KZ3.frozen 5
        clear y0 r0 KF3 KZ3
        generalize V2.setCell ⟨w.heap.size + 1, 0, none⟩ (.slice A9 n2 c9) = V3 at HP HO z0 z1 z2 z3 z4 z5 q0 q1 q2 q3 q4 q5 s0 s1 s2 s3 s4 s5 ⊢
        go_wp2_with fail
        try rw [Exit.noGoto_ret]
        exact bodyPost_ret (v := .tuple #[.agg (agE A9 n2 c9 h2 l2 x2 o2 f2), .bool true]) (results_cell_row_tmp Try.results20 _ _ _ _ _ _ rfl HP.out.1 Try.underlying47 rfl (by kernel_rfl)) rfl (by rw [HFB]; exact ⟨HP.out.2, A9, c9, rfl, HO.out⟩)

end Go.Proofs.Ytniilfcbiliegaa
