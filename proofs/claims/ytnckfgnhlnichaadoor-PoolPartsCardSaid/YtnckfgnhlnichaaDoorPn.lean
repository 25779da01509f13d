/-
  The landed pool: Join, Move. No statement is proved here.
-/
import Derived.Test.YtnckfgnhlnichaaDoorPm
namespace Go.Proofs.YtnckfgnhlnichaaDoor
open Go.RowKit

theorem refE_two {l : List Nat} {p i : Int} : refE l [p, i] = if rightP l = true then (if poolB l p = false ∨ poolB l i = false then 4 else 0) else 180 := by
  unfold refE
  cases hp : poolB l p <;> cases hi : poolB l i <;> simp [hp, hi]
theorem joinR_err {l : List Nat} {p i : Int} (h : ¬ refE l [p, i] = 0) : joinR l p i = ([], refE l [p, i]) := by
  rw [refE_two] at *
  unfold joinR joinV
  by_cases h1 : rightP l = true
  · rw [if_pos h1] at h
    rw [if_pos h1, if_pos h1]
    split
    · rfl
    · rename_i a
      rw [if_neg a] at h
      exact absurd rfl h
  · rw [if_neg h1, if_neg h1]

set_option maxRecDepth 100000 in
set_option maxHeartbeats 8000000 in
theorem ljoin_any {G : World → Prop} (hG : Steady G) : PJoinOk G := by
  intro A n c l f i w hAt
  have hl := hAt.len
  have hAb := fun (u : World) (h : Below w.heap.size w u) => hAt.below hG h
  obtain ⟨K0, K1, K2, K3, B⟩ := blks4 w 26 3 3 26 #[.slice A n c] #[.int .i64 f] #[.int .i64 i] #[.slice none 0 0]
  have HRf := Lib.hid (fun (Ap : Option Addr) (cp : Nat) (u : World) (h : Below w.heap.size w u) (hk : Reads u u.heap.size 1 Ap 2 (vs [f, i])) => lrefused_any hG A n c l Ap 2 cp [f, i] u (hAb u h) hk (by omega))
  have HK := Lib.hid (And.intro (K0.alloc (.cells #[.int .i64 f, .int .i64 i] 3)) (And.intro (K1.alloc (.cells #[.int .i64 f, .int .i64 i] 3)) (And.intro (K2.alloc (.cells #[.int .i64 f, .int .i64 i] 3)) (And.intro (K3.alloc (.cells #[.int .i64 f, .int .i64 i] 3)) (B.alloc B.size (.cells #[.int .i64 f, .int .i64 i] 3))))))
  have k0 := K0.cell 0
  have k1 := K1.cell 0
  have k2 := K2.cell 0
  clear K0 K1 K2 K3 B
  by_cases hE : refE l [f, i] = 0
  · have hr : rightP l = true := by
      cases hr : rightP l with
      | true => rfl
      | false => rw [ref_no hr] at hE; omega
    have hpp : poolB l f = true ∧ poolB l i = true := by
      rw [refE_two, if_pos hr] at hE
      split at hE
      · omega
      · rename_i a
        simp only [not_or, Bool.not_eq_false] at a
        exact a
    have HE := Lib.hid hE
    by_cases hfi : f = i
    · have HV : Hid (joinR l f i = ([], 2)) := Lib.hid (by
        unfold joinR joinV
        rw [if_pos hr, if_neg (by rw [hpp.1, hpp.2]; simp), if_pos hfi])
      have e0 : (f == i) = true := by simp [hfi]
      clear hE hr hpp hAt hAb hG hl hfi
      go_enter Tryd.func14, Tryd.ntmps14
      go_wp2_with fail
      refine (HRf.out _ _ _ HK.out.2.2.2.2 (reads_i2 _ _ _ _ (by simp))).mono ?_
      rw [HE.out]
      rintro e w5 ⟨rfl, h5⟩
      have B5 := HK.out.2.2.2.2.trans (h5.mono HK.out.2.2.2.2.size)
      have q1 := (HK.out.2.1.below h5 HK.out.2.1.lt).cell 0
      have q2 := (HK.out.2.2.1.below h5 HK.out.2.2.1.lt).cell 0
      have K3 := HK.out.2.2.2.1.below h5 HK.out.2.2.2.1.lt
      have q3 := K3.cell 0
      have f3 := K3.frozen 0
      have HKF := Lib.hid (put1 (x := .slice none 0 0) K3 B5 (by omega))
      clear h5 k0 k1 k2 K3 B5
      go_wp2_with fail
      rw [HV.out]
      exact bodyPost_ret (v := .tuple #[.agg #[.slice none 0 0], .int .i64 2]) (results_pools2 Tryd.results14 _ _ _ _ _ _ rfl HKF.out.1 Tryd.underlying26 rfl (by kernel_rfl)) rfl (GivesP2.none_ HKF.out.2)
    · have e0 : (f == i) = false := by simp [hfi]
      obtain ⟨a, rfl, ha⟩ := poolB_true hpp.1
      obtain ⟨b2, rfl, hb2⟩ := poolB_true hpp.2
      have hba : b2 ≠ a := fun e => hfi (by rw [e])
      have hx := at_getD hb2
      have hy := at_getD ha
      obtain ⟨x, hxx⟩ : ∃ x, l.getD b2 0 = x := ⟨_, rfl⟩
      obtain ⟨y, hyy⟩ : ∃ y, l.getD a 0 = y := ⟨_, rfl⟩
      rw [hxx] at hx
      rw [hyy] at hy
      have x8 := (sets_at (right_parts8 hr).2.2.1 hx).1
      have y8 := (sets_at (right_parts8 hr).2.2.1 hy).1
      have hor : bits .or .u32 (x : Int) (y : Int) = ((x + y : Nat) : Int) := by rw [or_u32 (by omega) (by omega), add_or x y (no_both hr hba hx hy)]
      have hj := join_erase ha hb2 hba
      rw [hxx, hyy] at hj
      have h1 : 1 ≤ n := by have := (right_parts8 hr).1; omega
      have hn := hAt.2.2.1
      obtain ⟨l', hl'⟩ : ∃ l', (l.set b2 (x + y)).eraseIdx a = l' := ⟨_, rfl⟩
      have HV : Hid (joinR l (a : Int) (b2 : Int) = (l', 0)) := Lib.hid (by
        unfold joinR joinV
        rw [if_pos hr, if_neg (by rw [hpp.1, hpp.2]; simp), if_neg hfi, Int.toNat_natCast, Int.toNat_natCast, hj, hl'])
      have HCh := Lib.hid (fun (u : World) (h : Below w.heap.size w u) (hd : DoesOkJoin (.pointer (some ⟨w.heap.size + 1 + 1, 0, none⟩)) (.pointer (some ⟨w.heap.size + 1, 0, none⟩)) l l' u) => lchangedJoin_any hG A n c l l' _ _ u (hAb u h) h1 hd)
      have HDo : Hid (∀ u, Blk u (w.heap.size + 1 + 1) 3 #[.int .i64 (b2 : Int)] → Blk u (w.heap.size + 1) 3 #[.int .i64 (a : Int)] → DoesOkJoin (.pointer (some ⟨w.heap.size + 1 + 1, 0, none⟩)) (.pointer (some ⟨w.heap.size + 1, 0, none⟩)) l l' u) := Lib.hid (by
        intro u Kb Ka b p n' c' v hb1 hb2' hB hnc hRow
        have := hRow.len
        have hka := Ka.lt
        have hkb := Kb.lt
        rw [← hl']
        exact ljoindo_any b p n' c' b2 a (w.heap.size + 1 + 1) (w.heap.size + 1) x y (x + y) l v hRow hx hy ((Kb.below hB hkb).cell 0) ((Ka.below hB hka).cell 0) (by omega) (by omega) hnc hor)
      clear hE hr hpp hfi hx hy hxx hyy x8 y8 hor hj hl' h1 hn hAt hAb hG hl ha hb2 hba
      go_enter Tryd.func14, Tryd.ntmps14
      go_wp2_with fail
      refine (HRf.out _ _ _ HK.out.2.2.2.2 (reads_i2 _ _ _ _ (by simp))).mono ?_
      rw [HE.out]
      rintro e w5 ⟨rfl, h5⟩
      have B5 := HK.out.2.2.2.2.trans (h5.mono HK.out.2.2.2.2.size)
      have K0 := HK.out.1.below h5 HK.out.1.lt
      have K1 := HK.out.2.1.below h5 HK.out.2.1.lt
      have K2 := HK.out.2.2.1.below h5 HK.out.2.2.1.lt
      have K3 := HK.out.2.2.2.1.below h5 HK.out.2.2.2.1.lt
      have q0 := K0.cell 0
      have q1 := K1.cell 0
      have q2 := K2.cell 0
      clear h5 k0 k1 k2
      go_wp2_with fail
      refine (HCh.out _ B5 (HDo.out _ K2 K1)).mono ?_
      rintro e w6 ⟨A6, c6, rfl, own6, h6⟩
      have hlt := K3.lt
      have B6 := B5.trans (h6.mono B5.size)
      have K6 := K3.below h6 hlt
      have own7 := own_down own6 (show w.heap.size + 1 + 1 + 1 + 1 ≤ w5.heap.size by omega)
      have q3 := K6.cell 0
      have f3 := K6.frozen 0
      have HKF := Lib.hid (put1 (x := .slice A6 l'.length c6) K6 B6 (by omega))
      have HO := Lib.hid (own_set own7 (g := w.heap.size + 1 + 1 + 1) (by omega) 0 (.slice A6 l'.length c6))
      clear q0 q1 q2 own6 own7 h6 K0 K1 K2 K3 B5 hlt B6 K6
      go_wp2_with fail
      rw [HV.out]
      exact bodyPost_ret (v := .tuple #[.agg #[.slice A6 l'.length c6], .int .i64 0]) (results_pools2 Tryd.results14 _ _ _ _ _ _ rfl HKF.out.1 Tryd.underlying26 rfl (by kernel_rfl)) rfl ⟨A6, c6, rfl, own_down HO.out (by omega), HKF.out.2⟩
  · have HV := Lib.hid (joinR_err hE)
    obtain ⟨E, hEE⟩ : ∃ E, refE l [f, i] = E := ⟨_, rfl⟩
    rw [hEE] at hE HV
    have HE := Lib.hid hEE
    have e0 : (E == 0) = false := by simp; exact hE
    clear hEE hE hAt hAb hG hl
    go_enter Tryd.func14, Tryd.ntmps14
    go_wp2_with fail
    refine (HRf.out _ _ _ HK.out.2.2.2.2 (reads_i2 _ _ _ _ (by simp))).mono ?_
    rw [HE.out]
    rintro e w5 ⟨rfl, h5⟩
    have B5 := HK.out.2.2.2.2.trans (h5.mono HK.out.2.2.2.2.size)
    have K3 := HK.out.2.2.2.1.below h5 HK.out.2.2.2.1.lt
    have q3 := K3.cell 0
    have f3 := K3.frozen 0
    have HKF := Lib.hid (put1 (x := .slice none 0 0) K3 B5 (by omega))
    clear h5 k0 k1 k2 K3 B5
    go_wp2_with fail
    rw [HV.out]
    exact bodyPost_ret (v := .tuple #[.agg #[.slice none 0 0], .int .i64 E]) (results_pools2 Tryd.results14 _ _ _ _ _ _ rfl HKF.out.1 Tryd.underlying26 rfl (by kernel_rfl)) rfl (GivesP2.none_ HKF.out.2)

theorem cpuB_nat {n : Nat} (h : n < 8) : cpuB (n : Int) = true := cpuB_yes (by omega) (by omega)
theorem out_value {x n : Nat} (hx : x < 256) (hn : n < 8) (hb : x.testBit n = true) (hle : 2 ^ n ≤ x) : outV (x : Int) (n : Int) = (((x - 2 ^ n : Nat) : Int), 0) := by
  unfold outV
  rw [if_pos (by omega), if_pos (cpuB_nat hn), if_pos (by rw [has_bit hn]; exact hb), Int.toNat_natCast, Int.ofNat_sub hle]
  simp
theorem with_value {y n : Nat} (hy : y < 256) (hn : n < 8) (hb : y.testBit n = false) : withV (y : Int) (n : Int) = (((y + 2 ^ n : Nat) : Int), 0) := by
  unfold withV
  rw [if_pos (by omega), if_pos (cpuB_nat hn), if_neg (by rw [has_bit hn, hb]; simp), Int.toNat_natCast]
  simp

set_option maxRecDepth 100000 in
set_option maxHeartbeats 8000000 in
theorem lmove_any {G : World → Prop} (hG : Steady G) : PMoveOk G := by
  intro A n c l k t w hAt
  have hl := hAt.len
  have hAb := fun (u : World) (h : Below w.heap.size w u) => hAt.below hG h
  obtain ⟨K0, K1, K2, K3, B⟩ := blks4 w 26 3 3 26 #[.slice A n c] #[.int .i64 k] #[.int .i64 t] #[.slice none 0 0]
  have HUn := Lib.hid (fun (u : World) (h : Below w.heap.size w u) => lunmoved_any hG A n c l k t u (hAb u h))
  have HK := Lib.hid (And.intro K0 (And.intro K1 (And.intro K2 (And.intro K3 B))))
  have k0 := K0.cell 0
  have k1 := K1.cell 0
  have k2 := K2.cell 0
  clear K0 K1 K2 K3 B
  by_cases hE : (moveR l k t).2.2 = 0
  · have hr := right_of_okm hE
    obtain ⟨q, hq⟩ : ∃ q, moveV l k t = q := ⟨_, rfl⟩
    have hqs : moveR l k t = q := by unfold moveR; rw [if_pos hr, hq]
    obtain ⟨l', k', e'⟩ := q
    rw [hqs] at hE
    simp only at hE
    subst hE
    obtain ⟨j, b2, m, x, y, rfl, rfl, rfl, hm, hof, hjb, hx, hy, hbit, hle, _, hl'⟩ := move_ok hq
    have x8 := (sets_at (right_parts8 hr).2.2.1 hx).1
    have y8 := (sets_at (right_parts8 hr).2.2.1 hy).1
    have hout := out_value x8 hm hbit hle
    have hwith := with_value y8 hm (not_there hr hjb hx hy hm hbit)
    have h1 : 1 ≤ n := by have := (right_parts8 hr).1; omega
    have hn := hAt.2.2.1
    have HV := Lib.hid hqs
    rw [hqs] at HUn
    have HOf := Lib.hid (fun (u : World) (h : Below w.heap.size w u) => lof_any hG A n c l (m : Int) u (hAb u h))
    rw [show ofR l (m : Int) = ((j : Int), true) by unfold ofR; rw [if_pos hr]; exact hof] at HOf
    have HCh := Lib.hid (fun (g : Nat) (u : World) (h : Below w.heap.size w u) (hd : DoesOkMove (.pointer (some ⟨g, 0, none⟩)) (.pointer (some ⟨w.heap.size + 1, 0, none⟩)) (.pointer (some ⟨w.heap.size + 1 + 1, 0, none⟩)) l l' u) => lchangedMove_any hG A n c l l' _ _ _ u (hAb u h) h1 hd)
    have HDo : Hid (∀ (g : Nat) (u : World), Blk u g 3 #[.int .i64 (j : Int)] → Blk u (w.heap.size + 1) 3 #[.int .i64 (m : Int)] → Blk u (w.heap.size + 1 + 1) 3 #[.int .i64 (b2 : Int)] → DoesOkMove (.pointer (some ⟨g, 0, none⟩)) (.pointer (some ⟨w.heap.size + 1, 0, none⟩)) (.pointer (some ⟨w.heap.size + 1 + 1, 0, none⟩)) l l' u) := Lib.hid (by
      intro g u Kg Ka Kb b p n' c' v hb1 hb2' hB hnc hRow
      have := hRow.len
      have hkg := Kg.lt
      have hka := Ka.lt
      have hkb := Kb.lt
      rw [hl']
      exact lmovedo_any b p n' c' j b2 g (w.heap.size + 1) (w.heap.size + 1 + 1) x y (x - 2 ^ m) (y + 2 ^ m) (m : Int) l v hRow hx hy hjb ((Kg.below hB hkg).cell 0) ((Ka.below hB hka).cell 0) ((Kb.below hB hkb).cell 0) (by omega) (by omega) (by omega) (by omega) (by omega) (by omega) hout hwith)
    clear hr hq hqs hx hy hm hof hjb hbit hle hl' x8 y8 hout hwith h1 hAt hAb hG hl hn
    go_enter Tryd.func10, Tryd.ntmps10
    go_wp2_with fail
    refine (HUn.out _ HK.out.2.2.2.2).mono ?_
    rintro e w5 ⟨rfl, h5⟩
    have B5 := HK.out.2.2.2.2.trans (h5.mono HK.out.2.2.2.2.size)
    have K0 := HK.out.1.below h5 HK.out.1.lt
    have K1 := HK.out.2.1.below h5 HK.out.2.1.lt
    have K2 := HK.out.2.2.1.below h5 HK.out.2.2.1.lt
    have K3 := HK.out.2.2.2.1.below h5 HK.out.2.2.2.1.lt
    have q0 := K0.cell 0
    have q1 := K1.cell 0
    clear h5 k0 k1 k2
    go_wp2_with fail
    refine (HOf.out _ B5).mono ?_
    rintro e w6 ⟨rfl, h6⟩
    have B6 := (B5.trans (h6.mono B5.size)).alloc (Nat.le_trans B5.size h6.size) (.cells #[.int .i64 (j : Int)] 3)
    have L0 := (K0.below h6 K0.lt).alloc (.cells #[.int .i64 (j : Int)] 3)
    have L1 := (K1.below h6 K1.lt).alloc (.cells #[.int .i64 (j : Int)] 3)
    have L2 := (K2.below h6 K2.lt).alloc (.cells #[.int .i64 (j : Int)] 3)
    have L3 := (K3.below h6 K3.lt).alloc (.cells #[.int .i64 (j : Int)] 3)
    have KJ := Blk.new w6 3 #[.int .i64 (j : Int)]
    have s6 : w.heap.size + 1 + 1 + 1 + 1 ≤ w6.heap.size := by have := K3.lt; have := h6.size; omega
    have r0 := L0.cell 0
    have r1 := (K0.below h6 K0.lt).cell 0
    clear q0 q1 h6 K0 K1 K2 K3 B5
    go_wp2_with fail
    refine (HCh.out _ _ B6 (HDo.out _ _ KJ L1 L2)).mono ?_
    rintro e w7 ⟨A7, c7, rfl, own7, h7⟩
    have B7 := (B6.trans (h7.mono B6.size)).alloc (Nat.le_trans B6.size h7.size) (.cells #[.slice A7 l'.length c7] 26)
    have K7 := (L3.below h7 L3.lt).alloc (.cells #[.slice A7 l'.length c7] 26)
    have KJ7 := (KJ.below h7 KJ.lt).alloc (.cells #[.slice A7 l'.length c7] 26)
    have KB := Blk.new w7 26 #[.slice A7 l'.length c7]
    have own8 := own_down (own7.alloc (.cells #[.slice A7 l'.length c7] 26)) (show w.heap.size + 1 + 1 + 1 + 1 ≤ (w6.alloc (.cells #[.int .i64 (j : Int)] 3)).heap.size by simp; omega)
    clear r0 r1 own7 h7 L0 L1 L2 L3 B6 KJ
    go_upto_region 6 with fail
    generalize w7.alloc (.cells #[.slice A7 l'.length c7] 26) = W at K7 KJ7 KB B7 own8 ⊢
    generalize w7.heap.size = g12 at KB ⊢
    obtain ⟨g10, hg10⟩ : ∃ g, w6.heap.size = g := ⟨_, rfl⟩
    rw [hg10] at s6 KJ7 ⊢
    have d1 : W.drew.cell? ⟨g12, 0, none⟩ = some (.slice A7 l'.length c7) := KB.cell 0
    have d2 : W.drew.cell? ⟨g10, 0, none⟩ = some (.int .i64 (j : Int)) := KJ7.cell 0
    have d3 : W.drew.cell? ⟨w.heap.size + 1 + 1 + 1, 0, none⟩ = some (.slice none 0 0) := K7.cell 0
    have d4 : W.drew.frozen? ⟨w.heap.size + 1 + 1 + 1, 0, none⟩ = false := K7.frozen 0
    have d5 : W.cell? ⟨g10, 0, none⟩ = some (.int .i64 (j : Int)) := KJ7.cell 0
    have d6 : ¬ g10 = w.heap.size + 1 + 1 + 1 := by omega
    have d7 : ¬ w.heap.size + 1 + 1 + 1 = g10 := by omega
    have HKF := Lib.hid (put1 (x := .slice A7 l'.length c7) K7 B7 (by omega))
    have HO := Lib.hid (own_set own8 (g := w.heap.size + 1 + 1 + 1) (by omega) 0 (.slice A7 l'.length c7))
    have d8 : (W.setCell ⟨w.heap.size + 1 + 1 + 1, 0, none⟩ (.slice A7 l'.length c7)).drew.cell? ⟨g10, 0, none⟩ = some (.int .i64 (j : Int)) := (KJ7.far (p := ⟨w.heap.size + 1 + 1 + 1, 0, none⟩) d6 _).cell 0
    clear K7 KJ7 KB B7 own8 hg10
    go_region
    go_wp2_with fail
    rw [HV.out]
    exact bodyPost_ret (v := .tuple #[.agg #[.slice A7 l'.length c7], .int .i64 (j : Int), .int .i64 0]) (results_pools3 Tryd.results10 _ _ _ _ _ _ rfl HKF.out.1 Tryd.underlying26 rfl (by kernel_rfl)) rfl ⟨A7, c7, rfl, own_down HO.out.drew (by omega), HKF.out.2.drew⟩
  · have HV := Lib.hid (moveR_err hE)
    obtain ⟨E, hEE⟩ : ∃ E, (moveR l k t).2.2 = E := ⟨_, rfl⟩
    rw [hEE] at hE HV HUn
    have e0 : (E == 0) = false := by simp; exact hE
    clear hEE hE hAt hAb hG hl
    go_enter Tryd.func10, Tryd.ntmps10
    go_wp2_with fail
    refine (HUn.out _ HK.out.2.2.2.2).mono ?_
    rintro e w5 ⟨rfl, h5⟩
    have B5 := HK.out.2.2.2.2.trans (h5.mono HK.out.2.2.2.2.size)
    have K3 := HK.out.2.2.2.1.below h5 HK.out.2.2.2.1.lt
    have q3 := K3.cell 0
    have f3 := K3.frozen 0
    have HKF := Lib.hid (put1 (x := .slice none 0 0) K3 B5 (by omega))
    clear h5 k0 k1 k2 K3 B5
    go_wp2_with fail
    rw [HV.out]
    exact bodyPost_ret (v := .tuple #[.agg #[.slice none 0 0], .int .i64 0, .int .i64 E]) (results_pools3 Tryd.results10 _ _ _ _ _ _ rfl HKF.out.1 Tryd.underlying26 rfl (by kernel_rfl)) rfl (GivesP3.none_ HKF.out.2)

end Go.Proofs.YtnckfgnhlnichaaDoor
