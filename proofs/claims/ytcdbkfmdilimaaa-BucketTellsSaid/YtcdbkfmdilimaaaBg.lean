/-
  BucketTells' walk. No statement is proved here.
-/
import Derived.Test.YtcdbkfmdilimaaaBf
namespace Go.Proofs.Ytcdbkfmdilimaaa
open Go.RowKit

theorem wait_math {c t W : Int} (hd : dryB c t = true) (hW : (-t) / c + 1 = W) :
    decide (0 < W) = true ∧ decide (0 < wrap64 (t + wrap64 (c * W))) = true ∧ decide (wrap64 (t + wrap64 (c * wrap64 (W - 1))) ≤ 0) = true := by
  obtain ⟨h1, h2, h3, h4⟩ := dry_of hd
  have hq0 : 0 ≤ (-t) / c := Int.ediv_nonneg (by omega) (by omega)
  have hq1 : (-t) / c ≤ -t := Int.ediv_le_self _ (by omega)
  have a1 : c * ((-t) / c) ≤ -t := Int.mul_ediv_self_le (by omega)
  have a2 : -t < c * ((-t) / c) + c := Int.lt_mul_ediv_self_add (by omega)
  have a3 : 0 ≤ c * ((-t) / c) := Int.mul_nonneg (by omega) hq0
  obtain ⟨q, hq⟩ : ∃ q, (-t) / c = q := ⟨_, rfl⟩
  rw [hq] at hW hq0 hq1 a1 a2 a3
  have e1 : c * W = c * q + c := by rw [← hW, Int.mul_add, Int.mul_one]
  rw [w64 (n := W - 1) (by omega) (by omega), show W - 1 = q by omega, e1]
  obtain ⟨p, hp⟩ : ∃ p, c * q = p := ⟨_, rfl⟩
  rw [hp] at a1 a2 a3 ⊢
  rw [w64 (n := p + c) (by omega) (by omega), w64 (n := p) (by omega) (by omega), w64 (n := t + (p + c)) (by omega) (by omega), w64 (n := t + p) (by omega) (by omega)]
  exact ⟨decide_eq_true (by omega), decide_eq_true (by omega), decide_eq_true (by omega)⟩

set_option maxRecDepth 100000 in
set_option maxHeartbeats 8000000 in
theorem tells_walk (c t : Int) (w : World) : Calls Try.prog 4 #[.agg #[.int .i64 c, .int .i64 t]] w (Said (.bool true) w) := by
  obtain ⟨K0, GB⟩ := box1 w 23 #[.int .i64 c, .int .i64 t]
  have HK := Lib.hid (fun u => wakes_any u)
  have HR := Lib.hid (fun u => rright_any c t u)
  have HC := Lib.hid (fun u => check_any c t u)
  have HW := Lib.hid (fun u => wait_any c t u)
  have HDe := Lib.hid (fun u => bdepth_any c t u)
  have HDr := Lib.hid (fun u => dry_any c t u)
  have HrDr := Lib.hid (fun u => rdry_any c t u)
  have HrD := Lib.hid (fun u => rdepth_any c u)
  unfold chk at HC
  unfold waitV at HW
  cases hr : rightB c t with
  | false =>
    rw [hr] at HR
    rw [hr, if_neg (by simp)] at HC HW HDe
    rw [show dryB c t = false by unfold dryB; rw [hr]; rfl] at HDr
    clear hr HrDr HrD
    go_enter Try.func4, Try.ntmps4
    have z0 := K0.cell 0
    have z1 := K0.cell 1
    go_wp2_with fail
    refine (HK.out _).mono ?_
    rintro e w1 ⟨rfl, h9⟩
    clear z0 z1
    replace K0 := K0.below h9 K0.lt
    replace GB := GB.trans (h9.mono GB.size)
    clear h9
    have z0 := K0.cell 0
    have z1 := K0.cell 1
    go_wp2_with fail
    refine (HR.out _).mono ?_
    rintro e w2 ⟨rfl, h9⟩
    clear z0 z1
    replace K0 := K0.below h9 K0.lt
    replace GB := GB.trans (h9.mono GB.size)
    clear h9
    have z0 := K0.cell 0
    have z1 := K0.cell 1
    go_wp2_with fail
    refine (HC.out _).mono ?_
    rintro e w3 ⟨rfl, h9⟩
    clear z0 z1
    replace K0 := K0.below h9 K0.lt
    replace GB := GB.trans (h9.mono GB.size)
    clear h9
    have z0 := K0.cell 0
    have z1 := K0.cell 1
    go_wp2_with fail
    refine (HW.out _).mono ?_
    rintro e w4 ⟨rfl, h9⟩
    clear z0 z1
    replace K0 := K0.below h9 K0.lt
    replace GB := GB.trans (h9.mono GB.size)
    clear h9
    have z0 := K0.cell 0
    have z1 := K0.cell 1
    go_wp2_with fail
    refine (HDe.out _).mono ?_
    rintro e w5 ⟨rfl, h9⟩
    clear z0 z1
    replace K0 := K0.below h9 K0.lt
    replace GB := GB.trans (h9.mono GB.size)
    clear h9
    have z0 := K0.cell 0
    have z1 := K0.cell 1
    go_wp2_with fail
    refine (HDr.out _).mono ?_
    rintro e w6 ⟨rfl, h9⟩
    clear z0 z1
    replace K0 := K0.below h9 K0.lt
    replace GB := GB.trans (h9.mono GB.size)
    clear h9
    have HE := Lib.hid GB
    clear GB K0
    go_wp2
    go_ret
    exact ⟨rfl, HE.out⟩
  | true =>
    rw [hr] at HR
    rw [hr, if_pos rfl] at HC HW HDe
    rw [show (decide (0 < c) && decide (t ≤ 0)) = dryB c t by unfold dryB; rw [hr, Bool.true_and]] at HrDr
    obtain ⟨m, hm⟩ : ∃ m, wrap64 (c * 100000000) = m := ⟨_, rfl⟩
    rw [hm] at HDe HrD
    have e1 : (m != m) = false := by simp
    have e2 : (m == m) = true := by simp
    clear hr hm
    cases hd : dryB c t with
    | false =>
      rw [hd] at HDr HrDr
      rw [hd, if_neg (by simp)] at HW
      clear hd
      go_enter Try.func4, Try.ntmps4
      have z0 := K0.cell 0
      have z1 := K0.cell 1
      go_wp2_with fail
      refine (HK.out _).mono ?_
      rintro e w1 ⟨rfl, h9⟩
      clear z0 z1
      replace K0 := K0.below h9 K0.lt
      replace GB := GB.trans (h9.mono GB.size)
      clear h9
      have z0 := K0.cell 0
      have z1 := K0.cell 1
      go_wp2_with fail
      refine (HR.out _).mono ?_
      rintro e w2 ⟨rfl, h9⟩
      clear z0 z1
      replace K0 := K0.below h9 K0.lt
      replace GB := GB.trans (h9.mono GB.size)
      clear h9
      have z0 := K0.cell 0
      have z1 := K0.cell 1
      go_wp2_with fail
      refine (HC.out _).mono ?_
      rintro e w3 ⟨rfl, h9⟩
      clear z0 z1
      replace K0 := K0.below h9 K0.lt
      replace GB := GB.trans (h9.mono GB.size)
      clear h9
      have z0 := K0.cell 0
      have z1 := K0.cell 1
      go_wp2_with fail
      refine (HW.out _).mono ?_
      rintro e w4 ⟨rfl, h9⟩
      clear z0 z1
      replace K0 := K0.below h9 K0.lt
      replace GB := GB.trans (h9.mono GB.size)
      clear h9
      have z0 := K0.cell 0
      have z1 := K0.cell 1
      go_wp2_with fail
      refine (HrDr.out _).mono ?_
      rintro e w5 ⟨rfl, h9⟩
      clear z0 z1
      replace K0 := K0.below h9 K0.lt
      replace GB := GB.trans (h9.mono GB.size)
      clear h9
      go_upto_region 9 with fail
      go_cut [62] (fun s62 X => s62 = .bool false ∧ Blk X w.heap.size 23 #[.int .i64 c, .int .i64 t] ∧ Below w.heap.size w X)
      case first =>
        replace K0 : Blk w5.drew _ _ _ := K0
        replace GB := GB.drew
        refine wp_region_held_drew (S := fun u => Below w.heap.size w u ∧ Blk u w.heap.size 23 #[.int .i64 c, .int .i64 t]) (by kernel_rfl) ⟨GB, K0⟩ (fun hS => ?_)
        generalize w5.drew = V at K0 GB hS ⊢
        refine wpAnyH_take (i := 0) (v := .int .i64 0) rfl (by kernel_rfl) (by kernel_rfl) (by kernel_rfl) (fun _ _ _ h => h) (Or.inl ⟨by kernel_rfl, fun u hSw => (by go_simp)⟩) hS ?_
        change wpAnyH _ _ _ _ _ _ _ (Act.put _ (some 43) _) _
        simp only [Act.put]
        try simp only [List.setIfInBounds_toArray, List.set_cons_zero, List.set_cons_succ]
        refine wpAnyH_take (i := 1) (v := .bool false) rfl (by kernel_rfl) (by kernel_rfl) (by kernel_rfl) (fun _ _ _ h => h) (Or.inl ⟨by kernel_rfl, fun u hSw => (by go_simp)⟩) hS ?_
        change wpAnyH _ _ _ _ _ _ _ (Act.put _ (some 44) _) _
        simp only [Act.put]
        try simp only [List.setIfInBounds_toArray, List.set_cons_zero, List.set_cons_succ]
        refine wpAnyH_take (i := 2) (v := .bool false) rfl (by kernel_rfl) (by kernel_rfl) (by kernel_rfl) (fun _ _ _ h => h) (Or.inl ⟨by kernel_rfl, fun u hSw => (by go_simp)⟩) hS ?_
        change wpAnyH _ _ _ _ _ _ _ (Act.put _ (some 45) _) _
        simp only [Act.put]
        try simp only [List.setIfInBounds_toArray, List.set_cons_zero, List.set_cons_succ]
        refine wpAnyH_take (i := 3) (v := .agg #[.int .i64 c, .int .i64 t]) rfl (by kernel_rfl) (by kernel_rfl) (by kernel_rfl) (fun _ _ _ h => h) (Or.inl ⟨by kernel_rfl, fun u hSw => (by have q0 := hSw.2.cell 0; have q1 := hSw.2.cell 1; go_simp)⟩) hS ?_
        change wpAnyH _ _ _ _ _ _ _ (Act.put _ (some 46) _) _
        simp only [Act.put]
        try simp only [List.setIfInBounds_toArray, List.set_cons_zero, List.set_cons_succ]
        refine wpAnyH_take (i := 5) (v := .pointer (some ⟨w.heap.size, 0, none⟩)) rfl (by kernel_rfl) (by kernel_rfl) (by kernel_rfl) (fun _ _ _ h => h) (Or.inl ⟨by kernel_rfl, fun u hSw => (by go_simp)⟩) hS ?_
        change wpAnyH _ _ _ _ _ _ _ (Act.put _ (some 48) _) _
        simp only [Act.put]
        try simp only [List.setIfInBounds_toArray, List.set_cons_zero, List.set_cons_succ]
        refine wpAnyH_take (i := 6) (v := .int .i64 c) rfl (by kernel_rfl) (by kernel_rfl) (by kernel_rfl) (fun _ _ _ h => h) (Or.inl ⟨by kernel_rfl, fun u hSw => (by have q0 := hSw.2.cell 0; go_simp)⟩) hS ?_
        change wpAnyH _ _ _ _ _ _ _ (Act.put _ (some 49) _) _
        simp only [Act.put]
        try simp only [List.setIfInBounds_toArray, List.set_cons_zero, List.set_cons_succ]
        refine wpAnyH_ready (rs := [4]) (by kernel_rfl) (by simp) ?_
        refine AllReadyH.cons rfl (fun K hK => ?_) AllReadyH.nil
        go_simp
        refine (HDe.out _).mono ?_
        rintro e1 w1 ⟨rfl, h9⟩
        replace K0 := K0.below h9 K0.lt
        replace GB := GB.trans (h9.mono GB.size)
        clear h9
        refine hK.out _ _ ⟨GB, K0⟩ (fun hS => ?_)
        clear hK K
        refine wpAnyH_ready (rs := [7]) (by kernel_rfl) (by simp) ?_
        refine AllReadyH.cons rfl (fun K hK => ?_) AllReadyH.nil
        go_simp
        refine (HrD.out _).mono ?_
        rintro e2 w2 ⟨rfl, rfl⟩
        refine hK.out _ _ ⟨GB, K0⟩ (fun hS => ?_)
        clear hK K
        refine wpAnyH_take (i := 8) (v := .bool false) rfl (by kernel_rfl) (by kernel_rfl) (by kernel_rfl) (fun _ _ _ h => h) (Or.inl ⟨by kernel_rfl, fun u hSw => (by go_simp)⟩) hS ?_
        change wpAnyH _ _ _ _ _ _ _ (Act.put _ (some 51) _) _
        simp only [Act.put]
        try simp only [List.setIfInBounds_toArray, List.set_cons_zero, List.set_cons_succ]
        refine wpAnyH_take (i := 9) (v := .bool false) rfl (by kernel_rfl) (by kernel_rfl) (by kernel_rfl) (fun _ _ _ h => h) (Or.inl ⟨by kernel_rfl, fun u hSw => (by go_simp)⟩) hS ?_
        change wpAnyH _ _ _ _ _ _ _ (Act.put _ (some 52) _) _
        simp only [Act.put]
        try simp only [List.setIfInBounds_toArray, List.set_cons_zero, List.set_cons_succ]
        refine wpAnyH_take (i := 10) (v := .bool false) rfl (by kernel_rfl) (by kernel_rfl) (by kernel_rfl) (fun _ _ _ h => h) (Or.inl ⟨by kernel_rfl, fun u hSw => (by go_simp)⟩) hS ?_
        change wpAnyH _ _ _ _ _ _ _ (Act.put _ (some 53) _) _
        simp only [Act.put]
        try simp only [List.setIfInBounds_toArray, List.set_cons_zero, List.set_cons_succ]
        refine wpAnyH_take (i := 11) (v := .agg #[.int .i64 c, .int .i64 t]) rfl (by kernel_rfl) (by kernel_rfl) (by kernel_rfl) (fun _ _ _ h => h) (Or.inl ⟨by kernel_rfl, fun u hSw => (by have q0 := hSw.2.cell 0; have q1 := hSw.2.cell 1; go_simp)⟩) hS ?_
        change wpAnyH _ _ _ _ _ _ _ (Act.put _ (some 54) _) _
        simp only [Act.put]
        try simp only [List.setIfInBounds_toArray, List.set_cons_zero, List.set_cons_succ]
        refine wpAnyH_take (i := 13) (v := .bool false) rfl (by kernel_rfl) (by kernel_rfl) (by kernel_rfl) (fun _ _ _ h => h) (Or.inl ⟨by kernel_rfl, fun u hSw => (by go_simp)⟩) hS ?_
        change wpAnyH _ _ _ _ _ _ _ (Act.put _ (some 56) _) _
        simp only [Act.put]
        try simp only [List.setIfInBounds_toArray, List.set_cons_zero, List.set_cons_succ]
        refine wpAnyH_ready (rs := [12]) (by kernel_rfl) (by simp) ?_
        refine AllReadyH.cons rfl (fun K hK => ?_) AllReadyH.nil
        go_simp
        refine (HDr.out _).mono ?_
        rintro e3 w3 ⟨rfl, h9⟩
        replace K0 := K0.below h9 K0.lt
        replace GB := GB.trans (h9.mono GB.size)
        clear h9
        refine hK.out _ _ ⟨GB, K0⟩ (fun hS => ?_)
        clear hK K
        refine wpAnyH_take (i := 14) (v := .bool false) rfl (by kernel_rfl) (by kernel_rfl) (by kernel_rfl) (fun _ _ _ h => h) (Or.inl ⟨by kernel_rfl, fun u hSw => (by go_simp)⟩) hS ?_
        change wpAnyH _ _ _ _ _ _ _ (Act.put _ (some 57) _) _
        simp only [Act.put]
        try simp only [List.setIfInBounds_toArray, List.set_cons_zero, List.set_cons_succ]
        refine wpAnyH_take (i := 15) (v := .bool false) rfl (by kernel_rfl) (by kernel_rfl) (by kernel_rfl) (fun _ _ _ h => h) (Or.inl ⟨by kernel_rfl, fun u hSw => (by go_simp)⟩) hS ?_
        change wpAnyH _ _ _ _ _ _ _ (Act.put _ (some 58) _) _
        simp only [Act.put]
        try simp only [List.setIfInBounds_toArray, List.set_cons_zero, List.set_cons_succ]
        refine wpAnyH_take (i := 16) (v := .bool false) rfl (by kernel_rfl) (by kernel_rfl) (by kernel_rfl) (fun _ _ _ h => h) (Or.inl ⟨by kernel_rfl, fun u hSw => (by go_simp)⟩) hS ?_
        change wpAnyH _ _ _ _ _ _ _ (Act.put _ (some 59) _) _
        simp only [Act.put]
        try simp only [List.setIfInBounds_toArray, List.set_cons_zero, List.set_cons_succ]
        refine wpAnyH_take (i := 17) (v := .int .i64 0) rfl (by kernel_rfl) (by kernel_rfl) (by kernel_rfl) (fun _ _ _ h => h) (Or.inl ⟨by kernel_rfl, fun u hSw => (by go_simp)⟩) hS ?_
        change wpAnyH _ _ _ _ _ _ _ (Act.put _ (some 60) _) _
        simp only [Act.put]
        try simp only [List.setIfInBounds_toArray, List.set_cons_zero, List.set_cons_succ]
        refine wpAnyH_take (i := 18) (v := .bool false) rfl (by kernel_rfl) (by kernel_rfl) (by kernel_rfl) (fun _ _ _ h => h) (Or.inl ⟨by kernel_rfl, fun u hSw => (by go_simp)⟩) hS ?_
        change wpAnyH _ _ _ _ _ _ _ (Act.put _ (some 61) _) _
        simp only [Act.put]
        try simp only [List.setIfInBounds_toArray, List.set_cons_zero, List.set_cons_succ]
        refine wpAnyH_take (i := 19) (v := .bool false) rfl (by kernel_rfl) (by kernel_rfl) (by kernel_rfl) (fun _ _ _ h => h) (Or.inl ⟨by kernel_rfl, fun u hSw => (by go_simp)⟩) hS ?_
        change wpAnyH _ _ _ _ _ _ _ (Act.put _ (some 62) _) _
        simp only [Act.put]
        try simp only [List.setIfInBounds_toArray, List.set_cons_zero, List.set_cons_succ]
        refine wpAnyH_done (by kernel_rfl) ?_ _
        clear hS
        go_wp2_with fail
        go_meet
        exact ⟨rfl, K0, GB⟩
      case rest =>
        clear K0 GB
        obtain ⟨rfl, K0, GB⟩ := hcut
        rename World => X6
        have HE := Lib.hid GB
        clear GB K0
        go_wp2
        go_ret
        exact ⟨rfl, HE.out⟩
    | true =>
      rw [hd] at HDr HrDr
      rw [hd, if_pos rfl] at HW
      obtain ⟨W, hW⟩ : ∃ W, (-t) / c + 1 = W := ⟨_, rfl⟩
      rw [hW] at HW
      obtain ⟨c6, c7, c8⟩ := wait_math hd hW
      clear hd hW
      go_enter Try.func4, Try.ntmps4
      have z0 := K0.cell 0
      have z1 := K0.cell 1
      go_wp2_with fail
      refine (HK.out _).mono ?_
      rintro e w1 ⟨rfl, h9⟩
      clear z0 z1
      replace K0 := K0.below h9 K0.lt
      replace GB := GB.trans (h9.mono GB.size)
      clear h9
      have z0 := K0.cell 0
      have z1 := K0.cell 1
      go_wp2_with fail
      refine (HR.out _).mono ?_
      rintro e w2 ⟨rfl, h9⟩
      clear z0 z1
      replace K0 := K0.below h9 K0.lt
      replace GB := GB.trans (h9.mono GB.size)
      clear h9
      have z0 := K0.cell 0
      have z1 := K0.cell 1
      go_wp2_with fail
      refine (HC.out _).mono ?_
      rintro e w3 ⟨rfl, h9⟩
      clear z0 z1
      replace K0 := K0.below h9 K0.lt
      replace GB := GB.trans (h9.mono GB.size)
      clear h9
      have z0 := K0.cell 0
      have z1 := K0.cell 1
      go_wp2_with fail
      refine (HW.out _).mono ?_
      rintro e w4 ⟨rfl, h9⟩
      clear z0 z1
      replace K0 := K0.below h9 K0.lt
      replace GB := GB.trans (h9.mono GB.size)
      clear h9
      have z0 := K0.cell 0
      have z1 := K0.cell 1
      go_wp2_with fail
      refine (HrDr.out _).mono ?_
      rintro e w5 ⟨rfl, h9⟩
      clear z0 z1
      replace K0 := K0.below h9 K0.lt
      replace GB := GB.trans (h9.mono GB.size)
      clear h9
      go_upto_region 9 with fail
      go_cut [62] (fun s62 X => s62 = .bool false ∧ Blk X w.heap.size 23 #[.int .i64 c, .int .i64 t] ∧ Below w.heap.size w X)
      case first =>
        replace K0 : Blk w5.drew _ _ _ := K0
        replace GB := GB.drew
        refine wp_region_held_drew (S := fun u => Below w.heap.size w u ∧ Blk u w.heap.size 23 #[.int .i64 c, .int .i64 t]) (by kernel_rfl) ⟨GB, K0⟩ (fun hS => ?_)
        generalize w5.drew = V at K0 GB hS ⊢
        refine wpAnyH_take (i := 0) (v := .int .i64 0) rfl (by kernel_rfl) (by kernel_rfl) (by kernel_rfl) (fun _ _ _ h => h) (Or.inl ⟨by kernel_rfl, fun u hSw => (by go_simp)⟩) hS ?_
        change wpAnyH _ _ _ _ _ _ _ (Act.put _ (some 43) _) _
        simp only [Act.put]
        try simp only [List.setIfInBounds_toArray, List.set_cons_zero, List.set_cons_succ]
        refine wpAnyH_take (i := 1) (v := .bool false) rfl (by kernel_rfl) (by kernel_rfl) (by kernel_rfl) (fun _ _ _ h => h) (Or.inl ⟨by kernel_rfl, fun u hSw => (by go_simp)⟩) hS ?_
        change wpAnyH _ _ _ _ _ _ _ (Act.put _ (some 44) _) _
        simp only [Act.put]
        try simp only [List.setIfInBounds_toArray, List.set_cons_zero, List.set_cons_succ]
        refine wpAnyH_take (i := 2) (v := .bool false) rfl (by kernel_rfl) (by kernel_rfl) (by kernel_rfl) (fun _ _ _ h => h) (Or.inl ⟨by kernel_rfl, fun u hSw => (by go_simp)⟩) hS ?_
        change wpAnyH _ _ _ _ _ _ _ (Act.put _ (some 45) _) _
        simp only [Act.put]
        try simp only [List.setIfInBounds_toArray, List.set_cons_zero, List.set_cons_succ]
        refine wpAnyH_take (i := 3) (v := .agg #[.int .i64 c, .int .i64 t]) rfl (by kernel_rfl) (by kernel_rfl) (by kernel_rfl) (fun _ _ _ h => h) (Or.inl ⟨by kernel_rfl, fun u hSw => (by have q0 := hSw.2.cell 0; have q1 := hSw.2.cell 1; go_simp)⟩) hS ?_
        change wpAnyH _ _ _ _ _ _ _ (Act.put _ (some 46) _) _
        simp only [Act.put]
        try simp only [List.setIfInBounds_toArray, List.set_cons_zero, List.set_cons_succ]
        refine wpAnyH_take (i := 5) (v := .pointer (some ⟨w.heap.size, 0, none⟩)) rfl (by kernel_rfl) (by kernel_rfl) (by kernel_rfl) (fun _ _ _ h => h) (Or.inl ⟨by kernel_rfl, fun u hSw => (by go_simp)⟩) hS ?_
        change wpAnyH _ _ _ _ _ _ _ (Act.put _ (some 48) _) _
        simp only [Act.put]
        try simp only [List.setIfInBounds_toArray, List.set_cons_zero, List.set_cons_succ]
        refine wpAnyH_take (i := 6) (v := .int .i64 c) rfl (by kernel_rfl) (by kernel_rfl) (by kernel_rfl) (fun _ _ _ h => h) (Or.inl ⟨by kernel_rfl, fun u hSw => (by have q0 := hSw.2.cell 0; go_simp)⟩) hS ?_
        change wpAnyH _ _ _ _ _ _ _ (Act.put _ (some 49) _) _
        simp only [Act.put]
        try simp only [List.setIfInBounds_toArray, List.set_cons_zero, List.set_cons_succ]
        refine wpAnyH_ready (rs := [4]) (by kernel_rfl) (by simp) ?_
        refine AllReadyH.cons rfl (fun K hK => ?_) AllReadyH.nil
        go_simp
        refine (HDe.out _).mono ?_
        rintro e1 w1 ⟨rfl, h9⟩
        replace K0 := K0.below h9 K0.lt
        replace GB := GB.trans (h9.mono GB.size)
        clear h9
        refine hK.out _ _ ⟨GB, K0⟩ (fun hS => ?_)
        clear hK K
        refine wpAnyH_ready (rs := [7]) (by kernel_rfl) (by simp) ?_
        refine AllReadyH.cons rfl (fun K hK => ?_) AllReadyH.nil
        go_simp
        refine (HrD.out _).mono ?_
        rintro e2 w2 ⟨rfl, rfl⟩
        refine hK.out _ _ ⟨GB, K0⟩ (fun hS => ?_)
        clear hK K
        refine wpAnyH_take (i := 8) (v := .bool false) rfl (by kernel_rfl) (by kernel_rfl) (by kernel_rfl) (fun _ _ _ h => h) (Or.inl ⟨by kernel_rfl, fun u hSw => (by go_simp)⟩) hS ?_
        change wpAnyH _ _ _ _ _ _ _ (Act.put _ (some 51) _) _
        simp only [Act.put]
        try simp only [List.setIfInBounds_toArray, List.set_cons_zero, List.set_cons_succ]
        refine wpAnyH_take (i := 9) (v := .bool false) rfl (by kernel_rfl) (by kernel_rfl) (by kernel_rfl) (fun _ _ _ h => h) (Or.inl ⟨by kernel_rfl, fun u hSw => (by go_simp)⟩) hS ?_
        change wpAnyH _ _ _ _ _ _ _ (Act.put _ (some 52) _) _
        simp only [Act.put]
        try simp only [List.setIfInBounds_toArray, List.set_cons_zero, List.set_cons_succ]
        refine wpAnyH_take (i := 10) (v := .bool false) rfl (by kernel_rfl) (by kernel_rfl) (by kernel_rfl) (fun _ _ _ h => h) (Or.inl ⟨by kernel_rfl, fun u hSw => (by go_simp)⟩) hS ?_
        change wpAnyH _ _ _ _ _ _ _ (Act.put _ (some 53) _) _
        simp only [Act.put]
        try simp only [List.setIfInBounds_toArray, List.set_cons_zero, List.set_cons_succ]
        refine wpAnyH_take (i := 11) (v := .agg #[.int .i64 c, .int .i64 t]) rfl (by kernel_rfl) (by kernel_rfl) (by kernel_rfl) (fun _ _ _ h => h) (Or.inl ⟨by kernel_rfl, fun u hSw => (by have q0 := hSw.2.cell 0; have q1 := hSw.2.cell 1; go_simp)⟩) hS ?_
        change wpAnyH _ _ _ _ _ _ _ (Act.put _ (some 54) _) _
        simp only [Act.put]
        try simp only [List.setIfInBounds_toArray, List.set_cons_zero, List.set_cons_succ]
        refine wpAnyH_take (i := 13) (v := .bool true) rfl (by kernel_rfl) (by kernel_rfl) (by kernel_rfl) (fun _ _ _ h => h) (Or.inl ⟨by kernel_rfl, fun u hSw => (by go_simp)⟩) hS ?_
        change wpAnyH _ _ _ _ _ _ _ (Act.put _ (some 56) _) _
        simp only [Act.put]
        try simp only [List.setIfInBounds_toArray, List.set_cons_zero, List.set_cons_succ]
        refine wpAnyH_ready (rs := [12]) (by kernel_rfl) (by simp) ?_
        refine AllReadyH.cons rfl (fun K hK => ?_) AllReadyH.nil
        go_simp
        refine (HDr.out _).mono ?_
        rintro e3 w3 ⟨rfl, h9⟩
        replace K0 := K0.below h9 K0.lt
        replace GB := GB.trans (h9.mono GB.size)
        clear h9
        refine hK.out _ _ ⟨GB, K0⟩ (fun hS => ?_)
        clear hK K
        refine wpAnyH_take (i := 14) (v := .bool false) rfl (by kernel_rfl) (by kernel_rfl) (by kernel_rfl) (fun _ _ _ h => h) (Or.inl ⟨by kernel_rfl, fun u hSw => (by go_simp)⟩) hS ?_
        change wpAnyH _ _ _ _ _ _ _ (Act.put _ (some 57) _) _
        simp only [Act.put]
        try simp only [List.setIfInBounds_toArray, List.set_cons_zero, List.set_cons_succ]
        refine wpAnyH_take (i := 15) (v := .bool false) rfl (by kernel_rfl) (by kernel_rfl) (by kernel_rfl) (fun _ _ _ h => h) (Or.inl ⟨by kernel_rfl, fun u hSw => (by go_simp)⟩) hS ?_
        change wpAnyH _ _ _ _ _ _ _ (Act.put _ (some 58) _) _
        simp only [Act.put]
        try simp only [List.setIfInBounds_toArray, List.set_cons_zero, List.set_cons_succ]
        refine wpAnyH_take (i := 16) (v := .bool false) rfl (by kernel_rfl) (by kernel_rfl) (by kernel_rfl) (fun _ _ _ h => h) (Or.inl ⟨by kernel_rfl, fun u hSw => (by go_simp)⟩) hS ?_
        change wpAnyH _ _ _ _ _ _ _ (Act.put _ (some 59) _) _
        simp only [Act.put]
        try simp only [List.setIfInBounds_toArray, List.set_cons_zero, List.set_cons_succ]
        refine wpAnyH_take (i := 17) (v := .int .i64 0) rfl (by kernel_rfl) (by kernel_rfl) (by kernel_rfl) (fun _ _ _ h => h) (Or.inl ⟨by kernel_rfl, fun u hSw => (by go_simp)⟩) hS ?_
        change wpAnyH _ _ _ _ _ _ _ (Act.put _ (some 60) _) _
        simp only [Act.put]
        try simp only [List.setIfInBounds_toArray, List.set_cons_zero, List.set_cons_succ]
        refine wpAnyH_take (i := 18) (v := .bool false) rfl (by kernel_rfl) (by kernel_rfl) (by kernel_rfl) (fun _ _ _ h => h) (Or.inl ⟨by kernel_rfl, fun u hSw => (by go_simp)⟩) hS ?_
        change wpAnyH _ _ _ _ _ _ _ (Act.put _ (some 61) _) _
        simp only [Act.put]
        try simp only [List.setIfInBounds_toArray, List.set_cons_zero, List.set_cons_succ]
        refine wpAnyH_take (i := 19) (v := .bool false) rfl (by kernel_rfl) (by kernel_rfl) (by kernel_rfl) (fun _ _ _ h => h) (Or.inl ⟨by kernel_rfl, fun u hSw => (by go_simp)⟩) hS ?_
        change wpAnyH _ _ _ _ _ _ _ (Act.put _ (some 62) _) _
        simp only [Act.put]
        try simp only [List.setIfInBounds_toArray, List.set_cons_zero, List.set_cons_succ]
        refine wpAnyH_done (by kernel_rfl) ?_ _
        clear hS
        go_wp2_with fail
        go_meet
        exact ⟨rfl, K0, GB⟩
      case rest =>
        clear K0 GB
        obtain ⟨rfl, K0, GB⟩ := hcut
        rename World => X6
        have z0 := K0.cell 0
        have z1 := K0.cell 1
        have HE := Lib.hid GB
        clear GB K0
        go_wp2
        go_ret
        exact ⟨rfl, HE.out⟩

end Go.Proofs.Ytcdbkfmdilimaaa
