/-
  The document's Depth, Right, Dry, Change, Pass; the statements' wakes. No statement is proved here.
-/
import Derived.Test.YtcdbkfmdilimaaaBd
namespace Go.Proofs.Ytcdbkfmdilimaaa
open Go.RowKit

set_option maxRecDepth 100000 in
set_option maxHeartbeats 400000 in
theorem rdepth_any (p : Int) (w : World) : Calls Try.prog 18 #[.int .i64 p] w fun e w' => e = .returned (.int .i64 (wrap64 (p * 100000000))) ∧ w = w' := by
  go_enter Try.func18, Try.ntmps18
  go_wp2
  go_ret
  exact ⟨rfl, rfl⟩

theorem rdepth_said (p : Int) (w : World) : Calls Try.prog 18 #[.int .i64 p] w (Said (.int .i64 (wrap64 (p * 100000000))) w) := (rdepth_any p w).mono (fun _ _ h => ⟨h.1, h.2 ▸ Below.refl _ _⟩)
set_option maxRecDepth 100000 in
set_option maxHeartbeats 2000000 in
theorem rdry_any (c t : Int) (w : World) : Calls Try.prog 17 #[.agg #[.int .i64 c, .int .i64 t]] w (Said (.bool (decide (0 < c) && decide (t ≤ 0))) w) := by
  obtain ⟨K0, GB⟩ := box1 w 23 #[.int .i64 c, .int .i64 t]
  have z0 := K0.cell 0
  have z1 := K0.cell 1
  have HE := Lib.hid GB
  by_cases h1 : 0 < c
  · have c1 : decide (0 < c) = true := decide_eq_true h1
    by_cases h2 : t ≤ 0
    · have c2 : decide (t ≤ 0) = true := decide_eq_true h2
      have H : Hid ((decide (0 < c) && decide (t ≤ 0)) = true) := Lib.hid (by rw [c1, c2]; rfl)
      clear h1 h2 K0 GB
      go_enter Try.func17, Try.ntmps17
      go_wp2
      go_ret
      exact ⟨retB H.out.symm, HE.out⟩
    · have c2 : decide (t ≤ 0) = false := decide_eq_false h2
      have H : Hid ((decide (0 < c) && decide (t ≤ 0)) = false) := Lib.hid (by rw [c1, c2]; rfl)
      clear h1 h2 K0 GB
      go_enter Try.func17, Try.ntmps17
      go_wp2
      go_ret
      exact ⟨retB H.out.symm, HE.out⟩
  · have c1 : decide (0 < c) = false := decide_eq_false h1
    have H : Hid ((decide (0 < c) && decide (t ≤ 0)) = false) := Lib.hid (by rw [c1]; rfl)
    clear h1 K0 GB
    go_enter Try.func17, Try.ntmps17
    go_wp2
    go_ret
    exact ⟨retB H.out.symm, HE.out⟩

set_option maxRecDepth 100000 in
set_option maxHeartbeats 4000000 in
theorem rright_any (c t : Int) (w : World) : Calls Try.prog 12 #[.agg #[.int .i64 c, .int .i64 t]] w (Said (.bool (rightB c t)) w) := by
  obtain ⟨K0, GB⟩ := box1 w 23 #[.int .i64 c, .int .i64 t]
  have z0 := K0.cell 0
  have z1 := K0.cell 1
  have HB := Lib.hid GB
  by_cases h1 : c < 0
  · have H : Hid (rightB c t = false) := Lib.hid (right_no (by omega) (by omega))
    have c1 : decide (c < 0) = true := decide_eq_true h1
    clear h1 K0 GB
    go_enter Try.func12, Try.ntmps12
    go_wp2
    go_ret
    exact ⟨retB H.out.symm, HB.out⟩
  · have c1 : decide (c < 0) = false := decide_eq_false h1
    by_cases h2 : 800 < c
    · have H : Hid (rightB c t = false) := Lib.hid (right_no (by omega) (by omega))
      have c2 : decide (800 < c) = true := decide_eq_true h2
      clear h1 h2 K0 GB
      go_enter Try.func12, Try.ntmps12
      go_wp2
      go_ret
      exact ⟨retB H.out.symm, HB.out⟩
    · have c2 : decide (800 < c) = false := decide_eq_false h2
      by_cases h3 : c = 0
      · have c3 : (c == 0) = true := by simp [h3]
        by_cases h4 : t = 0
        · have c4 : (t == 0) = true := by simp [h4]
          have H : Hid (rightB c t = true) := Lib.hid (by unfold rightB; simp [h3, h4])
          clear h1 h2 h3 h4 K0 GB
          go_enter Try.func12, Try.ntmps12
          go_wp2
          go_ret
          exact ⟨retB H.out.symm, HB.out⟩
        · have c4 : (t == 0) = false := by simp [h4]
          have H : Hid (rightB c t = false) := Lib.hid (right_no (by omega) (by omega))
          clear h1 h2 h3 h4 K0 GB
          go_enter Try.func12, Try.ntmps12
          go_wp2
          go_ret
          exact ⟨retB H.out.symm, HB.out⟩
      · have c3 : (c == 0) = false := by simp [h3]
        have hw : wrap64 (c * 100000000) = c * 100000000 := w64 (by omega) (by omega)
        have HD := Lib.hid (fun u => rdepth_any c u)
        rw [hw] at HD
        obtain ⟨m, hm⟩ : ∃ m, c * 100000000 = m := ⟨_, rfl⟩
        rw [hm] at HD hw
        by_cases h5 : -8000000000 ≤ t
        · have c5 : decide ((-8000000000 : Int) ≤ t) = true := decide_eq_true h5
          by_cases h6 : t ≤ m
          · have c6 : decide (t ≤ m) = true := decide_eq_true h6
            have H : Hid (rightB c t = true) := Lib.hid (right_mk (by omega))
            clear h1 h2 h3 h5 h6 hw hm HB
            go_enter Try.func12, Try.ntmps12
            go_upto_region 5 with fail
            clear z0 z1
            replace K0 : Blk (w.alloc (.cells #[.int .i64 c, .int .i64 t] 23)).drew _ _ _ := K0
            replace GB := GB.drew
            refine wp_region_held_drew (S := fun u => Below w.heap.size w u ∧ Blk u w.heap.size 23 #[.int .i64 c, .int .i64 t]) (by kernel_rfl) ⟨GB, K0⟩ (fun hS => ?_)
            generalize (w.alloc (.cells #[.int .i64 c, .int .i64 t] 23)).drew = V at K0 GB hS ⊢
            refine wpAnyH_take (i := 0) (v := .pointer (some ⟨w.heap.size, 1, none⟩)) rfl (by kernel_rfl) (by kernel_rfl) (by kernel_rfl) (fun _ _ _ h => h) (Or.inl ⟨by kernel_rfl, fun u hSw => (by go_simp)⟩) hS ?_
            change wpAnyH _ _ _ _ _ _ _ (Act.put _ (some 17) _) _
            simp only [Act.put]
            try simp only [List.setIfInBounds_toArray, List.set_cons_zero, List.set_cons_succ]
            refine wpAnyH_take (i := 1) (v := .int .i64 t) rfl (by kernel_rfl) (by kernel_rfl) (by kernel_rfl) (fun _ _ _ h => h) (Or.inl ⟨by kernel_rfl, fun u hSw => (by have q0 := hSw.2.cell 1; go_simp)⟩) hS ?_
            change wpAnyH _ _ _ _ _ _ _ (Act.put _ (some 18) _) _
            simp only [Act.put]
            try simp only [List.setIfInBounds_toArray, List.set_cons_zero, List.set_cons_succ]
            refine wpAnyH_take (i := 2) (v := .bool true) rfl (by kernel_rfl) (by kernel_rfl) (by kernel_rfl) (fun _ _ _ h => h) (Or.inl ⟨by kernel_rfl, fun u hSw => (by go_simp)⟩) hS ?_
            change wpAnyH _ _ _ _ _ _ _ (Act.put _ (some 19) _) _
            simp only [Act.put]
            try simp only [List.setIfInBounds_toArray, List.set_cons_zero, List.set_cons_succ]
            refine wpAnyH_take (i := 3) (v := .bool true) rfl (by kernel_rfl) (by kernel_rfl) (by kernel_rfl) (fun _ _ _ h => h) (Or.inl ⟨by kernel_rfl, fun u hSw => (by go_simp)⟩) hS ?_
            change wpAnyH _ _ _ _ _ _ _ (Act.put _ (some 20) _) _
            simp only [Act.put]
            try simp only [List.setIfInBounds_toArray, List.set_cons_zero, List.set_cons_succ]
            refine wpAnyH_take (i := 4) (v := .pointer (some ⟨w.heap.size, 1, none⟩)) rfl (by kernel_rfl) (by kernel_rfl) (by kernel_rfl) (fun _ _ _ h => h) (Or.inl ⟨by kernel_rfl, fun u hSw => (by go_simp)⟩) hS ?_
            change wpAnyH _ _ _ _ _ _ _ (Act.put _ (some 21) _) _
            simp only [Act.put]
            try simp only [List.setIfInBounds_toArray, List.set_cons_zero, List.set_cons_succ]
            refine wpAnyH_take (i := 5) (v := .int .i64 t) rfl (by kernel_rfl) (by kernel_rfl) (by kernel_rfl) (fun _ _ _ h => h) (Or.inl ⟨by kernel_rfl, fun u hSw => (by have q0 := hSw.2.cell 1; go_simp)⟩) hS ?_
            change wpAnyH _ _ _ _ _ _ _ (Act.put _ (some 22) _) _
            simp only [Act.put]
            try simp only [List.setIfInBounds_toArray, List.set_cons_zero, List.set_cons_succ]
            refine wpAnyH_take (i := 6) (v := .pointer (some ⟨w.heap.size, 0, none⟩)) rfl (by kernel_rfl) (by kernel_rfl) (by kernel_rfl) (fun _ _ _ h => h) (Or.inl ⟨by kernel_rfl, fun u hSw => (by go_simp)⟩) hS ?_
            change wpAnyH _ _ _ _ _ _ _ (Act.put _ (some 23) _) _
            simp only [Act.put]
            try simp only [List.setIfInBounds_toArray, List.set_cons_zero, List.set_cons_succ]
            refine wpAnyH_take (i := 7) (v := .int .i64 c) rfl (by kernel_rfl) (by kernel_rfl) (by kernel_rfl) (fun _ _ _ h => h) (Or.inl ⟨by kernel_rfl, fun u hSw => (by have q0 := hSw.2.cell 0; go_simp)⟩) hS ?_
            change wpAnyH _ _ _ _ _ _ _ (Act.put _ (some 24) _) _
            simp only [Act.put]
            try simp only [List.setIfInBounds_toArray, List.set_cons_zero, List.set_cons_succ]
            refine wpAnyH_ready (rs := [8]) (by kernel_rfl) (by simp) ?_
            refine AllReadyH.cons rfl (fun K hK => ?_) AllReadyH.nil
            go_simp
            refine (HD.out _).mono ?_
            rintro e1 w1 ⟨rfl, rfl⟩
            refine hK.out _ _ ⟨GB, K0⟩ (fun hS => ?_)
            clear hK K
            refine wpAnyH_take (i := 9) (v := .bool true) rfl (by kernel_rfl) (by kernel_rfl) (by kernel_rfl) (fun _ _ _ h => h) (Or.inl ⟨by kernel_rfl, fun u hSw => (by go_simp)⟩) hS ?_
            change wpAnyH _ _ _ _ _ _ _ (Act.put _ (some 26) _) _
            simp only [Act.put]
            try simp only [List.setIfInBounds_toArray, List.set_cons_zero, List.set_cons_succ]
            refine wpAnyH_take (i := 10) (v := .bool true) rfl (by kernel_rfl) (by kernel_rfl) (by kernel_rfl) (fun _ _ _ h => h) (Or.inl ⟨by kernel_rfl, fun u hSw => (by go_simp)⟩) hS ?_
            change wpAnyH _ _ _ _ _ _ _ (Act.put _ (some 27) _) _
            simp only [Act.put]
            try simp only [List.setIfInBounds_toArray, List.set_cons_zero, List.set_cons_succ]
            refine wpAnyH_take (i := 11) (v := .bool true) rfl (by kernel_rfl) (by kernel_rfl) (by kernel_rfl) (fun _ _ _ h => h) (Or.inl ⟨by kernel_rfl, fun u hSw => (by go_simp)⟩) hS ?_
            change wpAnyH _ _ _ _ _ _ _ (Act.put _ (some 2) _) _
            simp only [Act.put]
            try simp only [List.setIfInBounds_toArray, List.set_cons_zero, List.set_cons_succ]
            refine wpAnyH_done (by kernel_rfl) ?_ _
            clear hS
            have HE := Lib.hid GB
            clear GB K0
            go_wp2
            go_ret
            exact ⟨retB H.out.symm, HE.out⟩
          · have c6 : decide (t ≤ m) = false := decide_eq_false h6
            have H : Hid (rightB c t = false) := Lib.hid (right_no (by omega) (by omega))
            clear h1 h2 h3 h5 h6 hw hm HB
            go_enter Try.func12, Try.ntmps12
            go_upto_region 5 with fail
            clear z0 z1
            replace K0 : Blk (w.alloc (.cells #[.int .i64 c, .int .i64 t] 23)).drew _ _ _ := K0
            replace GB := GB.drew
            refine wp_region_held_drew (S := fun u => Below w.heap.size w u ∧ Blk u w.heap.size 23 #[.int .i64 c, .int .i64 t]) (by kernel_rfl) ⟨GB, K0⟩ (fun hS => ?_)
            generalize (w.alloc (.cells #[.int .i64 c, .int .i64 t] 23)).drew = V at K0 GB hS ⊢
            refine wpAnyH_take (i := 0) (v := .pointer (some ⟨w.heap.size, 1, none⟩)) rfl (by kernel_rfl) (by kernel_rfl) (by kernel_rfl) (fun _ _ _ h => h) (Or.inl ⟨by kernel_rfl, fun u hSw => (by go_simp)⟩) hS ?_
            change wpAnyH _ _ _ _ _ _ _ (Act.put _ (some 17) _) _
            simp only [Act.put]
            try simp only [List.setIfInBounds_toArray, List.set_cons_zero, List.set_cons_succ]
            refine wpAnyH_take (i := 1) (v := .int .i64 t) rfl (by kernel_rfl) (by kernel_rfl) (by kernel_rfl) (fun _ _ _ h => h) (Or.inl ⟨by kernel_rfl, fun u hSw => (by have q0 := hSw.2.cell 1; go_simp)⟩) hS ?_
            change wpAnyH _ _ _ _ _ _ _ (Act.put _ (some 18) _) _
            simp only [Act.put]
            try simp only [List.setIfInBounds_toArray, List.set_cons_zero, List.set_cons_succ]
            refine wpAnyH_take (i := 2) (v := .bool true) rfl (by kernel_rfl) (by kernel_rfl) (by kernel_rfl) (fun _ _ _ h => h) (Or.inl ⟨by kernel_rfl, fun u hSw => (by go_simp)⟩) hS ?_
            change wpAnyH _ _ _ _ _ _ _ (Act.put _ (some 19) _) _
            simp only [Act.put]
            try simp only [List.setIfInBounds_toArray, List.set_cons_zero, List.set_cons_succ]
            refine wpAnyH_take (i := 3) (v := .bool true) rfl (by kernel_rfl) (by kernel_rfl) (by kernel_rfl) (fun _ _ _ h => h) (Or.inl ⟨by kernel_rfl, fun u hSw => (by go_simp)⟩) hS ?_
            change wpAnyH _ _ _ _ _ _ _ (Act.put _ (some 20) _) _
            simp only [Act.put]
            try simp only [List.setIfInBounds_toArray, List.set_cons_zero, List.set_cons_succ]
            refine wpAnyH_take (i := 4) (v := .pointer (some ⟨w.heap.size, 1, none⟩)) rfl (by kernel_rfl) (by kernel_rfl) (by kernel_rfl) (fun _ _ _ h => h) (Or.inl ⟨by kernel_rfl, fun u hSw => (by go_simp)⟩) hS ?_
            change wpAnyH _ _ _ _ _ _ _ (Act.put _ (some 21) _) _
            simp only [Act.put]
            try simp only [List.setIfInBounds_toArray, List.set_cons_zero, List.set_cons_succ]
            refine wpAnyH_take (i := 5) (v := .int .i64 t) rfl (by kernel_rfl) (by kernel_rfl) (by kernel_rfl) (fun _ _ _ h => h) (Or.inl ⟨by kernel_rfl, fun u hSw => (by have q0 := hSw.2.cell 1; go_simp)⟩) hS ?_
            change wpAnyH _ _ _ _ _ _ _ (Act.put _ (some 22) _) _
            simp only [Act.put]
            try simp only [List.setIfInBounds_toArray, List.set_cons_zero, List.set_cons_succ]
            refine wpAnyH_take (i := 6) (v := .pointer (some ⟨w.heap.size, 0, none⟩)) rfl (by kernel_rfl) (by kernel_rfl) (by kernel_rfl) (fun _ _ _ h => h) (Or.inl ⟨by kernel_rfl, fun u hSw => (by go_simp)⟩) hS ?_
            change wpAnyH _ _ _ _ _ _ _ (Act.put _ (some 23) _) _
            simp only [Act.put]
            try simp only [List.setIfInBounds_toArray, List.set_cons_zero, List.set_cons_succ]
            refine wpAnyH_take (i := 7) (v := .int .i64 c) rfl (by kernel_rfl) (by kernel_rfl) (by kernel_rfl) (fun _ _ _ h => h) (Or.inl ⟨by kernel_rfl, fun u hSw => (by have q0 := hSw.2.cell 0; go_simp)⟩) hS ?_
            change wpAnyH _ _ _ _ _ _ _ (Act.put _ (some 24) _) _
            simp only [Act.put]
            try simp only [List.setIfInBounds_toArray, List.set_cons_zero, List.set_cons_succ]
            refine wpAnyH_ready (rs := [8]) (by kernel_rfl) (by simp) ?_
            refine AllReadyH.cons rfl (fun K hK => ?_) AllReadyH.nil
            go_simp
            refine (HD.out _).mono ?_
            rintro e1 w1 ⟨rfl, rfl⟩
            refine hK.out _ _ ⟨GB, K0⟩ (fun hS => ?_)
            clear hK K
            refine wpAnyH_take (i := 9) (v := .bool false) rfl (by kernel_rfl) (by kernel_rfl) (by kernel_rfl) (fun _ _ _ h => h) (Or.inl ⟨by kernel_rfl, fun u hSw => (by go_simp)⟩) hS ?_
            change wpAnyH _ _ _ _ _ _ _ (Act.put _ (some 26) _) _
            simp only [Act.put]
            try simp only [List.setIfInBounds_toArray, List.set_cons_zero, List.set_cons_succ]
            refine wpAnyH_take (i := 10) (v := .bool false) rfl (by kernel_rfl) (by kernel_rfl) (by kernel_rfl) (fun _ _ _ h => h) (Or.inl ⟨by kernel_rfl, fun u hSw => (by go_simp)⟩) hS ?_
            change wpAnyH _ _ _ _ _ _ _ (Act.put _ (some 27) _) _
            simp only [Act.put]
            try simp only [List.setIfInBounds_toArray, List.set_cons_zero, List.set_cons_succ]
            refine wpAnyH_take (i := 11) (v := .bool false) rfl (by kernel_rfl) (by kernel_rfl) (by kernel_rfl) (fun _ _ _ h => h) (Or.inl ⟨by kernel_rfl, fun u hSw => (by go_simp)⟩) hS ?_
            change wpAnyH _ _ _ _ _ _ _ (Act.put _ (some 2) _) _
            simp only [Act.put]
            try simp only [List.setIfInBounds_toArray, List.set_cons_zero, List.set_cons_succ]
            refine wpAnyH_done (by kernel_rfl) ?_ _
            clear hS
            have HE := Lib.hid GB
            clear GB K0
            go_wp2
            go_ret
            exact ⟨retB H.out.symm, HE.out⟩
        · have c5 : decide ((-8000000000 : Int) ≤ t) = false := decide_eq_false h5
          have H : Hid (rightB c t = false) := Lib.hid (right_no (by omega) (by omega))
          clear h1 h2 h3 h5 hw hm HB
          go_enter Try.func12, Try.ntmps12
          go_upto_region 5 with fail
          clear z0 z1
          replace K0 : Blk (w.alloc (.cells #[.int .i64 c, .int .i64 t] 23)).drew _ _ _ := K0
          replace GB := GB.drew
          refine wp_region_held_drew (S := fun u => Below w.heap.size w u ∧ Blk u w.heap.size 23 #[.int .i64 c, .int .i64 t]) (by kernel_rfl) ⟨GB, K0⟩ (fun hS => ?_)
          generalize (w.alloc (.cells #[.int .i64 c, .int .i64 t] 23)).drew = V at K0 GB hS ⊢
          refine wpAnyH_take (i := 0) (v := .pointer (some ⟨w.heap.size, 1, none⟩)) rfl (by kernel_rfl) (by kernel_rfl) (by kernel_rfl) (fun _ _ _ h => h) (Or.inl ⟨by kernel_rfl, fun u hSw => (by go_simp)⟩) hS ?_
          change wpAnyH _ _ _ _ _ _ _ (Act.put _ (some 17) _) _
          simp only [Act.put]
          try simp only [List.setIfInBounds_toArray, List.set_cons_zero, List.set_cons_succ]
          refine wpAnyH_take (i := 1) (v := .int .i64 t) rfl (by kernel_rfl) (by kernel_rfl) (by kernel_rfl) (fun _ _ _ h => h) (Or.inl ⟨by kernel_rfl, fun u hSw => (by have q0 := hSw.2.cell 1; go_simp)⟩) hS ?_
          change wpAnyH _ _ _ _ _ _ _ (Act.put _ (some 18) _) _
          simp only [Act.put]
          try simp only [List.setIfInBounds_toArray, List.set_cons_zero, List.set_cons_succ]
          refine wpAnyH_take (i := 2) (v := .bool false) rfl (by kernel_rfl) (by kernel_rfl) (by kernel_rfl) (fun _ _ _ h => h) (Or.inl ⟨by kernel_rfl, fun u hSw => (by go_simp)⟩) hS ?_
          change wpAnyH _ _ _ _ _ _ _ (Act.put _ (some 19) _) _
          simp only [Act.put]
          try simp only [List.setIfInBounds_toArray, List.set_cons_zero, List.set_cons_succ]
          refine wpAnyH_take (i := 3) (v := .bool false) rfl (by kernel_rfl) (by kernel_rfl) (by kernel_rfl) (fun _ _ _ h => h) (Or.inl ⟨by kernel_rfl, fun u hSw => (by go_simp)⟩) hS ?_
          change wpAnyH _ _ _ _ _ _ _ (Act.put _ (some 20) _) _
          simp only [Act.put]
          try simp only [List.setIfInBounds_toArray, List.set_cons_zero, List.set_cons_succ]
          refine wpAnyH_take (i := 4) (v := undef) rfl (by kernel_rfl) (by kernel_rfl) (by kernel_rfl) (fun _ _ _ h => h) (Or.inr ⟨by kernel_rfl, rfl⟩) hS ?_
          change wpAnyH _ _ _ _ _ _ _ (Act.put _ (some 21) _) _
          simp only [Act.put]
          try simp only [List.setIfInBounds_toArray, List.set_cons_zero, List.set_cons_succ]
          refine wpAnyH_take (i := 5) (v := undef) rfl (by kernel_rfl) (by kernel_rfl) (by kernel_rfl) (fun _ _ _ h => h) (Or.inr ⟨by kernel_rfl, rfl⟩) hS ?_
          change wpAnyH _ _ _ _ _ _ _ (Act.put _ (some 22) _) _
          simp only [Act.put]
          try simp only [List.setIfInBounds_toArray, List.set_cons_zero, List.set_cons_succ]
          refine wpAnyH_take (i := 6) (v := undef) rfl (by kernel_rfl) (by kernel_rfl) (by kernel_rfl) (fun _ _ _ h => h) (Or.inr ⟨by kernel_rfl, rfl⟩) hS ?_
          change wpAnyH _ _ _ _ _ _ _ (Act.put _ (some 23) _) _
          simp only [Act.put]
          try simp only [List.setIfInBounds_toArray, List.set_cons_zero, List.set_cons_succ]
          refine wpAnyH_take (i := 7) (v := undef) rfl (by kernel_rfl) (by kernel_rfl) (by kernel_rfl) (fun _ _ _ h => h) (Or.inr ⟨by kernel_rfl, rfl⟩) hS ?_
          change wpAnyH _ _ _ _ _ _ _ (Act.put _ (some 24) _) _
          simp only [Act.put]
          try simp only [List.setIfInBounds_toArray, List.set_cons_zero, List.set_cons_succ]
          refine wpAnyH_take (i := 8) (v := undef) rfl (by kernel_rfl) (by kernel_rfl) (by kernel_rfl) (fun _ _ _ h => h) (Or.inr ⟨by kernel_rfl, rfl⟩) hS ?_
          change wpAnyH _ _ _ _ _ _ _ (Act.put _ (some 25) _) _
          simp only [Act.put]
          try simp only [List.setIfInBounds_toArray, List.set_cons_zero, List.set_cons_succ]
          refine wpAnyH_take (i := 9) (v := undef) rfl (by kernel_rfl) (by kernel_rfl) (by kernel_rfl) (fun _ _ _ h => h) (Or.inr ⟨by kernel_rfl, rfl⟩) hS ?_
          change wpAnyH _ _ _ _ _ _ _ (Act.put _ (some 26) _) _
          simp only [Act.put]
          try simp only [List.setIfInBounds_toArray, List.set_cons_zero, List.set_cons_succ]
          refine wpAnyH_take (i := 10) (v := .bool false) rfl (by kernel_rfl) (by kernel_rfl) (by kernel_rfl) (fun _ _ _ h => h) (Or.inl ⟨by kernel_rfl, fun u hSw => (by go_simp)⟩) hS ?_
          change wpAnyH _ _ _ _ _ _ _ (Act.put _ (some 27) _) _
          simp only [Act.put]
          try simp only [List.setIfInBounds_toArray, List.set_cons_zero, List.set_cons_succ]
          refine wpAnyH_take (i := 11) (v := .bool false) rfl (by kernel_rfl) (by kernel_rfl) (by kernel_rfl) (fun _ _ _ h => h) (Or.inl ⟨by kernel_rfl, fun u hSw => (by go_simp)⟩) hS ?_
          change wpAnyH _ _ _ _ _ _ _ (Act.put _ (some 2) _) _
          simp only [Act.put]
          try simp only [List.setIfInBounds_toArray, List.set_cons_zero, List.set_cons_succ]
          refine wpAnyH_done (by kernel_rfl) ?_ _
          clear hS
          have HE := Lib.hid GB
          clear GB K0
          go_wp2
          go_ret
          exact ⟨retB H.out.symm, HE.out⟩

def rchangeV (c t p : Int) : Int × Int := if p = 0 then (0, 0) else if 0 < c ∧ t < wrap64 (p * 100000000) then (p, t) else (p, wrap64 (p * 100000000))
set_option maxRecDepth 100000 in
set_option maxHeartbeats 4000000 in
theorem rchange_any (c t p : Int) (w : World) : Calls Try.prog 21 #[.agg #[.int .i64 c, .int .i64 t], .int .i64 p] w (Said (.agg #[.int .i64 (rchangeV c t p).1, .int .i64 (rchangeV c t p).2]) w) := by
  obtain ⟨K0, K1, GB⟩ := blks2 w 23 23 #[.int .i64 c, .int .i64 t] #[.int .i64 0, .int .i64 0]
  have z0 := K0.cell 0
  have z1 := K0.cell 1
  have HD := Lib.hid (fun u => rdepth_said p u)
  unfold rchangeV
  obtain ⟨m, hm⟩ : ∃ m, wrap64 (p * 100000000) = m := ⟨_, rfl⟩
  rw [hm] at HD ⊢
  clear hm
  by_cases hp : p = 0
  · rw [if_pos hp]
    have c1 : (p == 0) = true := by simp [hp]
    have HP := Lib.hid (And.intro K1 GB)
    clear hp K0 K1 GB
    go_enter Try.func21, Try.ntmps21
    go_wp2_with fail
    exact bodyPost_ret (v := .agg #[.int .i64 0, .int .i64 0]) (results_cell_row Try.results21 _ _ _ _ _ _ rfl HP.out.1 Try.underlying23 rfl (by kernel_rfl)) rfl ⟨rfl, HP.out.2⟩
  · rw [if_neg hp]
    have c1 : (p == 0) = false := by simp [hp]
    clear hp
    by_cases h1 : 0 < c
    · have c2 : decide (0 < c) = true := decide_eq_true h1
      by_cases h2 : t < m
      · rw [if_pos ⟨h1, h2⟩]
        have c3 : decide (t < m) = true := decide_eq_true h2
        clear h1 h2
        go_enter Try.func21, Try.ntmps21
        go_wp2_with fail
        refine (HD.out _).mono ?_
        rintro e w1 ⟨rfl, h9⟩
        replace K0 := K0.below h9 K0.lt
        replace K1 := K1.below h9 K1.lt
        replace GB := GB.trans (h9.mono GB.size)
        clear h9 z0 z1
        have z0 := K0.cell 0
        have z1 := K0.cell 1
        have d0 := K1.cell 0
        have d1 := K1.cell 1
        have f0 := K1.frozen 0
        have f1 := K1.frozen 1
        have HP := Lib.hid (put2 (x := .int .i64 p) (y := .int .i64 t) K1 GB (by simp <;> omega))
        clear K1 GB
        clear K0
        go_wp2_with fail
        exact bodyPost_ret (v := .agg #[.int .i64 p, .int .i64 t]) (results_cell_row Try.results21 _ _ _ _ _ _ rfl HP.out.1 Try.underlying23 rfl (by kernel_rfl)) rfl ⟨rfl, HP.out.2⟩
      · rw [if_neg (fun q => h2 q.2)]
        have c3 : decide (t < m) = false := decide_eq_false h2
        clear h1 h2
        go_enter Try.func21, Try.ntmps21
        go_wp2_with fail
        refine (HD.out _).mono ?_
        rintro e w1 ⟨rfl, h9⟩
        replace K0 := K0.below h9 K0.lt
        replace K1 := K1.below h9 K1.lt
        replace GB := GB.trans (h9.mono GB.size)
        clear h9 z0 z1
        have z0 := K0.cell 0
        have z1 := K0.cell 1
        have d0 := K1.cell 0
        have d1 := K1.cell 1
        have f0 := K1.frozen 0
        have f1 := K1.frozen 1
        have HP := Lib.hid (put2 (x := .int .i64 p) (y := .int .i64 m) K1 GB (by simp <;> omega))
        clear K1 GB
        clear K0
        go_wp2_with fail
        exact bodyPost_ret (v := .agg #[.int .i64 p, .int .i64 m]) (results_cell_row Try.results21 _ _ _ _ _ _ rfl HP.out.1 Try.underlying23 rfl (by kernel_rfl)) rfl ⟨rfl, HP.out.2⟩
    · rw [if_neg (fun q => h1 q.1)]
      have c2 : decide (0 < c) = false := decide_eq_false h1
      clear h1
      go_enter Try.func21, Try.ntmps21
      go_wp2_with fail
      refine (HD.out _).mono ?_
      rintro e w1 ⟨rfl, h9⟩
      replace K0 := K0.below h9 K0.lt
      replace K1 := K1.below h9 K1.lt
      replace GB := GB.trans (h9.mono GB.size)
      clear h9 z0 z1
      have z0 := K0.cell 0
      have z1 := K0.cell 1
      have d0 := K1.cell 0
      have d1 := K1.cell 1
      have f0 := K1.frozen 0
      have f1 := K1.frozen 1
      have HP := Lib.hid (put2 (x := .int .i64 p) (y := .int .i64 m) K1 GB (by simp <;> omega))
      clear K1 GB
      clear K0
      go_wp2_with fail
      exact bodyPost_ret (v := .agg #[.int .i64 p, .int .i64 m]) (results_cell_row Try.results21 _ _ _ _ _ _ rfl HP.out.1 Try.underlying23 rfl (by kernel_rfl)) rfl ⟨rfl, HP.out.2⟩

set_option maxRecDepth 100000 in
set_option maxHeartbeats 8000000 in
theorem rpass_any (c t d n : Int) (w : World) : Calls Try.prog 11 #[.agg #[.int .i64 c, .int .i64 t], .int .i64 d, .int .i64 n] w (Said (bkE (passV c t d n).1 (passV c t d n).2) w) := by
  obtain ⟨K0, K1, GB⟩ := blks2 w 23 23 #[.int .i64 c, .int .i64 t] #[.int .i64 0, .int .i64 0]
  have HR := Lib.hid (fun u => rright_any c t u)
  have HD := Lib.hid (fun u => rdry_any c t u)
  unfold passV bkE
  cases hr : rightB c t with
  | false =>
    rw [hr] at HR
    rw [if_neg (by simp)]
    clear hr
    go_enter Try.func11, Try.ntmps11
    have z0 := K0.cell 0
    have z1 := K0.cell 1
    go_wp2_with fail
    refine (HR.out _).mono ?_
    rintro e w1 ⟨rfl, h9⟩
    replace K0 := K0.below h9 K0.lt
    replace K1 := K1.below h9 K1.lt
    replace GB := GB.trans (h9.mono GB.size)
    clear h9
    clear z0 z1
    have d0 := K1.cell 0
    have d1 := K1.cell 1
    have f0 := K1.frozen 0
    have f1 := K1.frozen 1
    have HP := Lib.hid (put2 (x := .int .i64 0) (y := .int .i64 0) K1 GB (by simp <;> omega))
    clear K1 GB
    clear K0
    go_wp2_with fail
    exact bodyPost_ret (v := .tuple #[.agg #[.int .i64 0, .int .i64 0], .int .i64 210]) (results_cell_row_tmp Try.results11 _ _ _ _ _ _ rfl HP.out.1 Try.underlying23 rfl (by kernel_rfl)) rfl ⟨rfl, HP.out.2⟩
  | true =>
    have hR := right_of hr
    rw [hr] at HR
    rw [if_pos rfl]
    by_cases b1 : d < 0
    · have e1 : decide (d < 0) = true := decide_eq_true b1
      have hb := b1
      rw [show inP d n = false from decide_eq_false (by omega), if_neg (by simp)]
      clear hb
      go_enter Try.func11, Try.ntmps11
      have z0 := K0.cell 0
      have z1 := K0.cell 1
      go_wp2_with fail
      refine (HR.out _).mono ?_
      rintro e w1 ⟨rfl, h9⟩
      replace K0 := K0.below h9 K0.lt
      replace K1 := K1.below h9 K1.lt
      replace GB := GB.trans (h9.mono GB.size)
      clear h9
      clear z0 z1
      have d0 := K1.cell 0
      have d1 := K1.cell 1
      have f0 := K1.frozen 0
      have f1 := K1.frozen 1
      have HP := Lib.hid (put2 (x := .int .i64 0) (y := .int .i64 0) K1 GB (by simp <;> omega))
      clear K1 GB
      clear K0
      go_wp2_with fail
      exact bodyPost_ret (v := .tuple #[.agg #[.int .i64 0, .int .i64 0], .int .i64 2]) (results_cell_row_tmp Try.results11 _ _ _ _ _ _ rfl HP.out.1 Try.underlying23 rfl (by kernel_rfl)) rfl ⟨rfl, HP.out.2⟩
    · have e1 : decide (d < 0) = false := decide_eq_false b1
      by_cases b2 : 10000000 < d
      · have e2 : decide (10000000 < d) = true := decide_eq_true b2
        have hb := b2
        rw [show inP d n = false from decide_eq_false (by omega), if_neg (by simp)]
        clear hb
        go_enter Try.func11, Try.ntmps11
        have z0 := K0.cell 0
        have z1 := K0.cell 1
        go_wp2_with fail
        refine (HR.out _).mono ?_
        rintro e w1 ⟨rfl, h9⟩
        replace K0 := K0.below h9 K0.lt
        replace K1 := K1.below h9 K1.lt
        replace GB := GB.trans (h9.mono GB.size)
        clear h9
        clear z0 z1
        have d0 := K1.cell 0
        have d1 := K1.cell 1
        have f0 := K1.frozen 0
        have f1 := K1.frozen 1
        have HP := Lib.hid (put2 (x := .int .i64 0) (y := .int .i64 0) K1 GB (by simp <;> omega))
        clear K1 GB
        clear K0
        go_wp2_with fail
        exact bodyPost_ret (v := .tuple #[.agg #[.int .i64 0, .int .i64 0], .int .i64 2]) (results_cell_row_tmp Try.results11 _ _ _ _ _ _ rfl HP.out.1 Try.underlying23 rfl (by kernel_rfl)) rfl ⟨rfl, HP.out.2⟩
      · have e2 : decide (10000000 < d) = false := decide_eq_false b2
        by_cases b3 : n < 0
        · have e3 : decide (n < 0) = true := decide_eq_true b3
          have hb := b3
          rw [show inP d n = false from decide_eq_false (by omega), if_neg (by simp)]
          clear hb
          go_enter Try.func11, Try.ntmps11
          have z0 := K0.cell 0
          have z1 := K0.cell 1
          go_wp2_with fail
          refine (HR.out _).mono ?_
          rintro e w1 ⟨rfl, h9⟩
          replace K0 := K0.below h9 K0.lt
          replace K1 := K1.below h9 K1.lt
          replace GB := GB.trans (h9.mono GB.size)
          clear h9
          clear z0 z1
          have d0 := K1.cell 0
          have d1 := K1.cell 1
          have f0 := K1.frozen 0
          have f1 := K1.frozen 1
          have HP := Lib.hid (put2 (x := .int .i64 0) (y := .int .i64 0) K1 GB (by simp <;> omega))
          clear K1 GB
          clear K0
          go_wp2_with fail
          exact bodyPost_ret (v := .tuple #[.agg #[.int .i64 0, .int .i64 0], .int .i64 2]) (results_cell_row_tmp Try.results11 _ _ _ _ _ _ rfl HP.out.1 Try.underlying23 rfl (by kernel_rfl)) rfl ⟨rfl, HP.out.2⟩
        · have e3 : decide (n < 0) = false := decide_eq_false b3
          by_cases b4 : 8 < n
          · have e4 : decide (8 < n) = true := decide_eq_true b4
            have hb := b4
            rw [show inP d n = false from decide_eq_false (by omega), if_neg (by simp)]
            clear hb
            go_enter Try.func11, Try.ntmps11
            have z0 := K0.cell 0
            have z1 := K0.cell 1
            go_wp2_with fail
            refine (HR.out _).mono ?_
            rintro e w1 ⟨rfl, h9⟩
            replace K0 := K0.below h9 K0.lt
            replace K1 := K1.below h9 K1.lt
            replace GB := GB.trans (h9.mono GB.size)
            clear h9
            clear z0 z1
            have d0 := K1.cell 0
            have d1 := K1.cell 1
            have f0 := K1.frozen 0
            have f1 := K1.frozen 1
            have HP := Lib.hid (put2 (x := .int .i64 0) (y := .int .i64 0) K1 GB (by simp <;> omega))
            clear K1 GB
            clear K0
            go_wp2_with fail
            exact bodyPost_ret (v := .tuple #[.agg #[.int .i64 0, .int .i64 0], .int .i64 2]) (results_cell_row_tmp Try.results11 _ _ _ _ _ _ rfl HP.out.1 Try.underlying23 rfl (by kernel_rfl)) rfl ⟨rfl, HP.out.2⟩
          · have e4 : decide (8 < n) = false := decide_eq_false b4
            rw [show inP d n = true from decide_eq_true (by omega), if_pos rfl]
            by_cases hc : c = 0
            · rw [if_pos hc]
              have hz : ¬ 0 < c := by omega
              rw [decide_eq_false hz, Bool.false_and] at HD
              have c5 : (c == 0) = true := by simp [hc]
              clear hc hz hR hr b1 b2 b3 b4
              go_enter Try.func11, Try.ntmps11
              have z0 := K0.cell 0
              have z1 := K0.cell 1
              go_wp2_with fail
              refine (HR.out _).mono ?_
              rintro e w1 ⟨rfl, h9⟩
              replace K0 := K0.below h9 K0.lt
              replace K1 := K1.below h9 K1.lt
              replace GB := GB.trans (h9.mono GB.size)
              clear h9
              clear z0 z1
              have z0 := K0.cell 0
              have z1 := K0.cell 1
              go_wp2_with fail
              refine (HD.out _).mono ?_
              rintro e w2 ⟨rfl, h9⟩
              replace K0 := K0.below h9 K0.lt
              replace K1 := K1.below h9 K1.lt
              replace GB := GB.trans (h9.mono GB.size)
              clear h9
              clear z0 z1
              have z0 := K0.cell 0
              have z1 := K0.cell 1
              have d0 := K1.cell 0
              have d1 := K1.cell 1
              have f0 := K1.frozen 0
              have f1 := K1.frozen 1
              have HP := Lib.hid (put2 (x := .int .i64 c) (y := .int .i64 t) K1 GB (by simp <;> omega))
              clear K1 GB
              clear K0
              go_wp2_with fail
              exact bodyPost_ret (v := .tuple #[.agg #[.int .i64 c, .int .i64 t], .int .i64 0]) (results_cell_row_tmp Try.results11 _ _ _ _ _ _ rfl HP.out.1 Try.underlying23 rfl (by kernel_rfl)) rfl ⟨rfl, HP.out.2⟩
            · rw [if_neg hc]
              have hz : 0 < c := by omega
              have hdr : (decide (0 < c) && decide (t ≤ 0)) = dryB c t := by unfold dryB; rw [hr, Bool.true_and]
              rw [hdr] at HD
              have H1 := Lib.hid (And.intro hc (And.intro hR (And.intro b1 (And.intro b2 (And.intro b3 b4)))))
              have c5 : (c == 0) = false := by simp [hc]
              obtain ⟨dr, hdd⟩ : ∃ b, dryB c t = b := ⟨_, rfl⟩
              rw [hdd] at HD ⊢
              clear hc hz hR hr hdr hdd b1 b2 b3 b4
              by_cases hn : 0 < n
              · have n1 : decide (0 < n) = true := decide_eq_true hn
                by_cases hd : 0 < d
                · have n2 : decide (0 < d) = true := decide_eq_true hd
                  cases dr with
                  | true =>
                    rw [if_pos (by simp [n1, n2])]
                    clear hn hd
                    go_enter Try.func11, Try.ntmps11
                    have z0 := K0.cell 0
                    have z1 := K0.cell 1
                    go_wp2_with fail
                    refine (HR.out _).mono ?_
                    rintro e w1 ⟨rfl, h9⟩
                    replace K0 := K0.below h9 K0.lt
                    replace K1 := K1.below h9 K1.lt
                    replace GB := GB.trans (h9.mono GB.size)
                    clear h9
                    clear z0 z1
                    have z0 := K0.cell 0
                    have z1 := K0.cell 1
                    go_wp2_with fail
                    refine (HD.out _).mono ?_
                    rintro e w2 ⟨rfl, h9⟩
                    replace K0 := K0.below h9 K0.lt
                    replace K1 := K1.below h9 K1.lt
                    replace GB := GB.trans (h9.mono GB.size)
                    clear h9
                    clear z0 z1
                    have z0 := K0.cell 0
                    have z1 := K0.cell 1
                    clear z0 z1
                    have d0 := K1.cell 0
                    have d1 := K1.cell 1
                    have f0 := K1.frozen 0
                    have f1 := K1.frozen 1
                    have HP := Lib.hid (put2 (x := .int .i64 0) (y := .int .i64 0) K1 GB (by simp <;> omega))
                    clear K1 GB
                    clear K0
                    go_wp2_with fail
                    exact bodyPost_ret (v := .tuple #[.agg #[.int .i64 0, .int .i64 0], .int .i64 211]) (results_cell_row_tmp Try.results11 _ _ _ _ _ _ rfl HP.out.1 Try.underlying23 rfl (by kernel_rfl)) rfl ⟨rfl, HP.out.2⟩
                  | false =>
                    rw [if_neg (by simp)]
                    have hM : Hid (minT (t + c * d - 100 * n * d) (c * 100000000) = minT (wrap64 (wrap64 (t + wrap64 (c * d)) - wrap64 (wrap64 (100 * n) * d))) (wrap64 (c * 100000000))) := Lib.hid (by
                      have h0 := H1.out
                      have m1 := mul_in (a := c) (b := d) (A := 800) (B := 10000000) (by omega) (by omega) (by omega) (by omega)
                      have m2 := mul_in (a := 100 * n) (b := d) (A := 800) (B := 10000000) (by omega) (by omega) (by omega) (by omega)
                      rw [w64 (n := c * d) (by omega) (by omega), w64 (n := 100 * n) (by omega) (by omega), w64 (n := 100 * n * d) (by omega) (by omega), w64 (n := t + c * d) (by omega) (by omega), w64 (n := t + c * d - 100 * n * d) (by omega) (by omega), w64 (n := c * 100000000) (by omega) (by omega)])
                    rw [hM.out]
                    have HDe := Lib.hid (fun u => rdepth_any c u)
                    obtain ⟨m, hm⟩ : ∃ m, wrap64 (c * 100000000) = m := ⟨_, rfl⟩
                    rw [hm] at HDe ⊢
                    clear hM hm
                    clear hn hd
                    by_cases hx : m < wrap64 (wrap64 (t + wrap64 (c * d)) - wrap64 (wrap64 (100 * n) * d))
                    · rw [show minT (wrap64 (wrap64 (t + wrap64 (c * d)) - wrap64 (wrap64 (100 * n) * d))) m = m by unfold minT; rw [if_neg (by omega)]]
                      have c7 : decide (m < wrap64 (wrap64 (t + wrap64 (c * d)) - wrap64 (wrap64 (100 * n) * d))) = true := decide_eq_true hx
                      go_enter Try.func11, Try.ntmps11
                      have z0 := K0.cell 0
                      have z1 := K0.cell 1
                      go_wp2_with fail
                      refine (HR.out _).mono ?_
                      rintro e w1 ⟨rfl, h9⟩
                      replace K0 := K0.below h9 K0.lt
                      replace K1 := K1.below h9 K1.lt
                      replace GB := GB.trans (h9.mono GB.size)
                      clear h9
                      clear z0 z1
                      have z0 := K0.cell 0
                      have z1 := K0.cell 1
                      go_wp2_with fail
                      refine (HD.out _).mono ?_
                      rintro e w2 ⟨rfl, h9⟩
                      replace K0 := K0.below h9 K0.lt
                      replace K1 := K1.below h9 K1.lt
                      replace GB := GB.trans (h9.mono GB.size)
                      clear h9
                      clear z0 z1
                      have z0 := K0.cell 0
                      have z1 := K0.cell 1
                      go_wp2_with fail
                      refine (HDe.out _).mono ?_
                      rintro e w3 ⟨rfl, rfl⟩
                      go_wp2_with fail
                      refine (HDe.out _).mono ?_
                      rintro e w3 ⟨rfl, rfl⟩
                      clear c7 hx
                      have d0 := K1.cell 0
                      have d1 := K1.cell 1
                      have f0 := K1.frozen 0
                      have f1 := K1.frozen 1
                      have HP := Lib.hid (put2 (x := .int .i64 c) (y := .int .i64 m) K1 GB (by simp <;> omega))
                      clear K1 GB
                      clear K0
                      go_wp2_with fail
                      exact bodyPost_ret (v := .tuple #[.agg #[.int .i64 c, .int .i64 m], .int .i64 0]) (results_cell_row_tmp Try.results11 _ _ _ _ _ _ rfl HP.out.1 Try.underlying23 rfl (by kernel_rfl)) rfl ⟨rfl, HP.out.2⟩
                    · rw [show minT (wrap64 (wrap64 (t + wrap64 (c * d)) - wrap64 (wrap64 (100 * n) * d))) m = wrap64 (wrap64 (t + wrap64 (c * d)) - wrap64 (wrap64 (100 * n) * d)) by unfold minT; split <;> omega]
                      have c7 : decide (m < wrap64 (wrap64 (t + wrap64 (c * d)) - wrap64 (wrap64 (100 * n) * d))) = false := decide_eq_false hx
                      go_enter Try.func11, Try.ntmps11
                      have z0 := K0.cell 0
                      have z1 := K0.cell 1
                      go_wp2_with fail
                      refine (HR.out _).mono ?_
                      rintro e w1 ⟨rfl, h9⟩
                      replace K0 := K0.below h9 K0.lt
                      replace K1 := K1.below h9 K1.lt
                      replace GB := GB.trans (h9.mono GB.size)
                      clear h9
                      clear z0 z1
                      have z0 := K0.cell 0
                      have z1 := K0.cell 1
                      go_wp2_with fail
                      refine (HD.out _).mono ?_
                      rintro e w2 ⟨rfl, h9⟩
                      replace K0 := K0.below h9 K0.lt
                      replace K1 := K1.below h9 K1.lt
                      replace GB := GB.trans (h9.mono GB.size)
                      clear h9
                      clear z0 z1
                      have z0 := K0.cell 0
                      have z1 := K0.cell 1
                      go_wp2_with fail
                      refine (HDe.out _).mono ?_
                      rintro e w3 ⟨rfl, rfl⟩
                      have d0 := K1.cell 0
                      have d1 := K1.cell 1
                      have f0 := K1.frozen 0
                      have f1 := K1.frozen 1
                      have HP := Lib.hid (put2 (x := .int .i64 c) (y := .int .i64 (wrap64 (wrap64 (t + wrap64 (c * d)) - wrap64 (wrap64 (100 * n) * d)))) K1 GB (by simp <;> omega))
                      clear K1 GB
                      clear K0
                      go_wp2_with fail
                      exact bodyPost_ret (v := .tuple #[.agg #[.int .i64 c, .int .i64 (wrap64 (wrap64 (t + wrap64 (c * d)) - wrap64 (wrap64 (100 * n) * d)))], .int .i64 0]) (results_cell_row_tmp Try.results11 _ _ _ _ _ _ rfl HP.out.1 Try.underlying23 rfl (by kernel_rfl)) rfl ⟨rfl, HP.out.2⟩
                · have n2 : decide (0 < d) = false := decide_eq_false hd
                  rw [if_neg (by simp [n2])]
                  have hM : Hid (minT (t + c * d - 100 * n * d) (c * 100000000) = minT (wrap64 (wrap64 (t + wrap64 (c * d)) - wrap64 (wrap64 (100 * n) * d))) (wrap64 (c * 100000000))) := Lib.hid (by
                    have h0 := H1.out
                    have m1 := mul_in (a := c) (b := d) (A := 800) (B := 10000000) (by omega) (by omega) (by omega) (by omega)
                    have m2 := mul_in (a := 100 * n) (b := d) (A := 800) (B := 10000000) (by omega) (by omega) (by omega) (by omega)
                    rw [w64 (n := c * d) (by omega) (by omega), w64 (n := 100 * n) (by omega) (by omega), w64 (n := 100 * n * d) (by omega) (by omega), w64 (n := t + c * d) (by omega) (by omega), w64 (n := t + c * d - 100 * n * d) (by omega) (by omega), w64 (n := c * 100000000) (by omega) (by omega)])
                  rw [hM.out]
                  have HDe := Lib.hid (fun u => rdepth_any c u)
                  obtain ⟨m, hm⟩ : ∃ m, wrap64 (c * 100000000) = m := ⟨_, rfl⟩
                  rw [hm] at HDe ⊢
                  clear hM hm
                  clear hn hd
                  cases dr with
                  | true =>
                    by_cases hx : m < wrap64 (wrap64 (t + wrap64 (c * d)) - wrap64 (wrap64 (100 * n) * d))
                    · rw [show minT (wrap64 (wrap64 (t + wrap64 (c * d)) - wrap64 (wrap64 (100 * n) * d))) m = m by unfold minT; rw [if_neg (by omega)]]
                      have c7 : decide (m < wrap64 (wrap64 (t + wrap64 (c * d)) - wrap64 (wrap64 (100 * n) * d))) = true := decide_eq_true hx
                      go_enter Try.func11, Try.ntmps11
                      have z0 := K0.cell 0
                      have z1 := K0.cell 1
                      go_wp2_with fail
                      refine (HR.out _).mono ?_
                      rintro e w1 ⟨rfl, h9⟩
                      replace K0 := K0.below h9 K0.lt
                      replace K1 := K1.below h9 K1.lt
                      replace GB := GB.trans (h9.mono GB.size)
                      clear h9
                      clear z0 z1
                      have z0 := K0.cell 0
                      have z1 := K0.cell 1
                      go_wp2_with fail
                      refine (HD.out _).mono ?_
                      rintro e w2 ⟨rfl, h9⟩
                      replace K0 := K0.below h9 K0.lt
                      replace K1 := K1.below h9 K1.lt
                      replace GB := GB.trans (h9.mono GB.size)
                      clear h9
                      clear z0 z1
                      have z0 := K0.cell 0
                      have z1 := K0.cell 1
                      go_wp2_with fail
                      refine (HDe.out _).mono ?_
                      rintro e w3 ⟨rfl, rfl⟩
                      go_wp2_with fail
                      refine (HDe.out _).mono ?_
                      rintro e w3 ⟨rfl, rfl⟩
                      clear c7 hx
                      have d0 := K1.cell 0
                      have d1 := K1.cell 1
                      have f0 := K1.frozen 0
                      have f1 := K1.frozen 1
                      have HP := Lib.hid (put2 (x := .int .i64 c) (y := .int .i64 m) K1 GB (by simp <;> omega))
                      clear K1 GB
                      clear K0
                      go_wp2_with fail
                      exact bodyPost_ret (v := .tuple #[.agg #[.int .i64 c, .int .i64 m], .int .i64 0]) (results_cell_row_tmp Try.results11 _ _ _ _ _ _ rfl HP.out.1 Try.underlying23 rfl (by kernel_rfl)) rfl ⟨rfl, HP.out.2⟩
                    · rw [show minT (wrap64 (wrap64 (t + wrap64 (c * d)) - wrap64 (wrap64 (100 * n) * d))) m = wrap64 (wrap64 (t + wrap64 (c * d)) - wrap64 (wrap64 (100 * n) * d)) by unfold minT; split <;> omega]
                      have c7 : decide (m < wrap64 (wrap64 (t + wrap64 (c * d)) - wrap64 (wrap64 (100 * n) * d))) = false := decide_eq_false hx
                      go_enter Try.func11, Try.ntmps11
                      have z0 := K0.cell 0
                      have z1 := K0.cell 1
                      go_wp2_with fail
                      refine (HR.out _).mono ?_
                      rintro e w1 ⟨rfl, h9⟩
                      replace K0 := K0.below h9 K0.lt
                      replace K1 := K1.below h9 K1.lt
                      replace GB := GB.trans (h9.mono GB.size)
                      clear h9
                      clear z0 z1
                      have z0 := K0.cell 0
                      have z1 := K0.cell 1
                      go_wp2_with fail
                      refine (HD.out _).mono ?_
                      rintro e w2 ⟨rfl, h9⟩
                      replace K0 := K0.below h9 K0.lt
                      replace K1 := K1.below h9 K1.lt
                      replace GB := GB.trans (h9.mono GB.size)
                      clear h9
                      clear z0 z1
                      have z0 := K0.cell 0
                      have z1 := K0.cell 1
                      go_wp2_with fail
                      refine (HDe.out _).mono ?_
                      rintro e w3 ⟨rfl, rfl⟩
                      have d0 := K1.cell 0
                      have d1 := K1.cell 1
                      have f0 := K1.frozen 0
                      have f1 := K1.frozen 1
                      have HP := Lib.hid (put2 (x := .int .i64 c) (y := .int .i64 (wrap64 (wrap64 (t + wrap64 (c * d)) - wrap64 (wrap64 (100 * n) * d)))) K1 GB (by simp <;> omega))
                      clear K1 GB
                      clear K0
                      go_wp2_with fail
                      exact bodyPost_ret (v := .tuple #[.agg #[.int .i64 c, .int .i64 (wrap64 (wrap64 (t + wrap64 (c * d)) - wrap64 (wrap64 (100 * n) * d)))], .int .i64 0]) (results_cell_row_tmp Try.results11 _ _ _ _ _ _ rfl HP.out.1 Try.underlying23 rfl (by kernel_rfl)) rfl ⟨rfl, HP.out.2⟩
                  | false =>
                    by_cases hx : m < wrap64 (wrap64 (t + wrap64 (c * d)) - wrap64 (wrap64 (100 * n) * d))
                    · rw [show minT (wrap64 (wrap64 (t + wrap64 (c * d)) - wrap64 (wrap64 (100 * n) * d))) m = m by unfold minT; rw [if_neg (by omega)]]
                      have c7 : decide (m < wrap64 (wrap64 (t + wrap64 (c * d)) - wrap64 (wrap64 (100 * n) * d))) = true := decide_eq_true hx
                      go_enter Try.func11, Try.ntmps11
                      have z0 := K0.cell 0
                      have z1 := K0.cell 1
                      go_wp2_with fail
                      refine (HR.out _).mono ?_
                      rintro e w1 ⟨rfl, h9⟩
                      replace K0 := K0.below h9 K0.lt
                      replace K1 := K1.below h9 K1.lt
                      replace GB := GB.trans (h9.mono GB.size)
                      clear h9
                      clear z0 z1
                      have z0 := K0.cell 0
                      have z1 := K0.cell 1
                      go_wp2_with fail
                      refine (HD.out _).mono ?_
                      rintro e w2 ⟨rfl, h9⟩
                      replace K0 := K0.below h9 K0.lt
                      replace K1 := K1.below h9 K1.lt
                      replace GB := GB.trans (h9.mono GB.size)
                      clear h9
                      clear z0 z1
                      have z0 := K0.cell 0
                      have z1 := K0.cell 1
                      go_wp2_with fail
                      refine (HDe.out _).mono ?_
                      rintro e w3 ⟨rfl, rfl⟩
                      go_wp2_with fail
                      refine (HDe.out _).mono ?_
                      rintro e w3 ⟨rfl, rfl⟩
                      clear c7 hx
                      have d0 := K1.cell 0
                      have d1 := K1.cell 1
                      have f0 := K1.frozen 0
                      have f1 := K1.frozen 1
                      have HP := Lib.hid (put2 (x := .int .i64 c) (y := .int .i64 m) K1 GB (by simp <;> omega))
                      clear K1 GB
                      clear K0
                      go_wp2_with fail
                      exact bodyPost_ret (v := .tuple #[.agg #[.int .i64 c, .int .i64 m], .int .i64 0]) (results_cell_row_tmp Try.results11 _ _ _ _ _ _ rfl HP.out.1 Try.underlying23 rfl (by kernel_rfl)) rfl ⟨rfl, HP.out.2⟩
                    · rw [show minT (wrap64 (wrap64 (t + wrap64 (c * d)) - wrap64 (wrap64 (100 * n) * d))) m = wrap64 (wrap64 (t + wrap64 (c * d)) - wrap64 (wrap64 (100 * n) * d)) by unfold minT; split <;> omega]
                      have c7 : decide (m < wrap64 (wrap64 (t + wrap64 (c * d)) - wrap64 (wrap64 (100 * n) * d))) = false := decide_eq_false hx
                      go_enter Try.func11, Try.ntmps11
                      have z0 := K0.cell 0
                      have z1 := K0.cell 1
                      go_wp2_with fail
                      refine (HR.out _).mono ?_
                      rintro e w1 ⟨rfl, h9⟩
                      replace K0 := K0.below h9 K0.lt
                      replace K1 := K1.below h9 K1.lt
                      replace GB := GB.trans (h9.mono GB.size)
                      clear h9
                      clear z0 z1
                      have z0 := K0.cell 0
                      have z1 := K0.cell 1
                      go_wp2_with fail
                      refine (HD.out _).mono ?_
                      rintro e w2 ⟨rfl, h9⟩
                      replace K0 := K0.below h9 K0.lt
                      replace K1 := K1.below h9 K1.lt
                      replace GB := GB.trans (h9.mono GB.size)
                      clear h9
                      clear z0 z1
                      have z0 := K0.cell 0
                      have z1 := K0.cell 1
                      go_wp2_with fail
                      refine (HDe.out _).mono ?_
                      rintro e w3 ⟨rfl, rfl⟩
                      have d0 := K1.cell 0
                      have d1 := K1.cell 1
                      have f0 := K1.frozen 0
                      have f1 := K1.frozen 1
                      have HP := Lib.hid (put2 (x := .int .i64 c) (y := .int .i64 (wrap64 (wrap64 (t + wrap64 (c * d)) - wrap64 (wrap64 (100 * n) * d)))) K1 GB (by simp <;> omega))
                      clear K1 GB
                      clear K0
                      go_wp2_with fail
                      exact bodyPost_ret (v := .tuple #[.agg #[.int .i64 c, .int .i64 (wrap64 (wrap64 (t + wrap64 (c * d)) - wrap64 (wrap64 (100 * n) * d)))], .int .i64 0]) (results_cell_row_tmp Try.results11 _ _ _ _ _ _ rfl HP.out.1 Try.underlying23 rfl (by kernel_rfl)) rfl ⟨rfl, HP.out.2⟩
              · have n1 : decide (0 < n) = false := decide_eq_false hn
                rw [if_neg (by simp [n1])]
                have hM : Hid (minT (t + c * d - 100 * n * d) (c * 100000000) = minT (wrap64 (wrap64 (t + wrap64 (c * d)) - wrap64 (wrap64 (100 * n) * d))) (wrap64 (c * 100000000))) := Lib.hid (by
                  have h0 := H1.out
                  have m1 := mul_in (a := c) (b := d) (A := 800) (B := 10000000) (by omega) (by omega) (by omega) (by omega)
                  have m2 := mul_in (a := 100 * n) (b := d) (A := 800) (B := 10000000) (by omega) (by omega) (by omega) (by omega)
                  rw [w64 (n := c * d) (by omega) (by omega), w64 (n := 100 * n) (by omega) (by omega), w64 (n := 100 * n * d) (by omega) (by omega), w64 (n := t + c * d) (by omega) (by omega), w64 (n := t + c * d - 100 * n * d) (by omega) (by omega), w64 (n := c * 100000000) (by omega) (by omega)])
                rw [hM.out]
                have HDe := Lib.hid (fun u => rdepth_any c u)
                obtain ⟨m, hm⟩ : ∃ m, wrap64 (c * 100000000) = m := ⟨_, rfl⟩
                rw [hm] at HDe ⊢
                clear hM hm
                clear hn
                cases dr with
                | true =>
                  by_cases hx : m < wrap64 (wrap64 (t + wrap64 (c * d)) - wrap64 (wrap64 (100 * n) * d))
                  · rw [show minT (wrap64 (wrap64 (t + wrap64 (c * d)) - wrap64 (wrap64 (100 * n) * d))) m = m by unfold minT; rw [if_neg (by omega)]]
                    have c7 : decide (m < wrap64 (wrap64 (t + wrap64 (c * d)) - wrap64 (wrap64 (100 * n) * d))) = true := decide_eq_true hx
                    go_enter Try.func11, Try.ntmps11
                    have z0 := K0.cell 0
                    have z1 := K0.cell 1
                    go_wp2_with fail
                    refine (HR.out _).mono ?_
                    rintro e w1 ⟨rfl, h9⟩
                    replace K0 := K0.below h9 K0.lt
                    replace K1 := K1.below h9 K1.lt
                    replace GB := GB.trans (h9.mono GB.size)
                    clear h9
                    clear z0 z1
                    have z0 := K0.cell 0
                    have z1 := K0.cell 1
                    go_wp2_with fail
                    refine (HD.out _).mono ?_
                    rintro e w2 ⟨rfl, h9⟩
                    replace K0 := K0.below h9 K0.lt
                    replace K1 := K1.below h9 K1.lt
                    replace GB := GB.trans (h9.mono GB.size)
                    clear h9
                    clear z0 z1
                    have z0 := K0.cell 0
                    have z1 := K0.cell 1
                    go_wp2_with fail
                    refine (HDe.out _).mono ?_
                    rintro e w3 ⟨rfl, rfl⟩
                    go_wp2_with fail
                    refine (HDe.out _).mono ?_
                    rintro e w3 ⟨rfl, rfl⟩
                    clear c7 hx
                    have d0 := K1.cell 0
                    have d1 := K1.cell 1
                    have f0 := K1.frozen 0
                    have f1 := K1.frozen 1
                    have HP := Lib.hid (put2 (x := .int .i64 c) (y := .int .i64 m) K1 GB (by simp <;> omega))
                    clear K1 GB
                    clear K0
                    go_wp2_with fail
                    exact bodyPost_ret (v := .tuple #[.agg #[.int .i64 c, .int .i64 m], .int .i64 0]) (results_cell_row_tmp Try.results11 _ _ _ _ _ _ rfl HP.out.1 Try.underlying23 rfl (by kernel_rfl)) rfl ⟨rfl, HP.out.2⟩
                  · rw [show minT (wrap64 (wrap64 (t + wrap64 (c * d)) - wrap64 (wrap64 (100 * n) * d))) m = wrap64 (wrap64 (t + wrap64 (c * d)) - wrap64 (wrap64 (100 * n) * d)) by unfold minT; split <;> omega]
                    have c7 : decide (m < wrap64 (wrap64 (t + wrap64 (c * d)) - wrap64 (wrap64 (100 * n) * d))) = false := decide_eq_false hx
                    go_enter Try.func11, Try.ntmps11
                    have z0 := K0.cell 0
                    have z1 := K0.cell 1
                    go_wp2_with fail
                    refine (HR.out _).mono ?_
                    rintro e w1 ⟨rfl, h9⟩
                    replace K0 := K0.below h9 K0.lt
                    replace K1 := K1.below h9 K1.lt
                    replace GB := GB.trans (h9.mono GB.size)
                    clear h9
                    clear z0 z1
                    have z0 := K0.cell 0
                    have z1 := K0.cell 1
                    go_wp2_with fail
                    refine (HD.out _).mono ?_
                    rintro e w2 ⟨rfl, h9⟩
                    replace K0 := K0.below h9 K0.lt
                    replace K1 := K1.below h9 K1.lt
                    replace GB := GB.trans (h9.mono GB.size)
                    clear h9
                    clear z0 z1
                    have z0 := K0.cell 0
                    have z1 := K0.cell 1
                    go_wp2_with fail
                    refine (HDe.out _).mono ?_
                    rintro e w3 ⟨rfl, rfl⟩
                    have d0 := K1.cell 0
                    have d1 := K1.cell 1
                    have f0 := K1.frozen 0
                    have f1 := K1.frozen 1
                    have HP := Lib.hid (put2 (x := .int .i64 c) (y := .int .i64 (wrap64 (wrap64 (t + wrap64 (c * d)) - wrap64 (wrap64 (100 * n) * d)))) K1 GB (by simp <;> omega))
                    clear K1 GB
                    clear K0
                    go_wp2_with fail
                    exact bodyPost_ret (v := .tuple #[.agg #[.int .i64 c, .int .i64 (wrap64 (wrap64 (t + wrap64 (c * d)) - wrap64 (wrap64 (100 * n) * d)))], .int .i64 0]) (results_cell_row_tmp Try.results11 _ _ _ _ _ _ rfl HP.out.1 Try.underlying23 rfl (by kernel_rfl)) rfl ⟨rfl, HP.out.2⟩
                | false =>
                  by_cases hx : m < wrap64 (wrap64 (t + wrap64 (c * d)) - wrap64 (wrap64 (100 * n) * d))
                  · rw [show minT (wrap64 (wrap64 (t + wrap64 (c * d)) - wrap64 (wrap64 (100 * n) * d))) m = m by unfold minT; rw [if_neg (by omega)]]
                    have c7 : decide (m < wrap64 (wrap64 (t + wrap64 (c * d)) - wrap64 (wrap64 (100 * n) * d))) = true := decide_eq_true hx
                    go_enter Try.func11, Try.ntmps11
                    have z0 := K0.cell 0
                    have z1 := K0.cell 1
                    go_wp2_with fail
                    refine (HR.out _).mono ?_
                    rintro e w1 ⟨rfl, h9⟩
                    replace K0 := K0.below h9 K0.lt
                    replace K1 := K1.below h9 K1.lt
                    replace GB := GB.trans (h9.mono GB.size)
                    clear h9
                    clear z0 z1
                    have z0 := K0.cell 0
                    have z1 := K0.cell 1
                    go_wp2_with fail
                    refine (HD.out _).mono ?_
                    rintro e w2 ⟨rfl, h9⟩
                    replace K0 := K0.below h9 K0.lt
                    replace K1 := K1.below h9 K1.lt
                    replace GB := GB.trans (h9.mono GB.size)
                    clear h9
                    clear z0 z1
                    have z0 := K0.cell 0
                    have z1 := K0.cell 1
                    go_wp2_with fail
                    refine (HDe.out _).mono ?_
                    rintro e w3 ⟨rfl, rfl⟩
                    go_wp2_with fail
                    refine (HDe.out _).mono ?_
                    rintro e w3 ⟨rfl, rfl⟩
                    clear c7 hx
                    have d0 := K1.cell 0
                    have d1 := K1.cell 1
                    have f0 := K1.frozen 0
                    have f1 := K1.frozen 1
                    have HP := Lib.hid (put2 (x := .int .i64 c) (y := .int .i64 m) K1 GB (by simp <;> omega))
                    clear K1 GB
                    clear K0
                    go_wp2_with fail
                    exact bodyPost_ret (v := .tuple #[.agg #[.int .i64 c, .int .i64 m], .int .i64 0]) (results_cell_row_tmp Try.results11 _ _ _ _ _ _ rfl HP.out.1 Try.underlying23 rfl (by kernel_rfl)) rfl ⟨rfl, HP.out.2⟩
                  · rw [show minT (wrap64 (wrap64 (t + wrap64 (c * d)) - wrap64 (wrap64 (100 * n) * d))) m = wrap64 (wrap64 (t + wrap64 (c * d)) - wrap64 (wrap64 (100 * n) * d)) by unfold minT; split <;> omega]
                    have c7 : decide (m < wrap64 (wrap64 (t + wrap64 (c * d)) - wrap64 (wrap64 (100 * n) * d))) = false := decide_eq_false hx
                    go_enter Try.func11, Try.ntmps11
                    have z0 := K0.cell 0
                    have z1 := K0.cell 1
                    go_wp2_with fail
                    refine (HR.out _).mono ?_
                    rintro e w1 ⟨rfl, h9⟩
                    replace K0 := K0.below h9 K0.lt
                    replace K1 := K1.below h9 K1.lt
                    replace GB := GB.trans (h9.mono GB.size)
                    clear h9
                    clear z0 z1
                    have z0 := K0.cell 0
                    have z1 := K0.cell 1
                    go_wp2_with fail
                    refine (HD.out _).mono ?_
                    rintro e w2 ⟨rfl, h9⟩
                    replace K0 := K0.below h9 K0.lt
                    replace K1 := K1.below h9 K1.lt
                    replace GB := GB.trans (h9.mono GB.size)
                    clear h9
                    clear z0 z1
                    have z0 := K0.cell 0
                    have z1 := K0.cell 1
                    go_wp2_with fail
                    refine (HDe.out _).mono ?_
                    rintro e w3 ⟨rfl, rfl⟩
                    have d0 := K1.cell 0
                    have d1 := K1.cell 1
                    have f0 := K1.frozen 0
                    have f1 := K1.frozen 1
                    have HP := Lib.hid (put2 (x := .int .i64 c) (y := .int .i64 (wrap64 (wrap64 (t + wrap64 (c * d)) - wrap64 (wrap64 (100 * n) * d)))) K1 GB (by simp <;> omega))
                    clear K1 GB
                    clear K0
                    go_wp2_with fail
                    exact bodyPost_ret (v := .tuple #[.agg #[.int .i64 c, .int .i64 (wrap64 (wrap64 (t + wrap64 (c * d)) - wrap64 (wrap64 (100 * n) * d)))], .int .i64 0]) (results_cell_row_tmp Try.results11 _ _ _ _ _ _ rfl HP.out.1 Try.underlying23 rfl (by kernel_rfl)) rfl ⟨rfl, HP.out.2⟩

end Go.Proofs.Ytcdbkfmdilimaaa
