/-
  What the document says of an op. No statement is proved here.
-/
import Derived.Test.YtglphgfaknofcaaLd
import Derived.Test.YtglphgfaknofcaaKd
namespace Go.Proofs.Ytglphgfaknofcaa
open Go.RowKit Go.Maps

theorem run_bad {q N : Int} {ms : List Int} {l : List Gm} (h : rightG l = false) : runV q N ms l = (240, 0, []) := by
  unfold runV
  rw [unf_1 h, am_1 h, am_1 h]
  split
  · rfl
  · split <;> rfl

set_option maxRecDepth 100000 in
set_option maxHeartbeats 16000000 in
theorem wants_any (K N : Int) (A2 : Option Addr) (m c2 : Nat) (ms : List Int) (A : Option Addr) (n c : Nat) (gs : List Gn) (w : World) (hG : NW w A n gs) (hc : n ≤ c) (hR : Reads w w.heap.size 1 A2 m (vs ms)) (hm : m ≤ c2) :
    Calls Try.prog 12 #[.agg #[.int .i64 K, .int .i64 N, .slice A2 m c2], .agg #[.slice A n c]] w (WSaid (runV (kindQ K) N (intsL ms) (gsM gs)) w) := by
  obtain ⟨K0, K1, K2, GB⟩ := blks3 w 30 24 24 #[.int .i64 K, .int .i64 N, .slice A2 m c2] #[.slice A n c] #[.slice none 0 0]
  have HRi := Lib.hid (fun (u : World) (h : Below w.heap.size w u) => dright_any A n c gs u (hG.below h) hc)
  have HIn := Lib.hid (fun (u : World) (h : Below w.heap.size w u) => ints_any A2 m c2 ms u ((hR.below h).more h.size) hm)
  have z00 := K0.cell 0
  have z01 := K0.cell 1
  have z02 := K0.cell 2
  have z10 := K1.cell 0
  cases hr : rightG (gsM gs) with
  | false =>
    rw [hr] at HRi
    have HV : Hid (runV (kindQ K) N (intsL ms) (gsM gs) = (240, 0, [])) := Lib.hid (run_bad hr)
    clear hr hG hR HIn
    go_enter Try.func12, Try.ntmps12
    go_wp2_with fail
    refine (HRi.out _ GB).mono ?_
    rintro e w1 ⟨rfl, h9⟩
    replace K0 := K0.below h9 K0.lt
    replace K1 := K1.below h9 K1.lt
    replace K2 := K2.below h9 K2.lt
    replace GB := GB.trans (h9.mono GB.size)
    clear h9 z00 z01 z02 z10
    have z00 := K0.cell 0
    have z01 := K0.cell 1
    have z02 := K0.cell 2
    have z10 := K1.cell 0

    clear z00 z01 z02 z10 K0 K1
    have x2 := K2.cell 0
    have x3 := K2.frozen 0
    have HP2 := Lib.hid (put1 (x := .slice none 0 0) K2 GB (by omega))
    clear K2 GB
    go_wp2_with fail
    exact bodyPost_ret (v := .tuple #[.agg #[.slice none 0 0], .int .i64 0, .int .i64 240]) (results_cell_tmp2 Try.results12 _ _ _ _ _ _ rfl HP2.out.1 Try.underlying24 rfl (by kernel_rfl)) rfl ⟨none, 0, 0, [], by rw [HV.out], nw_nil, by rw [HV.out]; rfl, Nat.le_refl _, fun _ _ => offb_nil, HP2.out.2⟩
  | true =>
    rw [hr] at HRi
    have hPt := Lib.hid (fun (u : World) (h : Below w.heap.size w u) => dpart_any A n c gs N u (hG.below h) (right_each hr))
    have hLv := Lib.hid (fun (u : World) (h : Below w.heap.size w u) => dleave_any A n c gs N u (hG.below h) hr)
    have hFo := Lib.hid (fun (u : World) (Ai : Option Addr) (ni ci : Nat) (h : Below w.heap.size w u) (h1 : IR u Ai ni (intsL ms)) (h2 : ni ≤ 17) => dform_any A n c gs Ai ni ci (intsL ms) u (hG.below h) hr h1 h2)
    rw [part_run hr] at hPt
    obtain ⟨q, hq⟩ : ∃ q, kindQ K = q := ⟨_, rfl⟩
    have h6 := kind_six K
    rw [hq] at h6 ⊢
    unfold kindQ at hq
    obtain ⟨⟨FE, FI, FL⟩, hV⟩ : ∃ V, runV q N (intsL ms) (gsM gs) = V := ⟨_, rfl⟩
    rw [hV]
    clear hG hR
    rcases h6 with h6 | h6 | h6 | h6 | h6 | h6
    all_goals subst h6
    iterate 3
      · have HFo := hFo
        rw [show formV (gsM gs) (intsL ms) = (FE, FI, FL) from by rw [← hV, runV_form (by omega)]; rfl] at HFo
        clear hFo hPt hLv hV hr
        go_enter Try.func12, Try.ntmps12
        go_wp2_with fail
        refine (HRi.out _ GB).mono ?_
        rintro e w1 ⟨rfl, h9⟩
        replace K0 := K0.below h9 K0.lt
        replace K1 := K1.below h9 K1.lt
        replace K2 := K2.below h9 K2.lt
        replace GB := GB.trans (h9.mono GB.size)
        clear h9 z00 z01 z02 z10
        have z00 := K0.cell 0
        have z01 := K0.cell 1
        have z02 := K0.cell 2
        have z10 := K1.cell 0

        go_upto_region 8 with fail
        clear z00 z01 z02 z10
        replace K0 : Blk w1.drew _ _ _ := K0
        replace K1 : Blk w1.drew _ _ _ := K1
        replace K2 : Blk w1.drew _ _ _ := K2
        replace GB := GB.drew
        refine wp_region_held_drew (S := fun u => Below w.heap.size w u ∧ Blk u (w.heap.size) 30 #[.int .i64 K, .int .i64 N, .slice A2 m c2] ∧ Blk u (w.heap.size + 1) 24 #[.slice A n c]) (by kernel_rfl) ⟨GB, K0, K1⟩ (fun hS => ?_)
        generalize w1.drew = V at GB K0 K1 K2 hS ⊢
        refine wpAnyH_take (i := 0) (v := .agg #[.slice A n c]) rfl (by kernel_rfl) (by kernel_rfl) (by kernel_rfl) (fun _ _ _ h => h) (Or.inl ⟨by kernel_rfl, fun u hSw => (by have q0 := hSw.2.2.cell 0; go_simp)⟩) hS ?_
        change wpAnyH _ _ _ _ _ _ _ (Act.put _ (some 27) _) _
        simp only [Act.put]
        try simp only [List.setIfInBounds_toArray, List.set_cons_zero, List.set_cons_succ]
        refine wpAnyH_take (i := 1) (v := .pointer (some ⟨w.heap.size, 2, none⟩)) rfl (by kernel_rfl) (by kernel_rfl) (by kernel_rfl) (fun _ _ _ h => h) (Or.inl ⟨by kernel_rfl, fun u hSw => (by go_simp)⟩) hS ?_
        change wpAnyH _ _ _ _ _ _ _ (Act.put _ (some 28) _) _
        simp only [Act.put]
        try simp only [List.setIfInBounds_toArray, List.set_cons_zero, List.set_cons_succ]
        refine wpAnyH_take (i := 2) (v := .slice A2 m c2) rfl (by kernel_rfl) (by kernel_rfl) (by kernel_rfl) (fun _ _ _ h => h) (Or.inl ⟨by kernel_rfl, fun u hSw => (by have q0 := hSw.2.1.cell 2; go_simp)⟩) hS ?_
        change wpAnyH _ _ _ _ _ _ _ (Act.put _ (some 29) _) _
        simp only [Act.put]
        try simp only [List.setIfInBounds_toArray, List.set_cons_zero, List.set_cons_succ]
        refine wpAnyH_ready (rs := [3]) (by kernel_rfl) (by simp) ?_
        refine AllReadyH.cons rfl (fun K hK => ?_) AllReadyH.nil
        go_simp
        refine (HIn.out _ GB).mono ?_
        rintro e1 w1 ⟨Ai, ni, ci, rfl, h17, Oi, h9⟩
        replace K0 := K0.below h9 K0.lt
        replace K1 := K1.below h9 K1.lt
        replace K2 := K2.below h9 K2.lt
        replace GB := GB.trans (h9.mono GB.size)
        have HIr : Hid (IR w1 Ai ni (intsL ms)) := Lib.hid ⟨Reads.of_own Oi, by omega⟩
        have H17 := Lib.hid h17
        clear h9 Oi h17
        refine hK.out _ _ ⟨GB, K0, K1⟩ (fun hS => ?_)
        clear hK K
        refine wpAnyH_ready (rs := [4]) (by kernel_rfl) (by simp) ?_
        refine AllReadyH.cons rfl (fun K hK => ?_) AllReadyH.nil
        go_simp
        have HL2 := Lib.hid K2.lt
        refine (HFo.out _ Ai ni ci GB HIr.out H17.out).mono ?_
        rintro e2 w2 ⟨A5, n5, c5, G5, rfl, N5, E5, C5, O5, h9⟩
        replace K0 := K0.below h9 K0.lt
        replace K1 := K1.below h9 K1.lt
        replace K2 := K2.below h9 K2.lt
        replace GB := GB.trans (h9.mono GB.size)
        clear h9
        refine hK.out _ _ ⟨GB, K0, K1⟩ (fun hS => ?_)
        clear hK K
        refine wpAnyH_take (i := 5) (v := .tuple #[.agg #[.slice A5 n5 c5], .int .i64 FI, .int .i64 FE]) rfl (by kernel_rfl) (by kernel_rfl) (by kernel_rfl) (fun _ _ _ h => h) (Or.inl ⟨by kernel_rfl, fun u hSw => (by go_simp)⟩) hS ?_
        change wpAnyH _ _ _ _ _ _ _ (Act.put _ (some 26) _) _
        simp only [Act.put]
        try simp only [List.setIfInBounds_toArray, List.set_cons_zero, List.set_cons_succ]
        refine wpAnyH_take (i := 6) (v := .agg #[.slice A5 n5 c5]) rfl (by kernel_rfl) (by kernel_rfl) (by kernel_rfl) (fun _ _ _ h => h) (Or.inl ⟨by kernel_rfl, fun u hSw => (by go_simp)⟩) hS ?_
        change wpAnyH _ _ _ _ _ _ _ (Act.put _ (some 32) _) _
        simp only [Act.put]
        try simp only [List.setIfInBounds_toArray, List.set_cons_zero, List.set_cons_succ]
        refine wpAnyH_take (i := 7) (v := .int .i64 FI) rfl (by kernel_rfl) (by kernel_rfl) (by kernel_rfl) (fun _ _ _ h => h) (Or.inl ⟨by kernel_rfl, fun u hSw => (by go_simp)⟩) hS ?_
        change wpAnyH _ _ _ _ _ _ _ (Act.put _ (some 33) _) _
        simp only [Act.put]
        try simp only [List.setIfInBounds_toArray, List.set_cons_zero, List.set_cons_succ]
        refine wpAnyH_take (i := 8) (v := .int .i64 FE) rfl (by kernel_rfl) (by kernel_rfl) (by kernel_rfl) (fun _ _ _ h => h) (Or.inl ⟨by kernel_rfl, fun u hSw => (by go_simp)⟩) hS ?_
        change wpAnyH _ _ _ _ _ _ _ (Act.put _ (some 34) _) _
        simp only [Act.put]
        try simp only [List.setIfInBounds_toArray, List.set_cons_zero, List.set_cons_succ]
        refine wpAnyH_ready (rs := [9]) (by kernel_rfl) (by simp) ?_
        refine AllReadyH.cons rfl (fun K hK => ?_) AllReadyH.nil
        have d0 := K2.cell 0
        have f0 := K2.frozen 0
        have HP := Lib.hid (put1 (x := .slice A5 n5 c5) K2 GB (by omega))
        have K0f := K0.far (p := ⟨w.heap.size + 1 + 1, 0, none⟩) (by simp; omega) (.slice A5 n5 c5)
        have K1f := K1.far (p := ⟨w.heap.size + 1 + 1, 0, none⟩) (by simp) (.slice A5 n5 c5)
        go_simp
        refine hK.out _ _ ⟨HP.out.2, K0f, K1f⟩ (fun hS => ?_)
        clear hK K d0 f0 K2
        refine wpAnyH_take (i := 10) (v := .int .i64 FI) rfl (by kernel_rfl) (by kernel_rfl) (by kernel_rfl) (fun _ _ _ h => h) (Or.inl ⟨by kernel_rfl, fun u hSw => (by go_simp)⟩) hS ?_
        change wpAnyH _ _ _ _ _ _ _ (Act.put _ (some 5) _) _
        simp only [Act.put]
        try simp only [List.setIfInBounds_toArray, List.set_cons_zero, List.set_cons_succ]
        refine wpAnyH_take (i := 11) (v := .int .i64 FE) rfl (by kernel_rfl) (by kernel_rfl) (by kernel_rfl) (fun _ _ _ h => h) (Or.inl ⟨by kernel_rfl, fun u hSw => (by go_simp)⟩) hS ?_
        change wpAnyH _ _ _ _ _ _ _ (Act.put _ (some 6) _) _
        simp only [Act.put]
        try simp only [List.setIfInBounds_toArray, List.set_cons_zero, List.set_cons_succ]
        refine wpAnyH_done (by kernel_rfl) ?_ _
        clear hS
        have z0 := HP.out.1.cell 0
        have z1 := HP.out.1.frozen 0
        have HP2 := Lib.hid (put1 (x := .slice A5 n5 c5) HP.out.1 HP.out.2 (by omega))
        have HNN := Lib.hid (nw_kept (nw_kept N5 (O5 _ HL2.out) (grownBy_setCell0 w2 (w.heap.size + 1 + 1) (.slice A5 n5 c5))) (O5 _ HL2.out) (grownBy_setCell0 _ (w.heap.size + 1 + 1) (.slice A5 n5 c5)))
        have HE5 := Lib.hid E5
        have HC5 := Lib.hid C5
        have HO5 : Hid (∀ b, b < w.heap.size → OffB b A5 n5 G5) := Lib.hid (fun b hb => O5 b (by have := HL2.out; omega))
        clear N5 E5 C5 O5
        go_wp2_with fail
        exact bodyPost_ret (v := .tuple #[.agg #[.slice A5 n5 c5], .int .i64 FI, .int .i64 FE]) (results_cell_tmp2 Try.results12 _ _ _ _ _ _ rfl HP2.out.1 Try.underlying24 rfl (by kernel_rfl)) rfl ⟨A5, n5, c5, G5, rfl, HNN.out, HE5.out, HC5.out, HO5.out, HP2.out.2⟩
    iterate 1
      · obtain ⟨E, hE⟩ : ∃ E, E = FE := ⟨_, rfl⟩
        have HPt := hPt
        rw [runV_part] at hV
        injection hV with h1 h2
        injection h2 with h2 h3
        rw [h3, h1, ← hE] at HPt
        rw [← hE]
        subst h2
        clear hFo hPt hLv h1 h3 hE hr
        go_enter Try.func12, Try.ntmps12
        go_wp2_with fail
        refine (HRi.out _ GB).mono ?_
        rintro e w1 ⟨rfl, h9⟩
        replace K0 := K0.below h9 K0.lt
        replace K1 := K1.below h9 K1.lt
        replace K2 := K2.below h9 K2.lt
        replace GB := GB.trans (h9.mono GB.size)
        clear h9 z00 z01 z02 z10
        have z00 := K0.cell 0
        have z01 := K0.cell 1
        have z02 := K0.cell 2
        have z10 := K1.cell 0

        go_wp2_with fail
        have HL2 := Lib.hid K2.lt
        refine (HPt.out _ GB).mono ?_
        rintro e w5 ⟨A5, n5, c5, G5, rfl, N5, E5, C5, O5, h9⟩
        replace K2 := K2.below h9 K2.lt
        replace GB := GB.trans (h9.mono GB.size)
        clear h9 z00 z01 z02 z10 K0 K1
        have x2 := K2.cell 0
        have x3 := K2.frozen 0
        have HP := Lib.hid (put1 (x := .slice A5 n5 c5) K2 GB (by omega))
        have z0 := HP.out.1.cell 0
        have z1 := HP.out.1.frozen 0
        have HP2 := Lib.hid (put1 (x := .slice A5 n5 c5) HP.out.1 HP.out.2 (by omega))
        have HNN := Lib.hid (nw_kept (nw_kept N5 (O5 _ HL2.out) (grownBy_setCell0 w5 (w.heap.size + 1 + 1) (.slice A5 n5 c5))) (O5 _ HL2.out) (grownBy_setCell0 _ (w.heap.size + 1 + 1) (.slice A5 n5 c5)))
        have HE5 := Lib.hid E5
        have HC5 := Lib.hid C5
        have HO5 : Hid (∀ b, b < w.heap.size → OffB b A5 n5 G5) := Lib.hid (fun b hb => O5 b (by have := HL2.out; omega))
        clear N5 E5 C5 O5
        clear K2 GB
        go_wp2_with fail
        exact bodyPost_ret (v := .tuple #[.agg #[.slice A5 n5 c5], .int .i64 0, .int .i64 E]) (results_cell_tmp2 Try.results12 _ _ _ _ _ _ rfl HP2.out.1 Try.underlying24 rfl (by kernel_rfl)) rfl ⟨A5, n5, c5, G5, rfl, HNN.out, HE5.out, HC5.out, HO5.out, HP2.out.2⟩
    iterate 2
      · obtain ⟨E, hE⟩ : ∃ E, E = FE := ⟨_, rfl⟩
        have HLv := hLv
        unfold dleaveV at HLv
        rw [runV_leave (by omega)] at hV
        injection hV with h1 h2
        injection h2 with h2 h3
        rw [h3, h1, ← hE] at HLv
        rw [← hE]
        subst h2
        clear hFo hPt hLv h1 h3 hE hr
        go_enter Try.func12, Try.ntmps12
        go_wp2_with fail
        refine (HRi.out _ GB).mono ?_
        rintro e w1 ⟨rfl, h9⟩
        replace K0 := K0.below h9 K0.lt
        replace K1 := K1.below h9 K1.lt
        replace K2 := K2.below h9 K2.lt
        replace GB := GB.trans (h9.mono GB.size)
        clear h9 z00 z01 z02 z10
        have z00 := K0.cell 0
        have z01 := K0.cell 1
        have z02 := K0.cell 2
        have z10 := K1.cell 0

        go_wp2_with fail
        have HL2 := Lib.hid K2.lt
        refine (HLv.out _ GB).mono ?_
        rintro e w5 ⟨A5, n5, c5, G5, rfl, N5, E5, C5, O5, h9⟩
        replace K2 := K2.below h9 K2.lt
        replace GB := GB.trans (h9.mono GB.size)
        clear h9 z00 z01 z02 z10 K0 K1
        have x2 := K2.cell 0
        have x3 := K2.frozen 0
        have HP := Lib.hid (put1 (x := .slice A5 n5 c5) K2 GB (by omega))
        have z0 := HP.out.1.cell 0
        have z1 := HP.out.1.frozen 0
        have HP2 := Lib.hid (put1 (x := .slice A5 n5 c5) HP.out.1 HP.out.2 (by omega))
        have HNN := Lib.hid (nw_kept (nw_kept N5 (O5 _ HL2.out) (grownBy_setCell0 w5 (w.heap.size + 1 + 1) (.slice A5 n5 c5))) (O5 _ HL2.out) (grownBy_setCell0 _ (w.heap.size + 1 + 1) (.slice A5 n5 c5)))
        have HE5 := Lib.hid E5
        have HC5 := Lib.hid C5
        have HO5 : Hid (∀ b, b < w.heap.size → OffB b A5 n5 G5) := Lib.hid (fun b hb => O5 b (by have := HL2.out; omega))
        clear N5 E5 C5 O5
        clear K2 GB
        go_wp2_with fail
        exact bodyPost_ret (v := .tuple #[.agg #[.slice A5 n5 c5], .int .i64 0, .int .i64 E]) (results_cell_tmp2 Try.results12 _ _ _ _ _ _ rfl HP2.out.1 Try.underlying24 rfl (by kernel_rfl)) rfl ⟨A5, n5, c5, G5, rfl, HNN.out, HE5.out, HC5.out, HO5.out, HP2.out.2⟩

end Go.Proofs.Ytglphgfaknofcaa
