/-
  The landed bucket: Pass, Change. No statement is proved here.
-/
import Derived.Test.YtcdbkfmdilimaaaBc
namespace Go.Proofs.Ytcdbkfmdilimaaa
open Go.RowKit

def inP (d n : Int) : Bool := decide (0 ≤ d ∧ d ≤ 10000000 ∧ 0 ≤ n ∧ n ≤ 8)
def passV (c t d n : Int) : (Int × Int) × Int :=
  if rightB c t = true then (if inP d n = true then (if c = 0 then ((c, t), 0) else if (dryB c t && (decide (0 < n) && decide (0 < d))) = true then ((0, 0), 211) else ((c, minT (t + c * d - 100 * n * d) (c * 100000000)), 0)) else ((0, 0), 2)) else ((0, 0), 210)
def changeV (c t p : Int) : (Int × Int) × Int :=
  if rightB c t = true then (if capB p = true then (if c = 0 ∨ p = 0 then ((p, p * 100000000), 0) else ((p, minT t (p * 100000000)), 0)) else ((0, 0), 2)) else ((0, 0), 210)
theorem lims_pass (d n : Int) : [(d, (0 : Int), (10000000 : Int)), (n, 0, 8)].all inL = inP d n := by
  simp only [List.all_cons, List.all_nil, Bool.and_true, inL_iff]
  unfold inP
  rw [← Bool.decide_and]
  exact decide_eq_decide.2 (by omega)
theorem in_of {d n : Int} (h : inP d n = true) : 0 ≤ d ∧ d ≤ 10000000 ∧ 0 ≤ n ∧ n ≤ 8 := of_decide_eq_true h

set_option maxRecDepth 100000 in
set_option maxHeartbeats 8000000 in
theorem pass_any (c t d n : Int) (w : World) : Calls Try.prog 10 #[.agg #[.int .i64 c, .int .i64 t], .int .i64 d, .int .i64 n] w (Said (bkE (passV c t d n).1 (passV c t d n).2) w) := by
  obtain ⟨K0, K1, GB⟩ := blks2 w 23 23 #[.int .i64 c, .int .i64 t] #[.int .i64 0, .int .i64 0]
  have HC := Lib.hid (fun u => check_any c t u)
  have HU := Lib.hid (fun u => uncapped_any c t u)
  have HD := Lib.hid (fun u => dry_any c t u)
  have HI : Hid (∀ X : World, Calls Try.prog 23 #[.slice (some ⟨X.heap.size, 0, none⟩) 2 2] (X.alloc (.cells #[.int .i64 d, .int .i64 0, .int .i64 10000000, .int .i64 n, .int .i64 0, .int .i64 8] 50)) (Said (.bool (inP d n)) (X.alloc (.cells #[.int .i64 d, .int .i64 0, .int .i64 10000000, .int .i64 n, .int .i64 0, .int .i64 8] 50)))) := Lib.hid (fun X => by
    have h := inb_any X.heap.size 2 2 [(d, 0, 10000000), (n, 0, 8)] _ rfl (by omega) (lrow2 X d 0 10000000 n 0 8)
    rwa [lims_pass] at h)
  unfold chk at HC
  unfold passV bkE
  cases hr : rightB c t with
  | false =>
    rw [hr, if_neg (by simp)] at HC
    rw [if_neg (by simp)]
    clear hr
    go_enter Try.func10, Try.ntmps10
    have z00 := K0.cell 0
    have z01 := K0.cell 1
    go_wp2_with fail
    refine (HC.out _).mono ?_
    rintro e w1 ⟨rfl, h9⟩
    replace K0 := K0.below h9 K0.lt
    replace K1 := K1.below h9 K1.lt
    replace GB := GB.trans (h9.mono GB.size)
    clear h9 z00 z01
    have d0 := K1.cell 0
    have d1 := K1.cell 1
    have f0 := K1.frozen 0
    have f1 := K1.frozen 1
    have HP := Lib.hid (put2 (x := .int .i64 0) (y := .int .i64 0) K1 GB (by simp <;> omega))
    clear K1 GB
    go_wp2_with fail
    exact bodyPost_ret (v := .tuple #[.agg #[.int .i64 0, .int .i64 0], .int .i64 210]) (results_cell_row_tmp Try.results10 _ _ _ _ _ _ rfl HP.out.1 Try.underlying23 rfl (by kernel_rfl)) rfl ⟨rfl, HP.out.2⟩
  | true =>
    have hR := right_of hr
    rw [hr, if_pos rfl] at HC
    rw [if_pos rfl]
    clear hr
    cases hi : inP d n with
    | false =>
      rw [hi] at HI
      rw [if_neg (by simp)]
      clear hi
      go_enter Try.func10, Try.ntmps10
      have z00 := K0.cell 0
      have z01 := K0.cell 1
      go_wp2_with fail
      refine (HC.out _).mono ?_
      rintro e w1 ⟨rfl, h9⟩
      replace K0 := K0.below h9 K0.lt
      replace K1 := K1.below h9 K1.lt
      replace GB := GB.trans (h9.mono GB.size)
      clear h9 z00 z01
      have HIx := Lib.hid (HI.out w1)
      replace K0 := K0.alloc (.cells #[.int .i64 d, .int .i64 0, .int .i64 10000000, .int .i64 n, .int .i64 0, .int .i64 8] 50)
      replace K1 := K1.alloc (.cells #[.int .i64 d, .int .i64 0, .int .i64 10000000, .int .i64 n, .int .i64 0, .int .i64 8] 50)
      replace GB := GB.alloc GB.size (.cells #[.int .i64 d, .int .i64 0, .int .i64 10000000, .int .i64 n, .int .i64 0, .int .i64 8] 50)
      have z00 := K0.cell 0
      have z01 := K0.cell 1
      go_wp2_with fail
      refine (HIx.out).mono ?_
      rintro e w2 ⟨rfl, h9⟩
      replace K0 := K0.below h9 K0.lt
      replace K1 := K1.below h9 K1.lt
      replace GB := GB.trans (h9.mono GB.size)
      clear h9 z00 z01
      have d0 := K1.cell 0
      have d1 := K1.cell 1
      have f0 := K1.frozen 0
      have f1 := K1.frozen 1
      have HP := Lib.hid (put2 (x := .int .i64 0) (y := .int .i64 0) K1 GB (by simp <;> omega))
      clear K1 GB
      go_wp2_with fail
      exact bodyPost_ret (v := .tuple #[.agg #[.int .i64 0, .int .i64 0], .int .i64 2]) (results_cell_row_tmp Try.results10 _ _ _ _ _ _ rfl HP.out.1 Try.underlying23 rfl (by kernel_rfl)) rfl ⟨rfl, HP.out.2⟩
    | true =>
      have hb := in_of hi
      rw [hi] at HI
      rw [if_pos rfl]
      clear hi
      by_cases hc : c = 0
      · rw [if_pos hc]
        have hz : c = 0 ∧ t = 0 := by omega
        rw [show (c == 0 && t == 0) = true by simp [hz]] at HU
        clear hc hz hR hb
        go_enter Try.func10, Try.ntmps10
        have z00 := K0.cell 0
        have z01 := K0.cell 1
        go_wp2_with fail
        refine (HC.out _).mono ?_
        rintro e w1 ⟨rfl, h9⟩
        replace K0 := K0.below h9 K0.lt
        replace K1 := K1.below h9 K1.lt
        replace GB := GB.trans (h9.mono GB.size)
        clear h9 z00 z01
        have HIx := Lib.hid (HI.out w1)
        replace K0 := K0.alloc (.cells #[.int .i64 d, .int .i64 0, .int .i64 10000000, .int .i64 n, .int .i64 0, .int .i64 8] 50)
        replace K1 := K1.alloc (.cells #[.int .i64 d, .int .i64 0, .int .i64 10000000, .int .i64 n, .int .i64 0, .int .i64 8] 50)
        replace GB := GB.alloc GB.size (.cells #[.int .i64 d, .int .i64 0, .int .i64 10000000, .int .i64 n, .int .i64 0, .int .i64 8] 50)
        have z00 := K0.cell 0
        have z01 := K0.cell 1
        go_wp2_with fail
        refine (HIx.out).mono ?_
        rintro e w2 ⟨rfl, h9⟩
        replace K0 := K0.below h9 K0.lt
        replace K1 := K1.below h9 K1.lt
        replace GB := GB.trans (h9.mono GB.size)
        clear h9 z00 z01
        have z00 := K0.cell 0
        have z01 := K0.cell 1
        go_wp2_with fail
        refine (HU.out _).mono ?_
        rintro e w3 ⟨rfl, h9⟩
        replace K0 := K0.below h9 K0.lt
        replace K1 := K1.below h9 K1.lt
        replace GB := GB.trans (h9.mono GB.size)
        clear h9 z00 z01
        have z00 := K0.cell 0
        have z01 := K0.cell 1
        have d0 := K1.cell 0
        have d1 := K1.cell 1
        have f0 := K1.frozen 0
        have f1 := K1.frozen 1
        have HP := Lib.hid (put2 (x := .int .i64 c) (y := .int .i64 t) K1 GB (by simp <;> omega))
        clear K1 GB
        clear K0
        go_wp2_with fail
        exact bodyPost_ret (v := .tuple #[.agg #[.int .i64 c, .int .i64 t], .int .i64 0]) (results_cell_row_tmp Try.results10 _ _ _ _ _ _ rfl HP.out.1 Try.underlying23 rfl (by kernel_rfl)) rfl ⟨rfl, HP.out.2⟩
      · rw [if_neg hc]
        rw [show (c == 0 && t == 0) = false by simp; exact fun h1 => absurd h1 hc] at HU
        obtain ⟨dr, hdr⟩ : ∃ b, dryB c t = b := ⟨_, rfl⟩
        rw [hdr] at HD ⊢
        have H1 := Lib.hid (And.intro hc (And.intro hR hb))
        clear hc hR hb hdr
        by_cases hn : 0 < n
        · have n1 : decide ((0 : Int) < n) = true := decide_eq_true hn
          by_cases hd : 0 < d
          · have d1 : decide ((0 : Int) < d) = true := decide_eq_true hd
            cases dr with
            | true =>
              rw [if_pos (by simp [n1, d1])]
              clear hn hd
              go_enter Try.func10, Try.ntmps10
              have z00 := K0.cell 0
              have z01 := K0.cell 1
              go_wp2_with fail
              refine (HC.out _).mono ?_
              rintro e w1 ⟨rfl, h9⟩
              replace K0 := K0.below h9 K0.lt
              replace K1 := K1.below h9 K1.lt
              replace GB := GB.trans (h9.mono GB.size)
              clear h9 z00 z01
              have HIx := Lib.hid (HI.out w1)
              replace K0 := K0.alloc (.cells #[.int .i64 d, .int .i64 0, .int .i64 10000000, .int .i64 n, .int .i64 0, .int .i64 8] 50)
              replace K1 := K1.alloc (.cells #[.int .i64 d, .int .i64 0, .int .i64 10000000, .int .i64 n, .int .i64 0, .int .i64 8] 50)
              replace GB := GB.alloc GB.size (.cells #[.int .i64 d, .int .i64 0, .int .i64 10000000, .int .i64 n, .int .i64 0, .int .i64 8] 50)
              have z00 := K0.cell 0
              have z01 := K0.cell 1
              go_wp2_with fail
              refine (HIx.out).mono ?_
              rintro e w2 ⟨rfl, h9⟩
              replace K0 := K0.below h9 K0.lt
              replace K1 := K1.below h9 K1.lt
              replace GB := GB.trans (h9.mono GB.size)
              clear h9 z00 z01
              have z00 := K0.cell 0
              have z01 := K0.cell 1
              go_wp2_with fail
              refine (HU.out _).mono ?_
              rintro e w3 ⟨rfl, h9⟩
              replace K0 := K0.below h9 K0.lt
              replace K1 := K1.below h9 K1.lt
              replace GB := GB.trans (h9.mono GB.size)
              clear h9 z00 z01
              have z00 := K0.cell 0
              have z01 := K0.cell 1
              go_wp2_with fail
              refine (HD.out _).mono ?_
              rintro e w4 ⟨rfl, h9⟩
              replace K0 := K0.below h9 K0.lt
              replace K1 := K1.below h9 K1.lt
              replace GB := GB.trans (h9.mono GB.size)
              clear h9 z00 z01
              have d0 := K1.cell 0
              have d1 := K1.cell 1
              have f0 := K1.frozen 0
              have f1 := K1.frozen 1
              have HP := Lib.hid (put2 (x := .int .i64 0) (y := .int .i64 0) K1 GB (by simp <;> omega))
              clear K1 GB
              go_wp2_with fail
              exact bodyPost_ret (v := .tuple #[.agg #[.int .i64 0, .int .i64 0], .int .i64 211]) (results_cell_row_tmp Try.results10 _ _ _ _ _ _ rfl HP.out.1 Try.underlying23 rfl (by kernel_rfl)) rfl ⟨rfl, HP.out.2⟩
            | false =>
              rw [if_neg (by simp)]
              have hM : Hid (minT (t + c * d - 100 * n * d) (c * 100000000) = minT (wrap64 (wrap64 (t + wrap64 (c * d)) - wrap64 (wrap64 (100 * n) * d))) (wrap64 (c * 100000000))) := Lib.hid (by
                have h0 := H1.out
                have m1 := mul_in (a := c) (b := d) (A := 800) (B := 10000000) (by omega) (by omega) (by omega) (by omega)
                have m2 := mul_in (a := 100 * n) (b := d) (A := 800) (B := 10000000) (by omega) (by omega) (by omega) (by omega)
                rw [w64 (n := c * d) (by omega) (by omega), w64 (n := 100 * n) (by omega) (by omega), w64 (n := 100 * n * d) (by omega) (by omega), w64 (n := t + c * d) (by omega) (by omega), w64 (n := t + c * d - 100 * n * d) (by omega) (by omega), w64 (n := c * 100000000) (by omega) (by omega)])
              rw [hM.out]
              have HB := Lib.hid (fun u => behind_any t c d n u)
              obtain ⟨x, hx⟩ : ∃ x, wrap64 (wrap64 (t + wrap64 (c * d)) - wrap64 (wrap64 (100 * n) * d)) = x := ⟨_, rfl⟩
              rw [hx] at HB ⊢
              have HF := Lib.hid (fun u => filled_any c x u)
              obtain ⟨m, hm⟩ : ∃ m, minT x (wrap64 (c * 100000000)) = m := ⟨_, rfl⟩
              rw [hm] at HF ⊢
              clear hM hx hm
              clear hn hd n1 d1
              go_enter Try.func10, Try.ntmps10
              have z00 := K0.cell 0
              have z01 := K0.cell 1
              go_wp2_with fail
              refine (HC.out _).mono ?_
              rintro e w1 ⟨rfl, h9⟩
              replace K0 := K0.below h9 K0.lt
              replace K1 := K1.below h9 K1.lt
              replace GB := GB.trans (h9.mono GB.size)
              clear h9 z00 z01
              have HIx := Lib.hid (HI.out w1)
              replace K0 := K0.alloc (.cells #[.int .i64 d, .int .i64 0, .int .i64 10000000, .int .i64 n, .int .i64 0, .int .i64 8] 50)
              replace K1 := K1.alloc (.cells #[.int .i64 d, .int .i64 0, .int .i64 10000000, .int .i64 n, .int .i64 0, .int .i64 8] 50)
              replace GB := GB.alloc GB.size (.cells #[.int .i64 d, .int .i64 0, .int .i64 10000000, .int .i64 n, .int .i64 0, .int .i64 8] 50)
              have z00 := K0.cell 0
              have z01 := K0.cell 1
              go_wp2_with fail
              refine (HIx.out).mono ?_
              rintro e w2 ⟨rfl, h9⟩
              replace K0 := K0.below h9 K0.lt
              replace K1 := K1.below h9 K1.lt
              replace GB := GB.trans (h9.mono GB.size)
              clear h9 z00 z01
              have z00 := K0.cell 0
              have z01 := K0.cell 1
              go_wp2_with fail
              refine (HU.out _).mono ?_
              rintro e w3 ⟨rfl, h9⟩
              replace K0 := K0.below h9 K0.lt
              replace K1 := K1.below h9 K1.lt
              replace GB := GB.trans (h9.mono GB.size)
              clear h9 z00 z01
              have z00 := K0.cell 0
              have z01 := K0.cell 1
              go_wp2_with fail
              refine (HD.out _).mono ?_
              rintro e w4 ⟨rfl, h9⟩
              replace K0 := K0.below h9 K0.lt
              replace K1 := K1.below h9 K1.lt
              replace GB := GB.trans (h9.mono GB.size)
              clear h9 z00 z01
              have z00 := K0.cell 0
              have z01 := K0.cell 1
              go_upto_region 9 with fail
              clear z00 z01
              replace K0 : Blk w4.drew _ _ _ := K0
              replace K1 : Blk w4.drew _ _ _ := K1
              replace GB := GB.drew
              refine wp_region_held_drew (S := fun u => Below w.heap.size w u ∧ Blk u w.heap.size 23 #[.int .i64 c, .int .i64 t] ∧ ∃ p q, Blk u (w.heap.size + 1) 23 #[.int .i64 p, .int .i64 q]) (by kernel_rfl) ⟨GB, K0, _, _, K1⟩ (fun hS => ?_)
              generalize w4.drew = V at K0 K1 GB hS ⊢
              refine wpAnyH_take (i := 0) (v := .pointer (some ⟨w.heap.size, 0, none⟩)) rfl (by kernel_rfl) (by kernel_rfl) (by kernel_rfl) (fun _ _ _ h => h) (Or.inl ⟨by kernel_rfl, fun u hSw => (by go_simp)⟩) hS ?_
              change wpAnyH _ _ _ _ _ _ _ (Act.put _ (some 38) _) _
              simp only [Act.put]
              try simp only [List.setIfInBounds_toArray, List.set_cons_zero, List.set_cons_succ]
              refine wpAnyH_take (i := 1) (v := .int .i64 c) rfl (by kernel_rfl) (by kernel_rfl) (by kernel_rfl) (fun _ _ _ h => h) (Or.inl ⟨by kernel_rfl, fun u hSw => (by have q0 := hSw.2.1.cell 0; go_simp)⟩) hS ?_
              change wpAnyH _ _ _ _ _ _ _ (Act.put _ (some 39) _) _
              simp only [Act.put]
              try simp only [List.setIfInBounds_toArray, List.set_cons_zero, List.set_cons_succ]
              refine wpAnyH_take (i := 2) (v := .pointer (some ⟨w.heap.size, 1, none⟩)) rfl (by kernel_rfl) (by kernel_rfl) (by kernel_rfl) (fun _ _ _ h => h) (Or.inl ⟨by kernel_rfl, fun u hSw => (by go_simp)⟩) hS ?_
              change wpAnyH _ _ _ _ _ _ _ (Act.put _ (some 40) _) _
              simp only [Act.put]
              try simp only [List.setIfInBounds_toArray, List.set_cons_zero, List.set_cons_succ]
              refine wpAnyH_take (i := 3) (v := .int .i64 t) rfl (by kernel_rfl) (by kernel_rfl) (by kernel_rfl) (fun _ _ _ h => h) (Or.inl ⟨by kernel_rfl, fun u hSw => (by have q0 := hSw.2.1.cell 1; go_simp)⟩) hS ?_
              change wpAnyH _ _ _ _ _ _ _ (Act.put _ (some 41) _) _
              simp only [Act.put]
              try simp only [List.setIfInBounds_toArray, List.set_cons_zero, List.set_cons_succ]
              refine wpAnyH_take (i := 4) (v := .pointer (some ⟨w.heap.size, 0, none⟩)) rfl (by kernel_rfl) (by kernel_rfl) (by kernel_rfl) (fun _ _ _ h => h) (Or.inl ⟨by kernel_rfl, fun u hSw => (by go_simp)⟩) hS ?_
              change wpAnyH _ _ _ _ _ _ _ (Act.put _ (some 42) _) _
              simp only [Act.put]
              try simp only [List.setIfInBounds_toArray, List.set_cons_zero, List.set_cons_succ]
              refine wpAnyH_take (i := 5) (v := .int .i64 c) rfl (by kernel_rfl) (by kernel_rfl) (by kernel_rfl) (fun _ _ _ h => h) (Or.inl ⟨by kernel_rfl, fun u hSw => (by have q0 := hSw.2.1.cell 0; go_simp)⟩) hS ?_
              change wpAnyH _ _ _ _ _ _ _ (Act.put _ (some 43) _) _
              simp only [Act.put]
              try simp only [List.setIfInBounds_toArray, List.set_cons_zero, List.set_cons_succ]
              refine wpAnyH_take (i := 6) (v := .int .i64 d) rfl (by kernel_rfl) (by kernel_rfl) (by kernel_rfl) (fun _ _ _ h => h) (Or.inl ⟨by kernel_rfl, fun u hSw => (by go_simp)⟩) hS ?_
              change wpAnyH _ _ _ _ _ _ _ (Act.put _ (some 44) _) _
              simp only [Act.put]
              try simp only [List.setIfInBounds_toArray, List.set_cons_zero, List.set_cons_succ]
              refine wpAnyH_take (i := 7) (v := .int .i64 n) rfl (by kernel_rfl) (by kernel_rfl) (by kernel_rfl) (fun _ _ _ h => h) (Or.inl ⟨by kernel_rfl, fun u hSw => (by go_simp)⟩) hS ?_
              change wpAnyH _ _ _ _ _ _ _ (Act.put _ (some 45) _) _
              simp only [Act.put]
              try simp only [List.setIfInBounds_toArray, List.set_cons_zero, List.set_cons_succ]
              refine wpAnyH_ready (rs := [8]) (by kernel_rfl) (by simp) ?_
              refine AllReadyH.cons rfl (fun K hK => ?_) AllReadyH.nil
              go_simp
              refine (HB.out _).mono ?_
              rintro e1 w1 ⟨rfl, rfl⟩
              refine hK.out _ _ ⟨GB, K0, _, _, K1⟩ (fun hS => ?_)
              clear hK K
              refine wpAnyH_take (i := 9) (v := .func (.func 27) #[.int .i64 x] #[]) rfl (by kernel_rfl) (by kernel_rfl) (by kernel_rfl) (fun _ _ _ h => h) (Or.inl ⟨by kernel_rfl, fun u hSw => (by go_simp)⟩) hS ?_
              change wpAnyH _ _ _ _ _ _ _ (Act.put _ (some 47) _) _
              simp only [Act.put]
              try simp only [List.setIfInBounds_toArray, List.set_cons_zero, List.set_cons_succ]
              refine wpAnyH_ready (rs := [10]) (by kernel_rfl) (by simp) ?_
              refine AllReadyH.cons rfl (fun K hK => ?_) AllReadyH.nil
              go_simp
              refine (HF.out _).mono ?_
              rintro e2 w2 ⟨rfl, h9⟩
              replace K0 := K0.below h9 K0.lt
              replace K1 := K1.below h9 K1.lt
              replace GB := GB.trans (h9.mono GB.size)
              clear h9
              refine hK.out _ _ ⟨GB, K0, _, _, K1⟩ (fun hS => ?_)
              clear hK K
              refine wpAnyH_ready (rs := [11]) (by kernel_rfl) (by simp) ?_
              refine AllReadyH.cons rfl (fun K hK => ?_) AllReadyH.nil
              have d0 := K1.cell 0
              have d1 := K1.cell 1
              have f0 := K1.frozen 0
              have f1 := K1.frozen 1
              have HP := Lib.hid (put2 (x := .int .i64 c) (y := .int .i64 m) K1 GB (by omega))
              have K0f := (K0.far (p := ⟨w.heap.size + 1, 0, none⟩) (by simp) (.int .i64 c)).far (p := ⟨w.heap.size + 1, 1, none⟩) (by simp) (.int .i64 m)
              go_simp
              refine hK.out _ _ ⟨HP.out.2, K0f, _, _, HP.out.1⟩ (fun hS => ?_)
              clear hK K d0 d1 f0 f1 K1
              refine wpAnyH_take (i := 12) (v := .int .i64 0) rfl (by kernel_rfl) (by kernel_rfl) (by kernel_rfl) (fun _ _ _ h => h) (Or.inl ⟨by kernel_rfl, fun u hSw => (by go_simp)⟩) hS ?_
              change wpAnyH _ _ _ _ _ _ _ (Act.put _ (some 7) _) _
              simp only [Act.put]
              try simp only [List.setIfInBounds_toArray, List.set_cons_zero, List.set_cons_succ]
              refine wpAnyH_done (by kernel_rfl) ?_ _
              clear hS
              go_wp2_with fail
              exact bodyPost_ret (v := .tuple #[.agg #[.int .i64 c, .int .i64 m], .int .i64 0]) (results_cell_row_tmp Try.results10 _ _ _ _ _ _ rfl HP.out.1 Try.underlying23 rfl (by kernel_rfl)) rfl ⟨rfl, HP.out.2⟩
          · have d1 : decide ((0 : Int) < d) = false := decide_eq_false hd
            rw [if_neg (by simp [d1])]
            have hM : Hid (minT (t + c * d - 100 * n * d) (c * 100000000) = minT (wrap64 (wrap64 (t + wrap64 (c * d)) - wrap64 (wrap64 (100 * n) * d))) (wrap64 (c * 100000000))) := Lib.hid (by
              have h0 := H1.out
              have m1 := mul_in (a := c) (b := d) (A := 800) (B := 10000000) (by omega) (by omega) (by omega) (by omega)
              have m2 := mul_in (a := 100 * n) (b := d) (A := 800) (B := 10000000) (by omega) (by omega) (by omega) (by omega)
              rw [w64 (n := c * d) (by omega) (by omega), w64 (n := 100 * n) (by omega) (by omega), w64 (n := 100 * n * d) (by omega) (by omega), w64 (n := t + c * d) (by omega) (by omega), w64 (n := t + c * d - 100 * n * d) (by omega) (by omega), w64 (n := c * 100000000) (by omega) (by omega)])
            rw [hM.out]
            have HB := Lib.hid (fun u => behind_any t c d n u)
            obtain ⟨x, hx⟩ : ∃ x, wrap64 (wrap64 (t + wrap64 (c * d)) - wrap64 (wrap64 (100 * n) * d)) = x := ⟨_, rfl⟩
            rw [hx] at HB ⊢
            have HF := Lib.hid (fun u => filled_any c x u)
            obtain ⟨m, hm⟩ : ∃ m, minT x (wrap64 (c * 100000000)) = m := ⟨_, rfl⟩
            rw [hm] at HF ⊢
            clear hM hx hm
            clear hn hd
            cases dr with
            | true =>
              go_enter Try.func10, Try.ntmps10
              have z00 := K0.cell 0
              have z01 := K0.cell 1
              go_wp2_with fail
              refine (HC.out _).mono ?_
              rintro e w1 ⟨rfl, h9⟩
              replace K0 := K0.below h9 K0.lt
              replace K1 := K1.below h9 K1.lt
              replace GB := GB.trans (h9.mono GB.size)
              clear h9 z00 z01
              have HIx := Lib.hid (HI.out w1)
              replace K0 := K0.alloc (.cells #[.int .i64 d, .int .i64 0, .int .i64 10000000, .int .i64 n, .int .i64 0, .int .i64 8] 50)
              replace K1 := K1.alloc (.cells #[.int .i64 d, .int .i64 0, .int .i64 10000000, .int .i64 n, .int .i64 0, .int .i64 8] 50)
              replace GB := GB.alloc GB.size (.cells #[.int .i64 d, .int .i64 0, .int .i64 10000000, .int .i64 n, .int .i64 0, .int .i64 8] 50)
              have z00 := K0.cell 0
              have z01 := K0.cell 1
              go_wp2_with fail
              refine (HIx.out).mono ?_
              rintro e w2 ⟨rfl, h9⟩
              replace K0 := K0.below h9 K0.lt
              replace K1 := K1.below h9 K1.lt
              replace GB := GB.trans (h9.mono GB.size)
              clear h9 z00 z01
              have z00 := K0.cell 0
              have z01 := K0.cell 1
              go_wp2_with fail
              refine (HU.out _).mono ?_
              rintro e w3 ⟨rfl, h9⟩
              replace K0 := K0.below h9 K0.lt
              replace K1 := K1.below h9 K1.lt
              replace GB := GB.trans (h9.mono GB.size)
              clear h9 z00 z01
              have z00 := K0.cell 0
              have z01 := K0.cell 1
              go_wp2_with fail
              refine (HD.out _).mono ?_
              rintro e w4 ⟨rfl, h9⟩
              replace K0 := K0.below h9 K0.lt
              replace K1 := K1.below h9 K1.lt
              replace GB := GB.trans (h9.mono GB.size)
              clear h9 z00 z01
              have z00 := K0.cell 0
              have z01 := K0.cell 1
              go_upto_region 9 with fail
              clear z00 z01
              replace K0 : Blk w4.drew _ _ _ := K0
              replace K1 : Blk w4.drew _ _ _ := K1
              replace GB := GB.drew
              refine wp_region_held_drew (S := fun u => Below w.heap.size w u ∧ Blk u w.heap.size 23 #[.int .i64 c, .int .i64 t] ∧ ∃ p q, Blk u (w.heap.size + 1) 23 #[.int .i64 p, .int .i64 q]) (by kernel_rfl) ⟨GB, K0, _, _, K1⟩ (fun hS => ?_)
              generalize w4.drew = V at K0 K1 GB hS ⊢
              refine wpAnyH_take (i := 0) (v := .pointer (some ⟨w.heap.size, 0, none⟩)) rfl (by kernel_rfl) (by kernel_rfl) (by kernel_rfl) (fun _ _ _ h => h) (Or.inl ⟨by kernel_rfl, fun u hSw => (by go_simp)⟩) hS ?_
              change wpAnyH _ _ _ _ _ _ _ (Act.put _ (some 38) _) _
              simp only [Act.put]
              try simp only [List.setIfInBounds_toArray, List.set_cons_zero, List.set_cons_succ]
              refine wpAnyH_take (i := 1) (v := .int .i64 c) rfl (by kernel_rfl) (by kernel_rfl) (by kernel_rfl) (fun _ _ _ h => h) (Or.inl ⟨by kernel_rfl, fun u hSw => (by have q0 := hSw.2.1.cell 0; go_simp)⟩) hS ?_
              change wpAnyH _ _ _ _ _ _ _ (Act.put _ (some 39) _) _
              simp only [Act.put]
              try simp only [List.setIfInBounds_toArray, List.set_cons_zero, List.set_cons_succ]
              refine wpAnyH_take (i := 2) (v := .pointer (some ⟨w.heap.size, 1, none⟩)) rfl (by kernel_rfl) (by kernel_rfl) (by kernel_rfl) (fun _ _ _ h => h) (Or.inl ⟨by kernel_rfl, fun u hSw => (by go_simp)⟩) hS ?_
              change wpAnyH _ _ _ _ _ _ _ (Act.put _ (some 40) _) _
              simp only [Act.put]
              try simp only [List.setIfInBounds_toArray, List.set_cons_zero, List.set_cons_succ]
              refine wpAnyH_take (i := 3) (v := .int .i64 t) rfl (by kernel_rfl) (by kernel_rfl) (by kernel_rfl) (fun _ _ _ h => h) (Or.inl ⟨by kernel_rfl, fun u hSw => (by have q0 := hSw.2.1.cell 1; go_simp)⟩) hS ?_
              change wpAnyH _ _ _ _ _ _ _ (Act.put _ (some 41) _) _
              simp only [Act.put]
              try simp only [List.setIfInBounds_toArray, List.set_cons_zero, List.set_cons_succ]
              refine wpAnyH_take (i := 4) (v := .pointer (some ⟨w.heap.size, 0, none⟩)) rfl (by kernel_rfl) (by kernel_rfl) (by kernel_rfl) (fun _ _ _ h => h) (Or.inl ⟨by kernel_rfl, fun u hSw => (by go_simp)⟩) hS ?_
              change wpAnyH _ _ _ _ _ _ _ (Act.put _ (some 42) _) _
              simp only [Act.put]
              try simp only [List.setIfInBounds_toArray, List.set_cons_zero, List.set_cons_succ]
              refine wpAnyH_take (i := 5) (v := .int .i64 c) rfl (by kernel_rfl) (by kernel_rfl) (by kernel_rfl) (fun _ _ _ h => h) (Or.inl ⟨by kernel_rfl, fun u hSw => (by have q0 := hSw.2.1.cell 0; go_simp)⟩) hS ?_
              change wpAnyH _ _ _ _ _ _ _ (Act.put _ (some 43) _) _
              simp only [Act.put]
              try simp only [List.setIfInBounds_toArray, List.set_cons_zero, List.set_cons_succ]
              refine wpAnyH_take (i := 6) (v := .int .i64 d) rfl (by kernel_rfl) (by kernel_rfl) (by kernel_rfl) (fun _ _ _ h => h) (Or.inl ⟨by kernel_rfl, fun u hSw => (by go_simp)⟩) hS ?_
              change wpAnyH _ _ _ _ _ _ _ (Act.put _ (some 44) _) _
              simp only [Act.put]
              try simp only [List.setIfInBounds_toArray, List.set_cons_zero, List.set_cons_succ]
              refine wpAnyH_take (i := 7) (v := .int .i64 n) rfl (by kernel_rfl) (by kernel_rfl) (by kernel_rfl) (fun _ _ _ h => h) (Or.inl ⟨by kernel_rfl, fun u hSw => (by go_simp)⟩) hS ?_
              change wpAnyH _ _ _ _ _ _ _ (Act.put _ (some 45) _) _
              simp only [Act.put]
              try simp only [List.setIfInBounds_toArray, List.set_cons_zero, List.set_cons_succ]
              refine wpAnyH_ready (rs := [8]) (by kernel_rfl) (by simp) ?_
              refine AllReadyH.cons rfl (fun K hK => ?_) AllReadyH.nil
              go_simp
              refine (HB.out _).mono ?_
              rintro e1 w1 ⟨rfl, rfl⟩
              refine hK.out _ _ ⟨GB, K0, _, _, K1⟩ (fun hS => ?_)
              clear hK K
              refine wpAnyH_take (i := 9) (v := .func (.func 27) #[.int .i64 x] #[]) rfl (by kernel_rfl) (by kernel_rfl) (by kernel_rfl) (fun _ _ _ h => h) (Or.inl ⟨by kernel_rfl, fun u hSw => (by go_simp)⟩) hS ?_
              change wpAnyH _ _ _ _ _ _ _ (Act.put _ (some 47) _) _
              simp only [Act.put]
              try simp only [List.setIfInBounds_toArray, List.set_cons_zero, List.set_cons_succ]
              refine wpAnyH_ready (rs := [10]) (by kernel_rfl) (by simp) ?_
              refine AllReadyH.cons rfl (fun K hK => ?_) AllReadyH.nil
              go_simp
              refine (HF.out _).mono ?_
              rintro e2 w2 ⟨rfl, h9⟩
              replace K0 := K0.below h9 K0.lt
              replace K1 := K1.below h9 K1.lt
              replace GB := GB.trans (h9.mono GB.size)
              clear h9
              refine hK.out _ _ ⟨GB, K0, _, _, K1⟩ (fun hS => ?_)
              clear hK K
              refine wpAnyH_ready (rs := [11]) (by kernel_rfl) (by simp) ?_
              refine AllReadyH.cons rfl (fun K hK => ?_) AllReadyH.nil
              have d0 := K1.cell 0
              have d1 := K1.cell 1
              have f0 := K1.frozen 0
              have f1 := K1.frozen 1
              have HP := Lib.hid (put2 (x := .int .i64 c) (y := .int .i64 m) K1 GB (by omega))
              have K0f := (K0.far (p := ⟨w.heap.size + 1, 0, none⟩) (by simp) (.int .i64 c)).far (p := ⟨w.heap.size + 1, 1, none⟩) (by simp) (.int .i64 m)
              go_simp
              refine hK.out _ _ ⟨HP.out.2, K0f, _, _, HP.out.1⟩ (fun hS => ?_)
              clear hK K d0 d1 f0 f1 K1
              refine wpAnyH_take (i := 12) (v := .int .i64 0) rfl (by kernel_rfl) (by kernel_rfl) (by kernel_rfl) (fun _ _ _ h => h) (Or.inl ⟨by kernel_rfl, fun u hSw => (by go_simp)⟩) hS ?_
              change wpAnyH _ _ _ _ _ _ _ (Act.put _ (some 7) _) _
              simp only [Act.put]
              try simp only [List.setIfInBounds_toArray, List.set_cons_zero, List.set_cons_succ]
              refine wpAnyH_done (by kernel_rfl) ?_ _
              clear hS
              go_wp2_with fail
              exact bodyPost_ret (v := .tuple #[.agg #[.int .i64 c, .int .i64 m], .int .i64 0]) (results_cell_row_tmp Try.results10 _ _ _ _ _ _ rfl HP.out.1 Try.underlying23 rfl (by kernel_rfl)) rfl ⟨rfl, HP.out.2⟩
            | false =>
              go_enter Try.func10, Try.ntmps10
              have z00 := K0.cell 0
              have z01 := K0.cell 1
              go_wp2_with fail
              refine (HC.out _).mono ?_
              rintro e w1 ⟨rfl, h9⟩
              replace K0 := K0.below h9 K0.lt
              replace K1 := K1.below h9 K1.lt
              replace GB := GB.trans (h9.mono GB.size)
              clear h9 z00 z01
              have HIx := Lib.hid (HI.out w1)
              replace K0 := K0.alloc (.cells #[.int .i64 d, .int .i64 0, .int .i64 10000000, .int .i64 n, .int .i64 0, .int .i64 8] 50)
              replace K1 := K1.alloc (.cells #[.int .i64 d, .int .i64 0, .int .i64 10000000, .int .i64 n, .int .i64 0, .int .i64 8] 50)
              replace GB := GB.alloc GB.size (.cells #[.int .i64 d, .int .i64 0, .int .i64 10000000, .int .i64 n, .int .i64 0, .int .i64 8] 50)
              have z00 := K0.cell 0
              have z01 := K0.cell 1
              go_wp2_with fail
              refine (HIx.out).mono ?_
              rintro e w2 ⟨rfl, h9⟩
              replace K0 := K0.below h9 K0.lt
              replace K1 := K1.below h9 K1.lt
              replace GB := GB.trans (h9.mono GB.size)
              clear h9 z00 z01
              have z00 := K0.cell 0
              have z01 := K0.cell 1
              go_wp2_with fail
              refine (HU.out _).mono ?_
              rintro e w3 ⟨rfl, h9⟩
              replace K0 := K0.below h9 K0.lt
              replace K1 := K1.below h9 K1.lt
              replace GB := GB.trans (h9.mono GB.size)
              clear h9 z00 z01
              have z00 := K0.cell 0
              have z01 := K0.cell 1
              go_wp2_with fail
              refine (HD.out _).mono ?_
              rintro e w4 ⟨rfl, h9⟩
              replace K0 := K0.below h9 K0.lt
              replace K1 := K1.below h9 K1.lt
              replace GB := GB.trans (h9.mono GB.size)
              clear h9 z00 z01
              have z00 := K0.cell 0
              have z01 := K0.cell 1
              go_upto_region 9 with fail
              clear z00 z01
              replace K0 : Blk w4.drew _ _ _ := K0
              replace K1 : Blk w4.drew _ _ _ := K1
              replace GB := GB.drew
              refine wp_region_held_drew (S := fun u => Below w.heap.size w u ∧ Blk u w.heap.size 23 #[.int .i64 c, .int .i64 t] ∧ ∃ p q, Blk u (w.heap.size + 1) 23 #[.int .i64 p, .int .i64 q]) (by kernel_rfl) ⟨GB, K0, _, _, K1⟩ (fun hS => ?_)
              generalize w4.drew = V at K0 K1 GB hS ⊢
              refine wpAnyH_take (i := 0) (v := .pointer (some ⟨w.heap.size, 0, none⟩)) rfl (by kernel_rfl) (by kernel_rfl) (by kernel_rfl) (fun _ _ _ h => h) (Or.inl ⟨by kernel_rfl, fun u hSw => (by go_simp)⟩) hS ?_
              change wpAnyH _ _ _ _ _ _ _ (Act.put _ (some 38) _) _
              simp only [Act.put]
              try simp only [List.setIfInBounds_toArray, List.set_cons_zero, List.set_cons_succ]
              refine wpAnyH_take (i := 1) (v := .int .i64 c) rfl (by kernel_rfl) (by kernel_rfl) (by kernel_rfl) (fun _ _ _ h => h) (Or.inl ⟨by kernel_rfl, fun u hSw => (by have q0 := hSw.2.1.cell 0; go_simp)⟩) hS ?_
              change wpAnyH _ _ _ _ _ _ _ (Act.put _ (some 39) _) _
              simp only [Act.put]
              try simp only [List.setIfInBounds_toArray, List.set_cons_zero, List.set_cons_succ]
              refine wpAnyH_take (i := 2) (v := .pointer (some ⟨w.heap.size, 1, none⟩)) rfl (by kernel_rfl) (by kernel_rfl) (by kernel_rfl) (fun _ _ _ h => h) (Or.inl ⟨by kernel_rfl, fun u hSw => (by go_simp)⟩) hS ?_
              change wpAnyH _ _ _ _ _ _ _ (Act.put _ (some 40) _) _
              simp only [Act.put]
              try simp only [List.setIfInBounds_toArray, List.set_cons_zero, List.set_cons_succ]
              refine wpAnyH_take (i := 3) (v := .int .i64 t) rfl (by kernel_rfl) (by kernel_rfl) (by kernel_rfl) (fun _ _ _ h => h) (Or.inl ⟨by kernel_rfl, fun u hSw => (by have q0 := hSw.2.1.cell 1; go_simp)⟩) hS ?_
              change wpAnyH _ _ _ _ _ _ _ (Act.put _ (some 41) _) _
              simp only [Act.put]
              try simp only [List.setIfInBounds_toArray, List.set_cons_zero, List.set_cons_succ]
              refine wpAnyH_take (i := 4) (v := .pointer (some ⟨w.heap.size, 0, none⟩)) rfl (by kernel_rfl) (by kernel_rfl) (by kernel_rfl) (fun _ _ _ h => h) (Or.inl ⟨by kernel_rfl, fun u hSw => (by go_simp)⟩) hS ?_
              change wpAnyH _ _ _ _ _ _ _ (Act.put _ (some 42) _) _
              simp only [Act.put]
              try simp only [List.setIfInBounds_toArray, List.set_cons_zero, List.set_cons_succ]
              refine wpAnyH_take (i := 5) (v := .int .i64 c) rfl (by kernel_rfl) (by kernel_rfl) (by kernel_rfl) (fun _ _ _ h => h) (Or.inl ⟨by kernel_rfl, fun u hSw => (by have q0 := hSw.2.1.cell 0; go_simp)⟩) hS ?_
              change wpAnyH _ _ _ _ _ _ _ (Act.put _ (some 43) _) _
              simp only [Act.put]
              try simp only [List.setIfInBounds_toArray, List.set_cons_zero, List.set_cons_succ]
              refine wpAnyH_take (i := 6) (v := .int .i64 d) rfl (by kernel_rfl) (by kernel_rfl) (by kernel_rfl) (fun _ _ _ h => h) (Or.inl ⟨by kernel_rfl, fun u hSw => (by go_simp)⟩) hS ?_
              change wpAnyH _ _ _ _ _ _ _ (Act.put _ (some 44) _) _
              simp only [Act.put]
              try simp only [List.setIfInBounds_toArray, List.set_cons_zero, List.set_cons_succ]
              refine wpAnyH_take (i := 7) (v := .int .i64 n) rfl (by kernel_rfl) (by kernel_rfl) (by kernel_rfl) (fun _ _ _ h => h) (Or.inl ⟨by kernel_rfl, fun u hSw => (by go_simp)⟩) hS ?_
              change wpAnyH _ _ _ _ _ _ _ (Act.put _ (some 45) _) _
              simp only [Act.put]
              try simp only [List.setIfInBounds_toArray, List.set_cons_zero, List.set_cons_succ]
              refine wpAnyH_ready (rs := [8]) (by kernel_rfl) (by simp) ?_
              refine AllReadyH.cons rfl (fun K hK => ?_) AllReadyH.nil
              go_simp
              refine (HB.out _).mono ?_
              rintro e1 w1 ⟨rfl, rfl⟩
              refine hK.out _ _ ⟨GB, K0, _, _, K1⟩ (fun hS => ?_)
              clear hK K
              refine wpAnyH_take (i := 9) (v := .func (.func 27) #[.int .i64 x] #[]) rfl (by kernel_rfl) (by kernel_rfl) (by kernel_rfl) (fun _ _ _ h => h) (Or.inl ⟨by kernel_rfl, fun u hSw => (by go_simp)⟩) hS ?_
              change wpAnyH _ _ _ _ _ _ _ (Act.put _ (some 47) _) _
              simp only [Act.put]
              try simp only [List.setIfInBounds_toArray, List.set_cons_zero, List.set_cons_succ]
              refine wpAnyH_ready (rs := [10]) (by kernel_rfl) (by simp) ?_
              refine AllReadyH.cons rfl (fun K hK => ?_) AllReadyH.nil
              go_simp
              refine (HF.out _).mono ?_
              rintro e2 w2 ⟨rfl, h9⟩
              replace K0 := K0.below h9 K0.lt
              replace K1 := K1.below h9 K1.lt
              replace GB := GB.trans (h9.mono GB.size)
              clear h9
              refine hK.out _ _ ⟨GB, K0, _, _, K1⟩ (fun hS => ?_)
              clear hK K
              refine wpAnyH_ready (rs := [11]) (by kernel_rfl) (by simp) ?_
              refine AllReadyH.cons rfl (fun K hK => ?_) AllReadyH.nil
              have d0 := K1.cell 0
              have d1 := K1.cell 1
              have f0 := K1.frozen 0
              have f1 := K1.frozen 1
              have HP := Lib.hid (put2 (x := .int .i64 c) (y := .int .i64 m) K1 GB (by omega))
              have K0f := (K0.far (p := ⟨w.heap.size + 1, 0, none⟩) (by simp) (.int .i64 c)).far (p := ⟨w.heap.size + 1, 1, none⟩) (by simp) (.int .i64 m)
              go_simp
              refine hK.out _ _ ⟨HP.out.2, K0f, _, _, HP.out.1⟩ (fun hS => ?_)
              clear hK K d0 d1 f0 f1 K1
              refine wpAnyH_take (i := 12) (v := .int .i64 0) rfl (by kernel_rfl) (by kernel_rfl) (by kernel_rfl) (fun _ _ _ h => h) (Or.inl ⟨by kernel_rfl, fun u hSw => (by go_simp)⟩) hS ?_
              change wpAnyH _ _ _ _ _ _ _ (Act.put _ (some 7) _) _
              simp only [Act.put]
              try simp only [List.setIfInBounds_toArray, List.set_cons_zero, List.set_cons_succ]
              refine wpAnyH_done (by kernel_rfl) ?_ _
              clear hS
              go_wp2_with fail
              exact bodyPost_ret (v := .tuple #[.agg #[.int .i64 c, .int .i64 m], .int .i64 0]) (results_cell_row_tmp Try.results10 _ _ _ _ _ _ rfl HP.out.1 Try.underlying23 rfl (by kernel_rfl)) rfl ⟨rfl, HP.out.2⟩
        · have n1 : decide ((0 : Int) < n) = false := decide_eq_false hn
          rw [if_neg (by simp [n1])]
          have hM : Hid (minT (t + c * d - 100 * n * d) (c * 100000000) = minT (wrap64 (wrap64 (t + wrap64 (c * d)) - wrap64 (wrap64 (100 * n) * d))) (wrap64 (c * 100000000))) := Lib.hid (by
            have h0 := H1.out
            have m1 := mul_in (a := c) (b := d) (A := 800) (B := 10000000) (by omega) (by omega) (by omega) (by omega)
            have m2 := mul_in (a := 100 * n) (b := d) (A := 800) (B := 10000000) (by omega) (by omega) (by omega) (by omega)
            rw [w64 (n := c * d) (by omega) (by omega), w64 (n := 100 * n) (by omega) (by omega), w64 (n := 100 * n * d) (by omega) (by omega), w64 (n := t + c * d) (by omega) (by omega), w64 (n := t + c * d - 100 * n * d) (by omega) (by omega), w64 (n := c * 100000000) (by omega) (by omega)])
          rw [hM.out]
          have HB := Lib.hid (fun u => behind_any t c d n u)
          obtain ⟨x, hx⟩ : ∃ x, wrap64 (wrap64 (t + wrap64 (c * d)) - wrap64 (wrap64 (100 * n) * d)) = x := ⟨_, rfl⟩
          rw [hx] at HB ⊢
          have HF := Lib.hid (fun u => filled_any c x u)
          obtain ⟨m, hm⟩ : ∃ m, minT x (wrap64 (c * 100000000)) = m := ⟨_, rfl⟩
          rw [hm] at HF ⊢
          clear hM hx hm
          clear hn
          cases dr with
          | true =>
            go_enter Try.func10, Try.ntmps10
            have z00 := K0.cell 0
            have z01 := K0.cell 1
            go_wp2_with fail
            refine (HC.out _).mono ?_
            rintro e w1 ⟨rfl, h9⟩
            replace K0 := K0.below h9 K0.lt
            replace K1 := K1.below h9 K1.lt
            replace GB := GB.trans (h9.mono GB.size)
            clear h9 z00 z01
            have HIx := Lib.hid (HI.out w1)
            replace K0 := K0.alloc (.cells #[.int .i64 d, .int .i64 0, .int .i64 10000000, .int .i64 n, .int .i64 0, .int .i64 8] 50)
            replace K1 := K1.alloc (.cells #[.int .i64 d, .int .i64 0, .int .i64 10000000, .int .i64 n, .int .i64 0, .int .i64 8] 50)
            replace GB := GB.alloc GB.size (.cells #[.int .i64 d, .int .i64 0, .int .i64 10000000, .int .i64 n, .int .i64 0, .int .i64 8] 50)
            have z00 := K0.cell 0
            have z01 := K0.cell 1
            go_wp2_with fail
            refine (HIx.out).mono ?_
            rintro e w2 ⟨rfl, h9⟩
            replace K0 := K0.below h9 K0.lt
            replace K1 := K1.below h9 K1.lt
            replace GB := GB.trans (h9.mono GB.size)
            clear h9 z00 z01
            have z00 := K0.cell 0
            have z01 := K0.cell 1
            go_wp2_with fail
            refine (HU.out _).mono ?_
            rintro e w3 ⟨rfl, h9⟩
            replace K0 := K0.below h9 K0.lt
            replace K1 := K1.below h9 K1.lt
            replace GB := GB.trans (h9.mono GB.size)
            clear h9 z00 z01
            have z00 := K0.cell 0
            have z01 := K0.cell 1
            go_wp2_with fail
            refine (HD.out _).mono ?_
            rintro e w4 ⟨rfl, h9⟩
            replace K0 := K0.below h9 K0.lt
            replace K1 := K1.below h9 K1.lt
            replace GB := GB.trans (h9.mono GB.size)
            clear h9 z00 z01
            have z00 := K0.cell 0
            have z01 := K0.cell 1
            go_upto_region 9 with fail
            clear z00 z01
            replace K0 : Blk w4.drew _ _ _ := K0
            replace K1 : Blk w4.drew _ _ _ := K1
            replace GB := GB.drew
            refine wp_region_held_drew (S := fun u => Below w.heap.size w u ∧ Blk u w.heap.size 23 #[.int .i64 c, .int .i64 t] ∧ ∃ p q, Blk u (w.heap.size + 1) 23 #[.int .i64 p, .int .i64 q]) (by kernel_rfl) ⟨GB, K0, _, _, K1⟩ (fun hS => ?_)
            generalize w4.drew = V at K0 K1 GB hS ⊢
            refine wpAnyH_take (i := 0) (v := .pointer (some ⟨w.heap.size, 0, none⟩)) rfl (by kernel_rfl) (by kernel_rfl) (by kernel_rfl) (fun _ _ _ h => h) (Or.inl ⟨by kernel_rfl, fun u hSw => (by go_simp)⟩) hS ?_
            change wpAnyH _ _ _ _ _ _ _ (Act.put _ (some 38) _) _
            simp only [Act.put]
            try simp only [List.setIfInBounds_toArray, List.set_cons_zero, List.set_cons_succ]
            refine wpAnyH_take (i := 1) (v := .int .i64 c) rfl (by kernel_rfl) (by kernel_rfl) (by kernel_rfl) (fun _ _ _ h => h) (Or.inl ⟨by kernel_rfl, fun u hSw => (by have q0 := hSw.2.1.cell 0; go_simp)⟩) hS ?_
            change wpAnyH _ _ _ _ _ _ _ (Act.put _ (some 39) _) _
            simp only [Act.put]
            try simp only [List.setIfInBounds_toArray, List.set_cons_zero, List.set_cons_succ]
            refine wpAnyH_take (i := 2) (v := .pointer (some ⟨w.heap.size, 1, none⟩)) rfl (by kernel_rfl) (by kernel_rfl) (by kernel_rfl) (fun _ _ _ h => h) (Or.inl ⟨by kernel_rfl, fun u hSw => (by go_simp)⟩) hS ?_
            change wpAnyH _ _ _ _ _ _ _ (Act.put _ (some 40) _) _
            simp only [Act.put]
            try simp only [List.setIfInBounds_toArray, List.set_cons_zero, List.set_cons_succ]
            refine wpAnyH_take (i := 3) (v := .int .i64 t) rfl (by kernel_rfl) (by kernel_rfl) (by kernel_rfl) (fun _ _ _ h => h) (Or.inl ⟨by kernel_rfl, fun u hSw => (by have q0 := hSw.2.1.cell 1; go_simp)⟩) hS ?_
            change wpAnyH _ _ _ _ _ _ _ (Act.put _ (some 41) _) _
            simp only [Act.put]
            try simp only [List.setIfInBounds_toArray, List.set_cons_zero, List.set_cons_succ]
            refine wpAnyH_take (i := 4) (v := .pointer (some ⟨w.heap.size, 0, none⟩)) rfl (by kernel_rfl) (by kernel_rfl) (by kernel_rfl) (fun _ _ _ h => h) (Or.inl ⟨by kernel_rfl, fun u hSw => (by go_simp)⟩) hS ?_
            change wpAnyH _ _ _ _ _ _ _ (Act.put _ (some 42) _) _
            simp only [Act.put]
            try simp only [List.setIfInBounds_toArray, List.set_cons_zero, List.set_cons_succ]
            refine wpAnyH_take (i := 5) (v := .int .i64 c) rfl (by kernel_rfl) (by kernel_rfl) (by kernel_rfl) (fun _ _ _ h => h) (Or.inl ⟨by kernel_rfl, fun u hSw => (by have q0 := hSw.2.1.cell 0; go_simp)⟩) hS ?_
            change wpAnyH _ _ _ _ _ _ _ (Act.put _ (some 43) _) _
            simp only [Act.put]
            try simp only [List.setIfInBounds_toArray, List.set_cons_zero, List.set_cons_succ]
            refine wpAnyH_take (i := 6) (v := .int .i64 d) rfl (by kernel_rfl) (by kernel_rfl) (by kernel_rfl) (fun _ _ _ h => h) (Or.inl ⟨by kernel_rfl, fun u hSw => (by go_simp)⟩) hS ?_
            change wpAnyH _ _ _ _ _ _ _ (Act.put _ (some 44) _) _
            simp only [Act.put]
            try simp only [List.setIfInBounds_toArray, List.set_cons_zero, List.set_cons_succ]
            refine wpAnyH_take (i := 7) (v := .int .i64 n) rfl (by kernel_rfl) (by kernel_rfl) (by kernel_rfl) (fun _ _ _ h => h) (Or.inl ⟨by kernel_rfl, fun u hSw => (by go_simp)⟩) hS ?_
            change wpAnyH _ _ _ _ _ _ _ (Act.put _ (some 45) _) _
            simp only [Act.put]
            try simp only [List.setIfInBounds_toArray, List.set_cons_zero, List.set_cons_succ]
            refine wpAnyH_ready (rs := [8]) (by kernel_rfl) (by simp) ?_
            refine AllReadyH.cons rfl (fun K hK => ?_) AllReadyH.nil
            go_simp
            refine (HB.out _).mono ?_
            rintro e1 w1 ⟨rfl, rfl⟩
            refine hK.out _ _ ⟨GB, K0, _, _, K1⟩ (fun hS => ?_)
            clear hK K
            refine wpAnyH_take (i := 9) (v := .func (.func 27) #[.int .i64 x] #[]) rfl (by kernel_rfl) (by kernel_rfl) (by kernel_rfl) (fun _ _ _ h => h) (Or.inl ⟨by kernel_rfl, fun u hSw => (by go_simp)⟩) hS ?_
            change wpAnyH _ _ _ _ _ _ _ (Act.put _ (some 47) _) _
            simp only [Act.put]
            try simp only [List.setIfInBounds_toArray, List.set_cons_zero, List.set_cons_succ]
            refine wpAnyH_ready (rs := [10]) (by kernel_rfl) (by simp) ?_
            refine AllReadyH.cons rfl (fun K hK => ?_) AllReadyH.nil
            go_simp
            refine (HF.out _).mono ?_
            rintro e2 w2 ⟨rfl, h9⟩
            replace K0 := K0.below h9 K0.lt
            replace K1 := K1.below h9 K1.lt
            replace GB := GB.trans (h9.mono GB.size)
            clear h9
            refine hK.out _ _ ⟨GB, K0, _, _, K1⟩ (fun hS => ?_)
            clear hK K
            refine wpAnyH_ready (rs := [11]) (by kernel_rfl) (by simp) ?_
            refine AllReadyH.cons rfl (fun K hK => ?_) AllReadyH.nil
            have d0 := K1.cell 0
            have d1 := K1.cell 1
            have f0 := K1.frozen 0
            have f1 := K1.frozen 1
            have HP := Lib.hid (put2 (x := .int .i64 c) (y := .int .i64 m) K1 GB (by omega))
            have K0f := (K0.far (p := ⟨w.heap.size + 1, 0, none⟩) (by simp) (.int .i64 c)).far (p := ⟨w.heap.size + 1, 1, none⟩) (by simp) (.int .i64 m)
            go_simp
            refine hK.out _ _ ⟨HP.out.2, K0f, _, _, HP.out.1⟩ (fun hS => ?_)
            clear hK K d0 d1 f0 f1 K1
            refine wpAnyH_take (i := 12) (v := .int .i64 0) rfl (by kernel_rfl) (by kernel_rfl) (by kernel_rfl) (fun _ _ _ h => h) (Or.inl ⟨by kernel_rfl, fun u hSw => (by go_simp)⟩) hS ?_
            change wpAnyH _ _ _ _ _ _ _ (Act.put _ (some 7) _) _
            simp only [Act.put]
            try simp only [List.setIfInBounds_toArray, List.set_cons_zero, List.set_cons_succ]
            refine wpAnyH_done (by kernel_rfl) ?_ _
            clear hS
            go_wp2_with fail
            exact bodyPost_ret (v := .tuple #[.agg #[.int .i64 c, .int .i64 m], .int .i64 0]) (results_cell_row_tmp Try.results10 _ _ _ _ _ _ rfl HP.out.1 Try.underlying23 rfl (by kernel_rfl)) rfl ⟨rfl, HP.out.2⟩
          | false =>
            go_enter Try.func10, Try.ntmps10
            have z00 := K0.cell 0
            have z01 := K0.cell 1
            go_wp2_with fail
            refine (HC.out _).mono ?_
            rintro e w1 ⟨rfl, h9⟩
            replace K0 := K0.below h9 K0.lt
            replace K1 := K1.below h9 K1.lt
            replace GB := GB.trans (h9.mono GB.size)
            clear h9 z00 z01
            have HIx := Lib.hid (HI.out w1)
            replace K0 := K0.alloc (.cells #[.int .i64 d, .int .i64 0, .int .i64 10000000, .int .i64 n, .int .i64 0, .int .i64 8] 50)
            replace K1 := K1.alloc (.cells #[.int .i64 d, .int .i64 0, .int .i64 10000000, .int .i64 n, .int .i64 0, .int .i64 8] 50)
            replace GB := GB.alloc GB.size (.cells #[.int .i64 d, .int .i64 0, .int .i64 10000000, .int .i64 n, .int .i64 0, .int .i64 8] 50)
            have z00 := K0.cell 0
            have z01 := K0.cell 1
            go_wp2_with fail
            refine (HIx.out).mono ?_
            rintro e w2 ⟨rfl, h9⟩
            replace K0 := K0.below h9 K0.lt
            replace K1 := K1.below h9 K1.lt
            replace GB := GB.trans (h9.mono GB.size)
            clear h9 z00 z01
            have z00 := K0.cell 0
            have z01 := K0.cell 1
            go_wp2_with fail
            refine (HU.out _).mono ?_
            rintro e w3 ⟨rfl, h9⟩
            replace K0 := K0.below h9 K0.lt
            replace K1 := K1.below h9 K1.lt
            replace GB := GB.trans (h9.mono GB.size)
            clear h9 z00 z01
            have z00 := K0.cell 0
            have z01 := K0.cell 1
            go_wp2_with fail
            refine (HD.out _).mono ?_
            rintro e w4 ⟨rfl, h9⟩
            replace K0 := K0.below h9 K0.lt
            replace K1 := K1.below h9 K1.lt
            replace GB := GB.trans (h9.mono GB.size)
            clear h9 z00 z01
            have z00 := K0.cell 0
            have z01 := K0.cell 1
            go_upto_region 9 with fail
            clear z00 z01
            replace K0 : Blk w4.drew _ _ _ := K0
            replace K1 : Blk w4.drew _ _ _ := K1
            replace GB := GB.drew
            refine wp_region_held_drew (S := fun u => Below w.heap.size w u ∧ Blk u w.heap.size 23 #[.int .i64 c, .int .i64 t] ∧ ∃ p q, Blk u (w.heap.size + 1) 23 #[.int .i64 p, .int .i64 q]) (by kernel_rfl) ⟨GB, K0, _, _, K1⟩ (fun hS => ?_)
            generalize w4.drew = V at K0 K1 GB hS ⊢
            refine wpAnyH_take (i := 0) (v := .pointer (some ⟨w.heap.size, 0, none⟩)) rfl (by kernel_rfl) (by kernel_rfl) (by kernel_rfl) (fun _ _ _ h => h) (Or.inl ⟨by kernel_rfl, fun u hSw => (by go_simp)⟩) hS ?_
            change wpAnyH _ _ _ _ _ _ _ (Act.put _ (some 38) _) _
            simp only [Act.put]
            try simp only [List.setIfInBounds_toArray, List.set_cons_zero, List.set_cons_succ]
            refine wpAnyH_take (i := 1) (v := .int .i64 c) rfl (by kernel_rfl) (by kernel_rfl) (by kernel_rfl) (fun _ _ _ h => h) (Or.inl ⟨by kernel_rfl, fun u hSw => (by have q0 := hSw.2.1.cell 0; go_simp)⟩) hS ?_
            change wpAnyH _ _ _ _ _ _ _ (Act.put _ (some 39) _) _
            simp only [Act.put]
            try simp only [List.setIfInBounds_toArray, List.set_cons_zero, List.set_cons_succ]
            refine wpAnyH_take (i := 2) (v := .pointer (some ⟨w.heap.size, 1, none⟩)) rfl (by kernel_rfl) (by kernel_rfl) (by kernel_rfl) (fun _ _ _ h => h) (Or.inl ⟨by kernel_rfl, fun u hSw => (by go_simp)⟩) hS ?_
            change wpAnyH _ _ _ _ _ _ _ (Act.put _ (some 40) _) _
            simp only [Act.put]
            try simp only [List.setIfInBounds_toArray, List.set_cons_zero, List.set_cons_succ]
            refine wpAnyH_take (i := 3) (v := .int .i64 t) rfl (by kernel_rfl) (by kernel_rfl) (by kernel_rfl) (fun _ _ _ h => h) (Or.inl ⟨by kernel_rfl, fun u hSw => (by have q0 := hSw.2.1.cell 1; go_simp)⟩) hS ?_
            change wpAnyH _ _ _ _ _ _ _ (Act.put _ (some 41) _) _
            simp only [Act.put]
            try simp only [List.setIfInBounds_toArray, List.set_cons_zero, List.set_cons_succ]
            refine wpAnyH_take (i := 4) (v := .pointer (some ⟨w.heap.size, 0, none⟩)) rfl (by kernel_rfl) (by kernel_rfl) (by kernel_rfl) (fun _ _ _ h => h) (Or.inl ⟨by kernel_rfl, fun u hSw => (by go_simp)⟩) hS ?_
            change wpAnyH _ _ _ _ _ _ _ (Act.put _ (some 42) _) _
            simp only [Act.put]
            try simp only [List.setIfInBounds_toArray, List.set_cons_zero, List.set_cons_succ]
            refine wpAnyH_take (i := 5) (v := .int .i64 c) rfl (by kernel_rfl) (by kernel_rfl) (by kernel_rfl) (fun _ _ _ h => h) (Or.inl ⟨by kernel_rfl, fun u hSw => (by have q0 := hSw.2.1.cell 0; go_simp)⟩) hS ?_
            change wpAnyH _ _ _ _ _ _ _ (Act.put _ (some 43) _) _
            simp only [Act.put]
            try simp only [List.setIfInBounds_toArray, List.set_cons_zero, List.set_cons_succ]
            refine wpAnyH_take (i := 6) (v := .int .i64 d) rfl (by kernel_rfl) (by kernel_rfl) (by kernel_rfl) (fun _ _ _ h => h) (Or.inl ⟨by kernel_rfl, fun u hSw => (by go_simp)⟩) hS ?_
            change wpAnyH _ _ _ _ _ _ _ (Act.put _ (some 44) _) _
            simp only [Act.put]
            try simp only [List.setIfInBounds_toArray, List.set_cons_zero, List.set_cons_succ]
            refine wpAnyH_take (i := 7) (v := .int .i64 n) rfl (by kernel_rfl) (by kernel_rfl) (by kernel_rfl) (fun _ _ _ h => h) (Or.inl ⟨by kernel_rfl, fun u hSw => (by go_simp)⟩) hS ?_
            change wpAnyH _ _ _ _ _ _ _ (Act.put _ (some 45) _) _
            simp only [Act.put]
            try simp only [List.setIfInBounds_toArray, List.set_cons_zero, List.set_cons_succ]
            refine wpAnyH_ready (rs := [8]) (by kernel_rfl) (by simp) ?_
            refine AllReadyH.cons rfl (fun K hK => ?_) AllReadyH.nil
            go_simp
            refine (HB.out _).mono ?_
            rintro e1 w1 ⟨rfl, rfl⟩
            refine hK.out _ _ ⟨GB, K0, _, _, K1⟩ (fun hS => ?_)
            clear hK K
            refine wpAnyH_take (i := 9) (v := .func (.func 27) #[.int .i64 x] #[]) rfl (by kernel_rfl) (by kernel_rfl) (by kernel_rfl) (fun _ _ _ h => h) (Or.inl ⟨by kernel_rfl, fun u hSw => (by go_simp)⟩) hS ?_
            change wpAnyH _ _ _ _ _ _ _ (Act.put _ (some 47) _) _
            simp only [Act.put]
            try simp only [List.setIfInBounds_toArray, List.set_cons_zero, List.set_cons_succ]
            refine wpAnyH_ready (rs := [10]) (by kernel_rfl) (by simp) ?_
            refine AllReadyH.cons rfl (fun K hK => ?_) AllReadyH.nil
            go_simp
            refine (HF.out _).mono ?_
            rintro e2 w2 ⟨rfl, h9⟩
            replace K0 := K0.below h9 K0.lt
            replace K1 := K1.below h9 K1.lt
            replace GB := GB.trans (h9.mono GB.size)
            clear h9
            refine hK.out _ _ ⟨GB, K0, _, _, K1⟩ (fun hS => ?_)
            clear hK K
            refine wpAnyH_ready (rs := [11]) (by kernel_rfl) (by simp) ?_
            refine AllReadyH.cons rfl (fun K hK => ?_) AllReadyH.nil
            have d0 := K1.cell 0
            have d1 := K1.cell 1
            have f0 := K1.frozen 0
            have f1 := K1.frozen 1
            have HP := Lib.hid (put2 (x := .int .i64 c) (y := .int .i64 m) K1 GB (by omega))
            have K0f := (K0.far (p := ⟨w.heap.size + 1, 0, none⟩) (by simp) (.int .i64 c)).far (p := ⟨w.heap.size + 1, 1, none⟩) (by simp) (.int .i64 m)
            go_simp
            refine hK.out _ _ ⟨HP.out.2, K0f, _, _, HP.out.1⟩ (fun hS => ?_)
            clear hK K d0 d1 f0 f1 K1
            refine wpAnyH_take (i := 12) (v := .int .i64 0) rfl (by kernel_rfl) (by kernel_rfl) (by kernel_rfl) (fun _ _ _ h => h) (Or.inl ⟨by kernel_rfl, fun u hSw => (by go_simp)⟩) hS ?_
            change wpAnyH _ _ _ _ _ _ _ (Act.put _ (some 7) _) _
            simp only [Act.put]
            try simp only [List.setIfInBounds_toArray, List.set_cons_zero, List.set_cons_succ]
            refine wpAnyH_done (by kernel_rfl) ?_ _
            clear hS
            go_wp2_with fail
            exact bodyPost_ret (v := .tuple #[.agg #[.int .i64 c, .int .i64 m], .int .i64 0]) (results_cell_row_tmp Try.results10 _ _ _ _ _ _ rfl HP.out.1 Try.underlying23 rfl (by kernel_rfl)) rfl ⟨rfl, HP.out.2⟩

set_option maxRecDepth 100000 in
set_option maxHeartbeats 8000000 in
theorem change_any (c t p : Int) (w : World) : Calls Try.prog 20 #[.agg #[.int .i64 c, .int .i64 t], .int .i64 p] w (Said (bkE (changeV c t p).1 (changeV c t p).2) w) := by
  obtain ⟨K0, K1, GB⟩ := blks2 w 23 23 #[.int .i64 c, .int .i64 t] #[.int .i64 0, .int .i64 0]
  have HC := Lib.hid (fun u => check_any c t u)
  have HU := Lib.hid (fun u => uncapped_any c t u)
  have HK := Lib.hid (fun u => iscap_any p u)
  have HN := Lib.hid (fun u => new_any p u)
  unfold chk at HC
  unfold bkE at HN ⊢
  cases hr : rightB c t with
  | false =>
    have HV : Hid (changeV c t p = ((0, 0), 210)) := Lib.hid (by unfold changeV; rw [hr, if_neg (by simp)])
    rw [hr, if_neg (by simp)] at HC
    rw [HV.out]
    clear hr
    go_enter Try.func20, Try.ntmps20
    have z00 := K0.cell 0
    have z01 := K0.cell 1
    go_wp2_with fail
    refine (HC.out _).mono ?_
    rintro e w1 ⟨rfl, h9⟩
    replace K0 := K0.below h9 K0.lt
    replace K1 := K1.below h9 K1.lt
    replace GB := GB.trans (h9.mono GB.size)
    clear h9 z00 z01
    have d0 := K1.cell 0
    have d1 := K1.cell 1
    have f0 := K1.frozen 0
    have f1 := K1.frozen 1
    have HP := Lib.hid (put2 (x := .int .i64 0) (y := .int .i64 0) K1 GB (by simp <;> omega))
    clear K1 GB
    go_wp2_with fail
    exact bodyPost_ret (v := .tuple #[.agg #[.int .i64 0, .int .i64 0], .int .i64 210]) (results_cell_row_tmp Try.results20 _ _ _ _ _ _ rfl HP.out.1 Try.underlying23 rfl (by kernel_rfl)) rfl ⟨rfl, HP.out.2⟩
  | true =>
    have hR := right_of hr
    rw [hr, if_pos rfl] at HC
    by_cases hc : c = 0
    · have hz : c = 0 ∧ t = 0 := by omega
      rw [show (c == 0 && t == 0) = true by simp [hz]] at HU
      have HV : changeV c t p = newV p := by unfold changeV newV; rw [hr, if_pos rfl, if_pos (show c = 0 ∨ p = 0 from .inl hc)]
      rw [HV]
      obtain ⟨⟨⟨a, b⟩, E⟩, hN⟩ : ∃ x, newV p = x := ⟨_, rfl⟩
      rw [hN] at HN ⊢
      clear HV hN hz hc hr hR
      go_enter Try.func20, Try.ntmps20
      have z00 := K0.cell 0
      have z01 := K0.cell 1
      go_wp2_with fail
      refine (HC.out _).mono ?_
      rintro e w1 ⟨rfl, h9⟩
      replace K0 := K0.below h9 K0.lt
      replace K1 := K1.below h9 K1.lt
      replace GB := GB.trans (h9.mono GB.size)
      clear h9 z00 z01
      have z00 := K0.cell 0
      have z01 := K0.cell 1
      go_wp2_with fail
      refine (HU.out _).mono ?_
      rintro e w2 ⟨rfl, h9⟩
      replace K0 := K0.below h9 K0.lt
      replace K1 := K1.below h9 K1.lt
      replace GB := GB.trans (h9.mono GB.size)
      clear h9 z00 z01
      have z00 := K0.cell 0
      have z01 := K0.cell 1
      go_wp2_with fail
      refine (HN.out _).mono ?_
      rintro e w3 ⟨rfl, h9⟩
      replace K0 := K0.below h9 K0.lt
      replace K1 := K1.below h9 K1.lt
      replace GB := GB.trans (h9.mono GB.size)
      clear h9 z00 z01
      have d0 := K1.cell 0
      have d1 := K1.cell 1
      have f0 := K1.frozen 0
      have f1 := K1.frozen 1
      have HP := Lib.hid (put2 (x := .int .i64 a) (y := .int .i64 b) K1 GB (by simp <;> omega))
      clear K1 GB
      go_wp2_with fail
      exact bodyPost_ret (v := .tuple #[.agg #[.int .i64 a, .int .i64 b], .int .i64 E]) (results_cell_row_tmp Try.results20 _ _ _ _ _ _ rfl HP.out.1 Try.underlying23 rfl (by kernel_rfl)) rfl ⟨rfl, HP.out.2⟩
    · rw [show (c == 0 && t == 0) = false by simp; exact fun h1 => absurd h1 hc] at HU
      by_cases hp : p = 0
      · have HV : changeV c t p = newV p := by unfold changeV newV; rw [hr, if_pos rfl, if_pos (show c = 0 ∨ p = 0 from .inr hp)]
        have p1 : (p == 0) = true := by simp [hp]
        rw [HV]
        obtain ⟨⟨⟨a, b⟩, E⟩, hN⟩ : ∃ x, newV p = x := ⟨_, rfl⟩
        rw [hN] at HN ⊢
        clear HV hN hp hc hr hR
        go_enter Try.func20, Try.ntmps20
        have z00 := K0.cell 0
        have z01 := K0.cell 1
        go_wp2_with fail
        refine (HC.out _).mono ?_
        rintro e w1 ⟨rfl, h9⟩
        replace K0 := K0.below h9 K0.lt
        replace K1 := K1.below h9 K1.lt
        replace GB := GB.trans (h9.mono GB.size)
        clear h9 z00 z01
        have z00 := K0.cell 0
        have z01 := K0.cell 1
        go_wp2_with fail
        refine (HU.out _).mono ?_
        rintro e w2 ⟨rfl, h9⟩
        replace K0 := K0.below h9 K0.lt
        replace K1 := K1.below h9 K1.lt
        replace GB := GB.trans (h9.mono GB.size)
        clear h9 z00 z01
        have z00 := K0.cell 0
        have z01 := K0.cell 1
        go_wp2_with fail
        refine (HN.out _).mono ?_
        rintro e w3 ⟨rfl, h9⟩
        replace K0 := K0.below h9 K0.lt
        replace K1 := K1.below h9 K1.lt
        replace GB := GB.trans (h9.mono GB.size)
        clear h9 z00 z01
        have d0 := K1.cell 0
        have d1 := K1.cell 1
        have f0 := K1.frozen 0
        have f1 := K1.frozen 1
        have HP := Lib.hid (put2 (x := .int .i64 a) (y := .int .i64 b) K1 GB (by simp <;> omega))
        clear K1 GB
        go_wp2_with fail
        exact bodyPost_ret (v := .tuple #[.agg #[.int .i64 a, .int .i64 b], .int .i64 E]) (results_cell_row_tmp Try.results20 _ _ _ _ _ _ rfl HP.out.1 Try.underlying23 rfl (by kernel_rfl)) rfl ⟨rfl, HP.out.2⟩
      · have p1 : (p == 0) = false := by simp [hp]
        cases hk : capB p with
        | false =>
          have HV : Hid (changeV c t p = ((0, 0), 2)) := Lib.hid (by unfold changeV; rw [hr, if_pos rfl, hk, if_neg (by simp)])
          rw [hk] at HK
          rw [HV.out]
          clear hr hR hc hp hk
          go_enter Try.func20, Try.ntmps20
          have z00 := K0.cell 0
          have z01 := K0.cell 1
          go_wp2_with fail
          refine (HC.out _).mono ?_
          rintro e w1 ⟨rfl, h9⟩
          replace K0 := K0.below h9 K0.lt
          replace K1 := K1.below h9 K1.lt
          replace GB := GB.trans (h9.mono GB.size)
          clear h9 z00 z01
          have z00 := K0.cell 0
          have z01 := K0.cell 1
          go_wp2_with fail
          refine (HU.out _).mono ?_
          rintro e w2 ⟨rfl, h9⟩
          replace K0 := K0.below h9 K0.lt
          replace K1 := K1.below h9 K1.lt
          replace GB := GB.trans (h9.mono GB.size)
          clear h9 z00 z01
          have z00 := K0.cell 0
          have z01 := K0.cell 1
          go_wp2_with fail
          refine (HK.out _).mono ?_
          rintro e w3 ⟨rfl, h9⟩
          replace K0 := K0.below h9 K0.lt
          replace K1 := K1.below h9 K1.lt
          replace GB := GB.trans (h9.mono GB.size)
          clear h9 z00 z01
          have d0 := K1.cell 0
          have d1 := K1.cell 1
          have f0 := K1.frozen 0
          have f1 := K1.frozen 1
          have HP := Lib.hid (put2 (x := .int .i64 0) (y := .int .i64 0) K1 GB (by simp <;> omega))
          clear K1 GB
          go_wp2_with fail
          exact bodyPost_ret (v := .tuple #[.agg #[.int .i64 0, .int .i64 0], .int .i64 2]) (results_cell_row_tmp Try.results20 _ _ _ _ _ _ rfl HP.out.1 Try.underlying23 rfl (by kernel_rfl)) rfl ⟨rfl, HP.out.2⟩
        | true =>
          have hq : 0 ≤ p ∧ p ≤ 800 := of_decide_eq_true hk
          have HF := Lib.hid (fun u => filled_any p t u)
          rw [w64 (n := p * 100000000) (by omega) (by omega)] at HF
          have HV : changeV c t p = ((p, minT t (p * 100000000)), 0) := by unfold changeV; rw [hr, if_pos rfl, hk, if_pos rfl, if_neg (by omega)]
          rw [hk] at HK
          rw [HV]
          obtain ⟨m, hm⟩ : ∃ m, minT t (p * 100000000) = m := ⟨_, rfl⟩
          rw [hm] at HF ⊢
          clear hr hR hc hp hk hq HV hm
          go_enter Try.func20, Try.ntmps20
          have z00 := K0.cell 0
          have z01 := K0.cell 1
          go_wp2_with fail
          refine (HC.out _).mono ?_
          rintro e w1 ⟨rfl, h9⟩
          replace K0 := K0.below h9 K0.lt
          replace K1 := K1.below h9 K1.lt
          replace GB := GB.trans (h9.mono GB.size)
          clear h9 z00 z01
          have z00 := K0.cell 0
          have z01 := K0.cell 1
          go_wp2_with fail
          refine (HU.out _).mono ?_
          rintro e w2 ⟨rfl, h9⟩
          replace K0 := K0.below h9 K0.lt
          replace K1 := K1.below h9 K1.lt
          replace GB := GB.trans (h9.mono GB.size)
          clear h9 z00 z01
          have z00 := K0.cell 0
          have z01 := K0.cell 1
          go_wp2_with fail
          refine (HK.out _).mono ?_
          rintro e w3 ⟨rfl, h9⟩
          replace K0 := K0.below h9 K0.lt
          replace K1 := K1.below h9 K1.lt
          replace GB := GB.trans (h9.mono GB.size)
          clear h9 z00 z01
          have z00 := K0.cell 0
          have z01 := K0.cell 1
          go_wp2_with fail
          refine (HF.out _).mono ?_
          rintro e w4 ⟨rfl, h9⟩
          replace K0 := K0.below h9 K0.lt
          replace K1 := K1.below h9 K1.lt
          replace GB := GB.trans (h9.mono GB.size)
          clear h9 z00 z01
          have d0 := K1.cell 0
          have d1 := K1.cell 1
          have f0 := K1.frozen 0
          have f1 := K1.frozen 1
          have HP := Lib.hid (put2 (x := .int .i64 p) (y := .int .i64 m) K1 GB (by simp <;> omega))
          clear K1 GB
          go_wp2_with fail
          exact bodyPost_ret (v := .tuple #[.agg #[.int .i64 p, .int .i64 m], .int .i64 0]) (results_cell_row_tmp Try.results20 _ _ _ _ _ _ rfl HP.out.1 Try.underlying23 rfl (by kernel_rfl)) rfl ⟨rfl, HP.out.2⟩

end Go.Proofs.Ytcdbkfmdilimaaa
