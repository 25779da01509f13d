/-
  The landed bucket: Depth, Dry, isCap, New, Wait, Bound, Pass, Change. No statement is proved here.
-/
import Derived.Test.YtcdbkfmdilimaaaBb
namespace Go.Proofs.Ytcdbkfmdilimaaa
open Go.RowKit

set_option maxRecDepth 100000 in
set_option maxHeartbeats 2000000 in
theorem bdepth_any (c t : Int) (w : World) : Calls Try.prog 15 #[.agg #[.int .i64 c, .int .i64 t]] w (Said (.int .i64 (if rightB c t = true then wrap64 (c * 100000000) else 0)) w) := by
  obtain ⟨K0, GB⟩ := box1 w 23 #[.int .i64 c, .int .i64 t]
  have z0 := K0.cell 0
  have z1 := K0.cell 1
  have HC := Lib.hid (fun u => check_any c t u)
  have HD := Lib.hid (fun u => depth_any c u)
  obtain ⟨m, hm⟩ : ∃ m, wrap64 (c * 100000000) = m := ⟨_, rfl⟩
  rw [hm] at HD ⊢
  unfold chk at HC
  clear hm
  cases hr : rightB c t with
  | false =>
    rw [hr, if_neg (by simp)] at HC
    rw [if_neg (by simp)]
    clear hr
    go_enter Try.func15, Try.ntmps15
    go_wp2_with fail
    refine (HC.out _).mono ?_
    rintro e w1 ⟨rfl, h9⟩
    replace K0 := K0.below h9 K0.lt
    replace GB := GB.trans (h9.mono GB.size)
    have y0 := K0.cell 0
    have y1 := K0.cell 1
    clear h9 z0 z1
    have HE := Lib.hid GB
    clear GB K0
    go_wp2
    go_ret
    exact ⟨rfl, HE.out⟩
  | true =>
    rw [hr, if_pos rfl] at HC
    rw [if_pos rfl]
    clear hr
    go_enter Try.func15, Try.ntmps15
    go_wp2_with fail
    refine (HC.out _).mono ?_
    rintro e w1 ⟨rfl, h9⟩
    replace K0 := K0.below h9 K0.lt
    replace GB := GB.trans (h9.mono GB.size)
    have y0 := K0.cell 0
    have y1 := K0.cell 1
    clear h9 z0 z1
    have HE := Lib.hid GB
    clear GB K0
    go_wp2_with fail
    refine (HD.out _).mono ?_
    rintro e w2 ⟨rfl, rfl⟩
    go_wp2
    go_ret
    exact ⟨rfl, HE.out⟩

set_option maxRecDepth 100000 in
set_option maxHeartbeats 4000000 in
theorem dry_any (c t : Int) (w : World) : Calls Try.prog 16 #[.agg #[.int .i64 c, .int .i64 t]] w (Said (.bool (dryB c t)) w) := by
  obtain ⟨K0, GB⟩ := box1 w 23 #[.int .i64 c, .int .i64 t]
  have z0 := K0.cell 0
  have z1 := K0.cell 1
  have HC := Lib.hid (fun u => check_any c t u)
  have HU := Lib.hid (fun u => uncapped_any c t u)
  have HS := Lib.hid (fun u => some_any t u)
  unfold chk at HC
  cases hr : rightB c t with
  | false =>
    have HV : Hid (dryB c t = false) := Lib.hid (by unfold dryB; rw [hr]; rfl)
    rw [hr, if_neg (by simp)] at HC
    clear hr
    go_enter Try.func16, Try.ntmps16
    go_wp2_with fail
    refine (HC.out _).mono ?_
    rintro e w1 ⟨rfl, h9⟩
    replace K0 := K0.below h9 K0.lt
    replace GB := GB.trans (h9.mono GB.size)
    have y0 := K0.cell 0
    have y1 := K0.cell 1
    clear h9 z0 z1
    have HE := Lib.hid GB
    clear GB K0
    go_wp2
    go_ret
    exact ⟨retB HV.out.symm, HE.out⟩
  | true =>
    have hR := right_of hr
    rw [hr, if_pos rfl] at HC
    by_cases hz : c = 0 ∧ t = 0
    · have HV : Hid (dryB c t = false) := Lib.hid (by unfold dryB; rw [hr]; simp [hz])
      rw [show (c == 0 && t == 0) = true by simp [hz]] at HU
      clear hr hR hz
      go_enter Try.func16, Try.ntmps16
      go_wp2_with fail
      refine (HC.out _).mono ?_
      rintro e w1 ⟨rfl, h9⟩
      replace K0 := K0.below h9 K0.lt
      replace GB := GB.trans (h9.mono GB.size)
      have y0 := K0.cell 0
      have y1 := K0.cell 1
      clear h9 z0 z1
      go_wp2_with fail
      refine (HU.out _).mono ?_
      rintro e w2 ⟨rfl, h9⟩
      have HE := Lib.hid (GB.trans (h9.mono GB.size))
      clear h9 y0 y1 K0 GB
      go_wp2
      go_ret
      exact ⟨retB HV.out.symm, HE.out⟩
    · have HV : Hid (dryB c t = !decide (0 < t)) := Lib.hid (by
        unfold dryB
        have h0 : 0 < c := by omega
        rw [hr, decide_eq_true h0]
        simp only [Bool.true_and]
        by_cases h : 0 < t
        · rw [decide_eq_true h, decide_eq_false (by omega)]; rfl
        · rw [decide_eq_false h, decide_eq_true (by omega)]; rfl)
      rw [show (c == 0 && t == 0) = false by simp; exact fun h1 h2 => hz ⟨h1, h2⟩] at HU
      obtain ⟨q, hq⟩ : ∃ q, decide (0 < t) = q := ⟨_, rfl⟩
      rw [hq] at HV HS
      clear hr hR hz hq
      go_enter Try.func16, Try.ntmps16
      go_wp2_with fail
      refine (HC.out _).mono ?_
      rintro e w1 ⟨rfl, h9⟩
      replace K0 := K0.below h9 K0.lt
      replace GB := GB.trans (h9.mono GB.size)
      have y0 := K0.cell 0
      have y1 := K0.cell 1
      clear h9 z0 z1
      go_wp2_with fail
      refine (HU.out _).mono ?_
      rintro e w2 ⟨rfl, h9⟩
      replace K0 := K0.below h9 K0.lt
      have HE := Lib.hid (GB.trans (h9.mono GB.size))
      clear h9 y0 y1
      have x1 := K0.cell 1
      clear K0 GB
      go_wp2_with fail
      refine (HS.out _).mono ?_
      rintro e w3 ⟨rfl, rfl⟩
      cases q <;> (go_wp2; go_ret; exact ⟨retB HV.out.symm, HE.out⟩)

def capB (p : Int) : Bool := decide (0 ≤ p ∧ p ≤ 800)
set_option maxRecDepth 100000 in
set_option maxHeartbeats 2000000 in
theorem iscap_any (p : Int) (w : World) : Calls Try.prog 30 #[.int .i64 p] w (Said (.bool (capB p)) w) := by
  have HI : Hid (∀ X : World, Calls Try.prog 23 #[.slice (some ⟨X.heap.size, 0, none⟩) 1 1] (X.alloc (.cells #[.int .i64 p, .int .i64 0, .int .i64 800] 50)) (Said (.bool (capB p)) (X.alloc (.cells #[.int .i64 p, .int .i64 0, .int .i64 800] 50)))) := Lib.hid (fun X => by
    have h := inb_any X.heap.size 1 1 [(p, 0, 800)] _ rfl (by omega) (lrow1 X p 0 800)
    rwa [show [(p, (0 : Int), (800 : Int))].all inL = capB p by simp only [List.all_cons, List.all_nil, Bool.and_true, inL_iff]; rfl] at h)
  have HE := Lib.hid ((Below.refl w.heap.size w).alloc (Nat.le_refl _) (.cells #[.int .i64 p, .int .i64 0, .int .i64 800] 50))
  go_enter Try.func30, Try.ntmps30
  go_wp2_with fail
  refine (HI.out _).mono ?_
  rintro e w1 ⟨rfl, h9⟩
  have HE2 := Lib.hid (HE.out.trans (h9.mono HE.out.size))
  clear h9
  go_wp2
  go_ret
  exact ⟨rfl, HE2.out⟩

/-- a bucket and an error -/
def bkE (x : Int × Int) (e : Int) : Value := .tuple #[.agg #[.int .i64 x.1, .int .i64 x.2], .int .i64 e]
def newV (p : Int) : (Int × Int) × Int := if capB p = true then ((p, p * 100000000), 0) else ((0, 0), 2)
set_option maxRecDepth 100000 in
set_option maxHeartbeats 4000000 in
theorem new_any (p : Int) (w : World) : Calls Try.prog 19 #[.int .i64 p] w (Said (bkE (newV p).1 (newV p).2) w) := by
  obtain ⟨K1, GB⟩ := box1 w 23 #[.int .i64 0, .int .i64 0]
  have HI := Lib.hid (fun u => iscap_any p u)
  have HF := Lib.hid (fun u => filled_any p 9223372036854775807 u)
  unfold newV bkE
  cases hr : capB p with
  | false =>
    rw [hr] at HI
    rw [if_neg (by simp)]
    clear hr
    go_enter Try.func19, Try.ntmps19
    go_wp2_with fail
    refine (HI.out _).mono ?_
    rintro e w1 ⟨rfl, h9⟩
    replace K1 := K1.below h9 K1.lt
    replace GB := GB.trans (h9.mono GB.size)
    clear h9
    have d0 := K1.cell 0
    have d1 := K1.cell 1
    have f0 := K1.frozen 0
    have f1 := K1.frozen 1
    have HP := Lib.hid (put2 (x := .int .i64 0) (y := .int .i64 0) K1 GB (by simp <;> omega))
    clear K1 GB
    go_wp2_with fail
    exact bodyPost_ret (v := .tuple #[.agg #[.int .i64 0, .int .i64 0], .int .i64 2]) (results_cell_row_tmp Try.results19 _ _ _ _ _ _ rfl HP.out.1 Try.underlying23 rfl (by kernel_rfl)) rfl ⟨rfl, HP.out.2⟩
  | true =>
    rw [hr] at HI
    rw [if_pos rfl]
    have hp : 0 ≤ p ∧ p ≤ 800 := of_decide_eq_true hr
    rw [w64 (by omega) (by omega)] at HF
    rw [show minT 9223372036854775807 (p * 100000000) = p * 100000000 by unfold minT; rw [if_neg (by omega)]] at HF
    obtain ⟨m, hm⟩ : ∃ m, p * 100000000 = m := ⟨_, rfl⟩
    rw [hm] at HF ⊢
    clear hr hp hm
    go_enter Try.func19, Try.ntmps19
    go_wp2_with fail
    refine (HI.out _).mono ?_
    rintro e w1 ⟨rfl, h9⟩
    replace K1 := K1.below h9 K1.lt
    replace GB := GB.trans (h9.mono GB.size)
    clear h9
    go_wp2_with fail
    refine (HF.out _).mono ?_
    rintro e w2 ⟨rfl, h9⟩
    replace K1 := K1.below h9 K1.lt
    replace GB := GB.trans (h9.mono GB.size)
    clear h9
    have d0 := K1.cell 0
    have d1 := K1.cell 1
    have f0 := K1.frozen 0
    have f1 := K1.frozen 1
    have HP := Lib.hid (put2 (x := .int .i64 p) (y := .int .i64 m) K1 GB (by simp <;> omega))
    clear K1 GB
    go_wp2_with fail
    exact bodyPost_ret (v := .tuple #[.agg #[.int .i64 p, .int .i64 m], .int .i64 0]) (results_cell_row_tmp Try.results19 _ _ _ _ _ _ rfl HP.out.1 Try.underlying23 rfl (by kernel_rfl)) rfl ⟨rfl, HP.out.2⟩

def waitV (c t : Int) : Int × Int := if rightB c t = true then (if dryB c t = true then ((-t) / c + 1, 0) else (0, 0)) else (0, 210)
theorem dry_of {c t : Int} (h : dryB c t = true) : 1 ≤ c ∧ c ≤ 800 ∧ -8000000000 ≤ t ∧ t ≤ 0 := by
  unfold dryB at h
  simp only [Bool.and_eq_true, decide_eq_true_eq] at h
  have := right_of h.1.1
  omega
set_option maxRecDepth 100000 in
set_option maxHeartbeats 4000000 in
theorem wait_any (c t : Int) (w : World) : Calls Try.prog 14 #[.agg #[.int .i64 c, .int .i64 t]] w (Said (.tuple #[.int .i64 (waitV c t).1, .int .i64 (waitV c t).2]) w) := by
  obtain ⟨K0, GB⟩ := box1 w 23 #[.int .i64 c, .int .i64 t]
  have z0 := K0.cell 0
  have z1 := K0.cell 1
  have HC := Lib.hid (fun u => check_any c t u)
  have HD := Lib.hid (fun u => dry_any c t u)
  unfold chk at HC
  unfold waitV
  cases hr : rightB c t with
  | false =>
    rw [hr, if_neg (by simp)] at HC
    rw [if_neg (by simp)]
    clear hr
    go_enter Try.func14, Try.ntmps14
    go_wp2_with fail
    refine (HC.out _).mono ?_
    rintro e w1 ⟨rfl, h9⟩
    replace K0 := K0.below h9 K0.lt
    replace GB := GB.trans (h9.mono GB.size)
    have y0 := K0.cell 0
    have y1 := K0.cell 1
    clear h9 z0 z1
    have HE := Lib.hid GB
    clear GB K0
    go_wp2
    go_ret2
    exact ⟨rfl, HE.out⟩
  | true =>
    rw [hr, if_pos rfl] at HC
    rw [if_pos rfl]
    cases hd : dryB c t with
    | false =>
      rw [hd] at HD
      rw [if_neg (by simp)]
      clear hr hd
      go_enter Try.func14, Try.ntmps14
      go_wp2_with fail
      refine (HC.out _).mono ?_
      rintro e w1 ⟨rfl, h9⟩
      replace K0 := K0.below h9 K0.lt
      replace GB := GB.trans (h9.mono GB.size)
      have y0 := K0.cell 0
      have y1 := K0.cell 1
      clear h9 z0 z1
      go_wp2_with fail
      refine (HD.out _).mono ?_
      rintro e w2 ⟨rfl, h9⟩
      have HE := Lib.hid (GB.trans (h9.mono GB.size))
      clear h9 y0 y1 K0 GB
      go_wp2
      go_ret2
      exact ⟨rfl, HE.out⟩
    | true =>
      rw [hd] at HD
      rw [if_pos rfl]
      obtain ⟨h1, h2, h3, h4⟩ := dry_of hd
      have hq0 : 0 ≤ (-t) / c := Int.ediv_nonneg (by omega) (by omega)
      have hq1 : (-t) / c ≤ -t := Int.ediv_le_self _ (by omega)
      have HV : Hid (wrap64 (wrap64 ((wrap64 (-t)).tdiv c) + 1) = (-t) / c + 1) := Lib.hid (by
        rw [w64 (n := -t) (by omega) (by omega)]
        rw [Int.tdiv_eq_ediv_of_nonneg (by omega)]
        rw [w64 (n := (-t) / c) (by omega) (by omega), w64 (by omega) (by omega)])
      have g0 : (c == 0) = false := by simp; omega
      have hc0 : ¬ c = 0 := by omega
      clear hr hd h1 h2 h3 h4 hq0 hq1
      go_enter Try.func14, Try.ntmps14
      go_wp2_with fail
      refine (HC.out _).mono ?_
      rintro e w1 ⟨rfl, h9⟩
      replace K0 := K0.below h9 K0.lt
      replace GB := GB.trans (h9.mono GB.size)
      have y0 := K0.cell 0
      have y1 := K0.cell 1
      clear h9 z0 z1
      go_wp2_with fail
      refine (HD.out _).mono ?_
      rintro e w2 ⟨rfl, h9⟩
      replace K0 := K0.below h9 K0.lt
      have HE := Lib.hid (GB.trans (h9.mono GB.size))
      clear h9 y0 y1
      have x0 := K0.cell 0
      have x1 := K0.cell 1
      clear K0 GB
      go_wp2
      go_ret2
      exact ⟨retT HV.out, HE.out⟩

def boundB (p d g n : Int) : Bool := decide (1 ≤ p ∧ p ≤ 800 ∧ 0 ≤ d ∧ d ≤ 1125899906842624 ∧ 0 ≤ g ∧ g ≤ 10000000 ∧ 0 ≤ n ∧ n ≤ 8)
def boundV (p d g n : Int) : Int × Int := if boundB p d g n = true then (p * d + p * 100000000 + 100 * n * g, 0) else (0, 2)
theorem lims_bound (p d g n : Int) : [(p, (1 : Int), (800 : Int)), (d, 0, 1125899906842624), (g, 0, 10000000), (n, 0, 8)].all inL = boundB p d g n := by
  simp only [List.all_cons, List.all_nil, Bool.and_true, inL_iff]
  unfold boundB
  rw [← Bool.decide_and, ← Bool.decide_and, ← Bool.decide_and]
  exact decide_eq_decide.2 (by omega)
set_option maxRecDepth 100000 in
set_option maxHeartbeats 4000000 in
theorem bound_any (p d g n : Int) (w : World) : Calls Try.prog 22 #[.int .i64 p, .int .i64 d, .int .i64 g, .int .i64 n] w (Said (.tuple #[.int .i64 (boundV p d g n).1, .int .i64 (boundV p d g n).2]) w) := by
  have HI : Hid (∀ X : World, Calls Try.prog 23 #[.slice (some ⟨X.heap.size, 0, none⟩) 4 4] (X.alloc (.cells #[.int .i64 p, .int .i64 1, .int .i64 800, .int .i64 d, .int .i64 0, .int .i64 1125899906842624, .int .i64 g, .int .i64 0, .int .i64 10000000, .int .i64 n, .int .i64 0, .int .i64 8] 50)) (Said (.bool (boundB p d g n)) (X.alloc (.cells #[.int .i64 p, .int .i64 1, .int .i64 800, .int .i64 d, .int .i64 0, .int .i64 1125899906842624, .int .i64 g, .int .i64 0, .int .i64 10000000, .int .i64 n, .int .i64 0, .int .i64 8] 50)))) := Lib.hid (fun X => by
    have h := inb_any X.heap.size 4 4 [(p, 1, 800), (d, 0, 1125899906842624), (g, 0, 10000000), (n, 0, 8)] _ rfl (by omega) (lrow4 X p 1 800 d 0 1125899906842624 g 0 10000000 n 0 8)
    rwa [lims_bound] at h)
  have HE := Lib.hid ((Below.refl w.heap.size w).alloc (Nat.le_refl _) (.cells #[.int .i64 p, .int .i64 1, .int .i64 800, .int .i64 d, .int .i64 0, .int .i64 1125899906842624, .int .i64 g, .int .i64 0, .int .i64 10000000, .int .i64 n, .int .i64 0, .int .i64 8] 50))
  have HG := Lib.hid (fun u => granted_any p d u)
  have HD := Lib.hid (fun u => depth_any p u)
  have HU := Lib.hid (fun u => used_any n g u)
  unfold boundV
  cases hr : boundB p d g n with
  | false =>
    rw [hr] at HI
    rw [if_neg (by simp)]
    clear hr
    go_enter Try.func22, Try.ntmps22
    go_wp2_with fail
    refine (HI.out _).mono ?_
    rintro e w1 ⟨rfl, h9⟩
    have HE2 := Lib.hid (HE.out.trans (h9.mono HE.out.size))
    clear h9
    go_wp2
    go_ret2
    exact ⟨rfl, HE2.out⟩
  | true =>
    rw [hr] at HI
    rw [if_pos rfl]
    unfold boundB at hr
    have hb := of_decide_eq_true hr
    have m1 := mul_in (a := p) (b := d) (A := 800) (B := 1125899906842624) (by omega) (by omega) (by omega) (by omega)
    have m2 := mul_in (a := 100 * n) (b := g) (A := 800) (B := 10000000) (by omega) (by omega) (by omega) (by omega)
    rw [w64 (n := p * d) (by omega) (by omega)] at HG
    rw [w64 (n := p * 100000000) (by omega) (by omega)] at HD
    rw [w64 (n := 100 * n) (by omega) (by omega), w64 (n := 100 * n * g) (by omega) (by omega)] at HU
    have HV : Hid (wrap64 (wrap64 (p * d + p * 100000000) + 100 * n * g) = p * d + p * 100000000 + 100 * n * g) := Lib.hid (by rw [w64 (n := p * d + p * 100000000) (by omega) (by omega), w64 (by omega) (by omega)])
    obtain ⟨a, ha⟩ : ∃ a, p * d = a := ⟨_, rfl⟩
    obtain ⟨b, hb2⟩ : ∃ b, p * 100000000 = b := ⟨_, rfl⟩
    obtain ⟨c, hc⟩ : ∃ c, 100 * n * g = c := ⟨_, rfl⟩
    rw [ha] at HG HV ⊢
    rw [hb2] at HD HV ⊢
    rw [hc] at HU HV ⊢
    clear hr hb m1 m2 ha hb2 hc
    go_enter Try.func22, Try.ntmps22
    go_wp2_with fail
    refine (HI.out _).mono ?_
    rintro e w1 ⟨rfl, h9⟩
    have HE2 := Lib.hid (HE.out.trans (h9.mono HE.out.size))
    clear h9
    go_wp2_with fail
    refine (HG.out _).mono ?_
    rintro e w2 ⟨rfl, rfl⟩
    go_wp2_with fail
    refine (HD.out _).mono ?_
    rintro e w2 ⟨rfl, rfl⟩
    go_wp2_with fail
    refine (HU.out _).mono ?_
    rintro e w2 ⟨rfl, rfl⟩
    go_wp2
    go_ret2
    exact ⟨retT HV.out, HE2.out⟩

end Go.Proofs.Ytcdbkfmdilimaaa
