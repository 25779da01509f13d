/-
  BucketWaits' mathematics and walk. No statement is proved here.
-/
import Derived.Test.YtcdbkfmdilimaaaBi
namespace Go.Proofs.Ytcdbkfmdilimaaa
open Go.RowKit

/-- what is there while it is waited: x tokens, L left -/
def WInv (c t x L : Int) : Prop := dryB c t = true ∧ 0 ≤ L ∧ L ≤ (-t) / c ∧ x = t + c * ((-t) / c - L)
theorem winv_bounds {c t x L : Int} (h : WInv c t x L) : 1 ≤ c ∧ c ≤ 800 ∧ -8000000000 ≤ x ∧ x + c * L ≤ 0 ∧ 0 < x + c * L + c ∧ 0 ≤ c * L ∧ L ≤ 8000000000 := by
  obtain ⟨hd, h0, h1, hx⟩ := h
  obtain ⟨d1, d2, d3, d4⟩ := dry_of hd
  have hq1 : (-t) / c ≤ -t := Int.ediv_le_self _ (by omega)
  have a1 : c * ((-t) / c) ≤ -t := Int.mul_ediv_self_le (by omega)
  have a2 : -t < c * ((-t) / c) + c := Int.lt_mul_ediv_self_add (by omega)
  have a3 : 0 ≤ c * L := Int.mul_nonneg (by omega) h0
  have a4 : 0 ≤ c * ((-t) / c - L) := Int.mul_nonneg (by omega) (by omega)
  have e1 : c * ((-t) / c - L) = c * ((-t) / c) - c * L := Int.mul_sub _ _ _
  omega
theorem winv_step {c t x L d : Int} (h : WInv c t x L) (h0 : 0 ≤ d) (h1 : d ≤ L) (h2 : d ≤ 10000000) :
    ∃ y, passV c x d 0 = ((c, y), 0) ∧ dryB c y = true ∧ WInv c t y (L - d) := by
  have hb := winv_bounds h
  have k1 : c * d ≤ c * L := Int.mul_le_mul_of_nonneg_left h1 (by omega)
  have k0 : 0 ≤ c * d := Int.mul_nonneg (by omega) h0
  refine ⟨x + c * d, ?_, ?_, h.1, by omega, by have := h.2.2.1; omega, ?_⟩
  · rw [pass_mk (right_mk (by omega)) (by omega) (by omega) (by omega), show 100 * (0 : Int) * d = 0 by simp, Int.sub_zero]
    unfold minT
    rw [if_pos (by omega)]
  · unfold dryB
    rw [right_mk (by omega)]
    simp only [Bool.true_and, Bool.and_eq_true, decide_eq_true_eq]
    omega
  · rw [h.2.2.2, show (-t) / c - (L - d) = ((-t) / c - L) + d by omega, Int.mul_add, Int.add_assoc]
theorem winv_last {c t x L : Int} (h : WInv c t x L) : ∃ y, passV c x 1 0 = ((c, y), 0) ∧ (L = 0 → dryB c y = false) := by
  have hb := winv_bounds h
  refine ⟨x + c, ?_, fun h0 => ?_⟩
  · rw [pass_mk (right_mk (by omega)) (by omega) (by omega) (by omega), show 100 * (0 : Int) * 1 = 0 by simp, Int.sub_zero, Int.mul_one]
    unfold minT
    rw [if_pos (by omega)]
  · subst h0
    have : 0 < x + c := by have := hb.2.2.2.2.1; simpa using this
    unfold dryB
    simp only [Bool.and_eq_false_iff, decide_eq_false_iff_not]
    exact .inr (by omega)
theorem winv_start {c t : Int} (h : dryB c t = true) : WInv c t t ((-t) / c) ∧ wrap64 ((-t) / c + 1 - 1) = (-t) / c ∧ 0 < (-t) / c + 1 := by
  obtain ⟨d1, d2, d3, d4⟩ := dry_of h
  have hq0 : 0 ≤ (-t) / c := Int.ediv_nonneg (by omega) (by omega)
  have hq1 : (-t) / c ≤ -t := Int.ediv_le_self _ (by omega)
  refine ⟨⟨h, hq0, Int.le_refl _, by rw [Int.sub_self, Int.mul_zero, Int.add_zero]⟩, ?_, by omega⟩
  rw [show (-t) / c + 1 - 1 = (-t) / c by omega]
  exact w64 (by omega) (by omega)
theorem waits_end {c t W E : Int} (h : waitV c t = (W, E)) (h0 : ¬ (E = 0 ∧ ¬ W = 0)) : dryB c t = false := by
  unfold waitV at h
  cases hr : rightB c t with
  | false => unfold dryB; rw [hr]; rfl
  | true =>
    rw [hr, if_pos rfl] at h
    cases hd : dryB c t with
    | false => rfl
    | true =>
      rw [hd, if_pos rfl] at h
      have q := Prod.mk.inj h
      have := (winv_start hd).2.2
      exact absurd ⟨q.2.symm, by omega⟩ h0
theorem waits_go {c t W E : Int} (h : waitV c t = (W, E)) (h0 : E = 0) (h1 : ¬ W = 0) : dryB c t = true ∧ W = (-t) / c + 1 := by
  subst h0
  unfold waitV at h
  cases hr : rightB c t with
  | false => rw [hr, if_neg (by simp)] at h; simp at h
  | true =>
    rw [hr, if_pos rfl] at h
    cases hd : dryB c t with
    | false => rw [hd, if_neg (by simp)] at h; exact absurd (Prod.mk.inj h).1.symm h1
    | true =>
      rw [hd, if_pos rfl] at h
      exact ⟨rfl, (Prod.mk.inj h).1.symm⟩

set_option maxRecDepth 100000 in
set_option maxHeartbeats 16000000 in
theorem waits_walk (c t : Int) (w : World) : Calls Try.prog 7 #[.agg #[.int .i64 c, .int .i64 t]] w (Said (.bool true) w) := by
  obtain ⟨K0, GB⟩ := box1 w 23 #[.int .i64 c, .int .i64 t]
  have HK := Lib.hid (fun u => wakes_any u)
  have HW := Lib.hid (fun u => wait_any c t u)
  obtain ⟨⟨W, E⟩, hV⟩ : ∃ x, waitV c t = x := ⟨_, rfl⟩
  rw [hV] at HW
  by_cases hE : E = 0 ∧ ¬ W = 0
  · obtain ⟨rfl, hW0⟩ := hE
    obtain ⟨hd, hWq⟩ := waits_go hV rfl hW0
    obtain ⟨hi, hw, _⟩ := winv_start hd
    rw [← hWq] at hw
    obtain ⟨q, hq⟩ : ∃ q, (-t) / c = q := ⟨_, rfl⟩
    rw [hq] at hw hi
    have HS := Lib.hid hi
    have a1 : (W == 0) = false := by simp [hW0]
    clear hV hW0 hd hWq hi hq
    go_enter Try.func7, Try.ntmps7
    go_wp2_with fail
    refine (HK.out _).mono ?_
    rintro e w0 ⟨rfl, h9⟩
    replace K0 := K0.below h9 K0.lt
    replace GB := GB.trans (h9.mono GB.size)
    clear h9
    have zK00 := K0.cell 0
    have zK01 := K0.cell 1
    go_wp2_with fail
    refine (HW.out _).mono ?_
    rintro e w1 ⟨rfl, h9⟩
    clear zK00 zK01
    replace K0 := K0.below h9 K0.lt
    replace GB := GB.trans (h9.mono GB.size)
    clear h9
    go_wp2_with fail
    rw [hw]
    clear hw
    go_loopw [5, 28] (fun lv iv wr => ∃ (k : Nat) (L x : Int), k ≤ 1000 ∧ lv = .int .i64 L ∧ iv = .int .i64 (k : Int) ∧ Hid (WInv c t x L) ∧ Blk wr w.heap.size 23 #[.int .i64 c, .int .i64 x] ∧ Below w.heap.size w wr) (fun _ iv _ => 1000 - (intOf iv).toNat)
    case atStart => exact ⟨0, q, t, by omega, rfl, rfl, HS, K0, GB⟩
    case round =>
      clear K0 GB
      obtain ⟨k, L, x, hk, rfl, rfl, HI, K0, GB⟩ := hrel
      have hb := winv_bounds HI.out
      have hb0 := HI.out.2.1
      by_cases hlt : k < 1000
      · by_cases hL : L = 0
        · subst hL
          clear hb hb0
          obtain ⟨y, hy1, hy2⟩ := winv_last HI.out
          have HP := Lib.hid (fun u => pass_any c x 1 0 u)
          unfold bkE at HP
          rw [hy1] at HP
          have HY := Lib.hid hy2
          clear hy1 hy2
          have zK00 := K0.cell 0
          have zK01 := K0.cell 1
          go_wp2_with fail
          refine (HP.out _).mono ?_
          rintro e w2 ⟨rfl, h9⟩
          clear zK00 zK01
          replace K0 := K0.below h9 K0.lt
          replace GB := GB.trans (h9.mono GB.size)
          clear h9
          have K9 := Blk.new w2 23 #[.int .i64 c, .int .i64 y]
          replace K0 := K0.alloc (.cells #[.int .i64 c, .int .i64 y] 23)
          replace GB := GB.alloc GB.size (.cells #[.int .i64 c, .int .i64 y] 23)
          have HD := Lib.hid (fun u => dry_any c y u)
          rw [HY.out (by simp)] at HD
          have zK90 := K9.cell 0
          have zK91 := K9.cell 1
          go_wp2_with fail
          refine (HD.out _).mono ?_
          rintro e w3 ⟨rfl, h9⟩
          have HE := Lib.hid (GB.trans (h9.mono GB.size))
          clear zK90 zK91
          clear h9 GB K0 K9
          go_wp2
          go_ret
          exact ⟨rfl, HE.out⟩
        · have a2 : (L == 0) = false := by simp [hL]
          by_cases hm : 10000000 < L
          · have a3 : ¬ L ≤ 10000000 := by omega
            obtain ⟨y, hy1, hy2, hy3⟩ := winv_step (d := 10000000) HI.out (by omega) (by omega) (by omega)
            have HP := Lib.hid (fun u => pass_any c x 10000000 0 u)
            have HD := Lib.hid (fun u => dry_any c y u)
            unfold bkE at HP
            rw [hy1] at HP
            rw [hy2] at HD
            have hw : wrap64 (L - 10000000) = L - 10000000 := w64 (by omega) (by omega)
            have HY := Lib.hid hy3
            clear hy1 hy2 hy3 hb
            have zK00 := K0.cell 0
            have zK01 := K0.cell 1
            go_wp2_with fail
            refine (HP.out _).mono ?_
            rintro e w2 ⟨rfl, h9⟩
            clear zK00 zK01
            replace K0 := K0.below h9 K0.lt
            replace GB := GB.trans (h9.mono GB.size)
            clear h9
            have K7 := Blk.new w2 23 #[.int .i64 c, .int .i64 y]
            replace K0 := K0.alloc (.cells #[.int .i64 c, .int .i64 y] 23)
            replace GB := GB.alloc GB.size (.cells #[.int .i64 c, .int .i64 y] 23)
            have zK70 := K7.cell 0
            have zK71 := K7.cell 1
            go_wp2_with fail
            refine (HD.out _).mono ?_
            rintro e w3 ⟨rfl, h9⟩
            clear zK70 zK71
            replace K0 := K0.below h9 K0.lt
            replace K7 := K7.below h9 K7.lt
            replace GB := GB.trans (h9.mono GB.size)
            clear h9
            have zK70 := K7.cell 0
            have zK71 := K7.cell 1
            have d0 := K0.cell 0
            have d1 := K0.cell 1
            have f0 := K0.frozen 0
            have f1 := K0.frozen 1
            have HPu := Lib.hid (put2 (x := .int .i64 c) (y := .int .i64 y) K0 GB (by omega))
            clear K0 GB K7
            go_wp2_with fail
            go_roundw
            case rel => exact ⟨k + 1, L - 10000000, y, by omega, by first | rw [Int.sub_self] | rw [hw], by go_num, HY, HPu.out.1, HPu.out.2⟩
            case measure => simp [intOf] <;> omega
          · have a3 : L ≤ 10000000 := by omega
            obtain ⟨y, hy1, hy2, hy3⟩ := winv_step (d := L) HI.out (by omega) (by omega) (by omega)
            have HP := Lib.hid (fun u => pass_any c x L 0 u)
            have HD := Lib.hid (fun u => dry_any c y u)
            unfold bkE at HP
            rw [hy1] at HP
            rw [hy2] at HD
            have hw : wrap64 (L - L) = L - L := w64 (by omega) (by omega)
            have HY := Lib.hid hy3
            clear hy1 hy2 hy3 hb
            have zK00 := K0.cell 0
            have zK01 := K0.cell 1
            go_wp2_with fail
            refine (HP.out _).mono ?_
            rintro e w2 ⟨rfl, h9⟩
            clear zK00 zK01
            replace K0 := K0.below h9 K0.lt
            replace GB := GB.trans (h9.mono GB.size)
            clear h9
            have K7 := Blk.new w2 23 #[.int .i64 c, .int .i64 y]
            replace K0 := K0.alloc (.cells #[.int .i64 c, .int .i64 y] 23)
            replace GB := GB.alloc GB.size (.cells #[.int .i64 c, .int .i64 y] 23)
            have zK70 := K7.cell 0
            have zK71 := K7.cell 1
            go_wp2_with fail
            refine (HD.out _).mono ?_
            rintro e w3 ⟨rfl, h9⟩
            clear zK70 zK71
            replace K0 := K0.below h9 K0.lt
            replace K7 := K7.below h9 K7.lt
            replace GB := GB.trans (h9.mono GB.size)
            clear h9
            have zK70 := K7.cell 0
            have zK71 := K7.cell 1
            have d0 := K0.cell 0
            have d1 := K0.cell 1
            have f0 := K0.frozen 0
            have f1 := K0.frozen 1
            have HPu := Lib.hid (put2 (x := .int .i64 c) (y := .int .i64 y) K0 GB (by omega))
            clear K0 GB K7
            go_wp2_with fail
            go_roundw
            case rel => exact ⟨k + 1, L - L, y, by omega, by first | rw [Int.sub_self] | rw [hw], by go_num, HY, HPu.out.1, HPu.out.2⟩
            case measure => simp [intOf] <;> omega
      · obtain rfl : k = 1000 := by omega
        by_cases hL : L = 0
        · subst hL
          clear hb hb0
          obtain ⟨y, hy1, hy2⟩ := winv_last HI.out
          have HP := Lib.hid (fun u => pass_any c x 1 0 u)
          unfold bkE at HP
          rw [hy1] at HP
          have HY := Lib.hid hy2
          clear hy1 hy2
          have zK00 := K0.cell 0
          have zK01 := K0.cell 1
          go_wp2_with fail
          refine (HP.out _).mono ?_
          rintro e w2 ⟨rfl, h9⟩
          clear zK00 zK01
          replace K0 := K0.below h9 K0.lt
          replace GB := GB.trans (h9.mono GB.size)
          clear h9
          have K9 := Blk.new w2 23 #[.int .i64 c, .int .i64 y]
          replace K0 := K0.alloc (.cells #[.int .i64 c, .int .i64 y] 23)
          replace GB := GB.alloc GB.size (.cells #[.int .i64 c, .int .i64 y] 23)
          have HD := Lib.hid (fun u => dry_any c y u)
          rw [HY.out (by simp)] at HD
          have zK90 := K9.cell 0
          have zK91 := K9.cell 1
          go_wp2_with fail
          refine (HD.out _).mono ?_
          rintro e w3 ⟨rfl, h9⟩
          have HE := Lib.hid (GB.trans (h9.mono GB.size))
          clear zK90 zK91
          clear h9 GB K0 K9
          go_wp2
          go_ret
          exact ⟨rfl, HE.out⟩
        · have a3 : decide (0 < L) = true := decide_eq_true (by omega)
          clear hb hb0 hL
          obtain ⟨y, hy1, hy2⟩ := winv_last HI.out
          have HP := Lib.hid (fun u => pass_any c x 1 0 u)
          unfold bkE at HP
          rw [hy1] at HP
          have HY := Lib.hid hy2
          clear hy1 hy2
          have zK00 := K0.cell 0
          have zK01 := K0.cell 1
          go_wp2_with fail
          refine (HP.out _).mono ?_
          rintro e w2 ⟨rfl, h9⟩
          clear zK00 zK01
          replace K0 := K0.below h9 K0.lt
          replace GB := GB.trans (h9.mono GB.size)
          clear h9
          have K9 := Blk.new w2 23 #[.int .i64 c, .int .i64 y]
          replace K0 := K0.alloc (.cells #[.int .i64 c, .int .i64 y] 23)
          replace GB := GB.alloc GB.size (.cells #[.int .i64 c, .int .i64 y] 23)
          have HE := Lib.hid GB
          clear GB K0 K9
          go_wp2
          go_ret
          exact ⟨rfl, HE.out⟩
  · have HD := Lib.hid (fun u => dry_any c t u)
    rw [waits_end hV hE] at HD
    clear hV
    go_enter Try.func7, Try.ntmps7
    go_wp2_with fail
    refine (HK.out _).mono ?_
    rintro e w0 ⟨rfl, h9⟩
    replace K0 := K0.below h9 K0.lt
    replace GB := GB.trans (h9.mono GB.size)
    clear h9
    have zK00 := K0.cell 0
    have zK01 := K0.cell 1
    go_wp2_with fail
    refine (HW.out _).mono ?_
    rintro e w1 ⟨rfl, h9⟩
    clear zK00 zK01
    replace K0 := K0.below h9 K0.lt
    replace GB := GB.trans (h9.mono GB.size)
    clear h9
    by_cases h1 : E = 0
    · have a1 : (E != 0) = false := by simp [h1]
      have a2 : (W == 0) = true := by simp; exact Classical.byContradiction fun q => hE ⟨h1, q⟩
      clear hE h1
      have zK00 := K0.cell 0
      have zK01 := K0.cell 1
      go_wp2_with fail
      refine (HD.out _).mono ?_
      rintro e w2 ⟨rfl, h9⟩
      clear zK00 zK01
      replace K0 := K0.below h9 K0.lt
      replace GB := GB.trans (h9.mono GB.size)
      clear h9
      have HE := Lib.hid GB
      clear GB K0
      go_wp2
      go_ret
      exact ⟨rfl, HE.out⟩
    · have a1 : (E != 0) = true := by simp [h1]
      clear hE h1
      have zK00 := K0.cell 0
      have zK01 := K0.cell 1
      go_wp2_with fail
      refine (HD.out _).mono ?_
      rintro e w2 ⟨rfl, h9⟩
      clear zK00 zK01
      replace K0 := K0.below h9 K0.lt
      replace GB := GB.trans (h9.mono GB.size)
      clear h9
      have HE := Lib.hid GB
      clear GB K0
      go_wp2
      go_ret
      exact ⟨rfl, HE.out⟩

end Go.Proofs.Ytcdbkfmdilimaaa
