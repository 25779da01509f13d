/-
  BucketSplits' mathematics and walk. No statement is proved here.
-/
import Derived.Test.YtcdbkfmdilimaaaBf
namespace Go.Proofs.Ytcdbkfmdilimaaa
open Go.RowKit

theorem pass_no {c t d n x y E : Int} (h : passV c t d n = ((x, y), E)) (hE : ¬ E = 0) : x = 0 ∧ y = 0 := by
  unfold passV at h
  split at h
  · split at h
    · split at h
      · exact absurd (Prod.mk.inj h).2.symm hE
      · split at h
        · have q := Prod.mk.inj (Prod.mk.inj h).1
          exact ⟨q.1.symm, q.2.symm⟩
        · exact absurd (Prod.mk.inj h).2.symm hE
    · have q := Prod.mk.inj (Prod.mk.inj h).1
      exact ⟨q.1.symm, q.2.symm⟩
  · have q := Prod.mk.inj (Prod.mk.inj h).1
    exact ⟨q.1.symm, q.2.symm⟩
/-- what a pass that is not refused says -/
theorem pass_ok {c t d n x y : Int} (h : passV c t d n = ((x, y), 0)) : rightB c t = true ∧ (0 ≤ d ∧ d ≤ 10000000 ∧ 0 ≤ n ∧ n ≤ 8) ∧ x = c ∧
    ((c = 0 ∧ y = t) ∨ (¬ c = 0 ∧ ¬ (t ≤ 0 ∧ 0 < n ∧ 0 < d) ∧ y = minT (t + c * d - 100 * n * d) (c * 100000000))) := by
  unfold passV at h
  cases hr : rightB c t with
  | false => rw [hr, if_neg (by simp)] at h; simp at h
  | true =>
    rw [hr, if_pos rfl] at h
    cases hi : inP d n with
    | false => rw [hi, if_neg (by simp)] at h; simp at h
    | true =>
      rw [hi, if_pos rfl] at h
      have hb := in_of hi
      have hR := right_of hr
      refine ⟨rfl, hb, ?_⟩
      by_cases hc : c = 0
      · rw [if_pos hc] at h
        have q := Prod.mk.inj (Prod.mk.inj h).1
        exact ⟨q.1.symm, .inl ⟨hc, q.2.symm⟩⟩
      · rw [if_neg hc] at h
        split at h
        · simp at h
        · rename_i hd
          have q := Prod.mk.inj (Prod.mk.inj h).1
          refine ⟨q.1.symm, .inr ⟨hc, fun hx => hd ?_, q.2.symm⟩⟩
          unfold dryB
          rw [hr]
          have h0 : 0 < c := by omega
          simp [h0, hx.1, hx.2.1, hx.2.2]
theorem pass_mk {c t d n : Int} (hr : rightB c t = true) (hb : 0 ≤ d ∧ d ≤ 10000000 ∧ 0 ≤ n ∧ n ≤ 8) (hc : ¬ c = 0) (hd : ¬ (t ≤ 0 ∧ 0 < n ∧ 0 < d)) : passV c t d n = ((c, minT (t + c * d - 100 * n * d) (c * 100000000)), 0) := by
  unfold passV
  rw [hr, if_pos rfl, show inP d n = true from decide_eq_true hb, if_pos rfl, if_neg hc, if_neg]
  intro h
  apply hd
  unfold dryB at h
  simp only [Bool.and_eq_true, decide_eq_true_eq] at h
  exact ⟨h.1.2, h.2.1, h.2.2⟩
theorem split_math {c t d g n x1 x2 y1 y2 : Int} (h1 : passV c t d n = ((x1, x2), 0)) (h2 : passV x1 x2 g n = ((y1, y2), 0)) (hk : c ≤ 100 * n) (hs : d + g ≤ 10000000) : passV c t (d + g) n = ((y1, y2), 0) := by
  obtain ⟨hr, hb, hx, h3⟩ := pass_ok h1
  obtain ⟨hr2, hb2, hy, h4⟩ := pass_ok h2
  subst hx
  rw [hy]
  rcases h3 with ⟨hc, rfl⟩ | ⟨hc, hd, hx2⟩
  · rcases h4 with ⟨_, rfl⟩ | ⟨hc2, _⟩
    · unfold passV
      rw [hr, if_pos rfl, show inP (d + g) n = true from decide_eq_true (by omega), if_pos rfl, if_pos hc]
    · exact absurd hc hc2
  · rcases h4 with ⟨hc2, _⟩ | ⟨_, hd2, hy2⟩
    · exact absurd hc2 hc
    · have hR := right_of hr
      have k1 : x1 * d ≤ 100 * n * d := Int.mul_le_mul_of_nonneg_right hk hb.1
      have k2 : x1 * g ≤ 100 * n * g := Int.mul_le_mul_of_nonneg_right hk hb2.1
      have e1 : x1 * (d + g) = x1 * d + x1 * g := Int.mul_add _ _ _
      have e2 : 100 * n * (d + g) = 100 * n * d + 100 * n * g := Int.mul_add _ _ _
      have hm : x2 = t + x1 * d - 100 * n * d := by
        rw [hx2]; unfold minT; split <;> omega
      rw [pass_mk hr (by omega) hc, hy2, hm, e1, e2]
      · congr 3
        omega
      · intro ⟨q1, q2, q3⟩
        by_cases h0 : 0 < d
        · exact hd ⟨q1, q2, h0⟩
        · have : d = 0 := by omega
          subst this
          exact hd2 ⟨by omega, q2, by omega⟩
theorem change_ok {c t p u1 u2 : Int} (h : changeV c t p = ((u1, u2), 0)) (hp : ¬ p = 0) (hc : ¬ c = 0) : ∃ v2, changeV u1 u2 c = ((c, v2), 0) ∧ v2 ≤ t ∧ (p < c ∨ v2 = t) := by
  unfold changeV at h
  cases hr : rightB c t with
  | false => rw [hr, if_neg (by simp)] at h; simp at h
  | true =>
    rw [hr, if_pos rfl] at h
    cases hk : capB p with
    | false => rw [hk, if_neg (by simp)] at h; simp at h
    | true =>
      rw [hk, if_pos rfl, if_neg (by omega)] at h
      have q := Prod.mk.inj (Prod.mk.inj h).1
      have hR := right_of hr
      have hp2 : 0 ≤ p ∧ p ≤ 800 := of_decide_eq_true hk
      obtain ⟨q1, q2⟩ := q
      have hu2 : u2 = t ∧ t < p * 100000000 ∨ u2 = p * 100000000 ∧ p * 100000000 ≤ t := by
        rw [← q2]; unfold minT; split <;> omega
      have hr2 : rightB u1 u2 = true := right_mk (by omega)
      refine ⟨minT u2 (c * 100000000), ?_, ?_⟩
      · unfold changeV
        rw [hr2, if_pos rfl, show capB c = true from decide_eq_true (by omega), if_pos rfl, if_neg (by omega)]
      · unfold minT
        split <;> omega

set_option maxRecDepth 100000 in
set_option maxHeartbeats 16000000 in
theorem splits_walk (c t d g n p : Int) (w : World) : Calls Try.prog 8 #[.agg #[.int .i64 c, .int .i64 t], .agg #[.int .i64 d, .int .i64 g, .int .i64 n], .int .i64 p] w (Said (.bool true) w) := by
  obtain ⟨K0, K4, GB⟩ := blks2 w 23 36 #[.int .i64 c, .int .i64 t] #[.int .i64 d, .int .i64 g, .int .i64 n]
  have HK := Lib.hid (fun u => wakes_any u)
  have HP1 := Lib.hid (fun u => pass_any c t d n u)
  have HP3 := Lib.hid (fun u => pass_any c t (wrap64 (d + g)) n u)
  have HC1 := Lib.hid (fun u => change_any c t p u)
  unfold bkE at HP1 HP3 HC1
  obtain ⟨⟨⟨x1, x2⟩, E1⟩, h1⟩ : ∃ x, passV c t d n = x := ⟨_, rfl⟩
  obtain ⟨⟨⟨s1, s2⟩, E5⟩, h3⟩ : ∃ x, passV c t (wrap64 (d + g)) n = x := ⟨_, rfl⟩
  obtain ⟨⟨⟨u1, u2⟩, E3⟩, h4⟩ : ∃ x, changeV c t p = x := ⟨_, rfl⟩
  rw [h1] at HP1
  rw [h3] at HP3
  rw [h4] at HC1
  by_cases hE : E1 = 0
  · subst hE
    have HP2 := Lib.hid (fun u => pass_any x1 x2 g n u)
    unfold bkE at HP2
    obtain ⟨⟨⟨y1, y2⟩, E2⟩, h2⟩ : ∃ x, passV x1 x2 g n = x := ⟨_, rfl⟩
    rw [h2] at HP2
    obtain ⟨q7, hq7⟩ : ∃ q, decide (E2 = 0 ∧ c ≤ wrap64 (100 * n)) = q := ⟨_, rfl⟩
    have HQ7 := Lib.hid hq7
    have H3 : Hid (q7 = true → wrap64 (d + g) ≤ 10000000 → y1 = s1 ∧ y2 = s2 ∧ 0 = E5) := Lib.hid (fun ha hb => by
      have hh := of_decide_eq_true (hq7.trans ha)
      rw [hh.1] at h2
      have e1 := pass_ok h1
      have e2 := pass_ok h2
      have ew : wrap64 (d + g) = d + g := w64 (by omega) (by omega)
      rw [w64 (n := 100 * n) (by omega) (by omega)] at hh
      rw [ew] at hb h3
      have q := split_math h1 h2 hh.2 hb
      rw [h3] at q
      have q1 := Prod.mk.inj q
      have q2 := Prod.mk.inj q1.1
      exact ⟨q2.1.symm, q2.2.symm, q1.2.symm⟩)
    have H4 : Hid (E3 = 0 → ¬ p = 0 → ¬ c = 0 → ∃ v2, changeV u1 u2 c = ((c, v2), 0) ∧ v2 ≤ t ∧ (p < c ∨ v2 = t)) := Lib.hid (fun ha hb hc => change_ok (by rw [h4, ha]) hb hc)
    clear h1 h2 h3 h4 hq7
    go_enter Try.func8, Try.ntmps8
    go_wp2_with fail
    refine (HK.out _).mono ?_
    rintro e w1 ⟨rfl, h9⟩
    replace K0 := K0.below h9 K0.lt
    replace K4 := K4.below h9 K4.lt
    replace GB := GB.trans (h9.mono GB.size)
    clear h9
    have zK00 := K0.cell 0
    have zK01 := K0.cell 1
    have zK40 := K4.cell 0
    have zK41 := K4.cell 1
    have zK42 := K4.cell 2
    go_wp2_with fail
    refine (HP1.out _).mono ?_
    rintro e w2 ⟨rfl, h9⟩
    clear zK00 zK01 zK40 zK41 zK42
    replace K0 := K0.below h9 K0.lt
    replace K4 := K4.below h9 K4.lt
    replace GB := GB.trans (h9.mono GB.size)
    clear h9
    have K7 := Blk.new w2 23 #[.int .i64 x1, .int .i64 x2]
    replace K0 := K0.alloc (.cells #[.int .i64 x1, .int .i64 x2] 23)
    replace K4 := K4.alloc (.cells #[.int .i64 x1, .int .i64 x2] 23)
    replace GB := GB.alloc GB.size (.cells #[.int .i64 x1, .int .i64 x2] 23)
    have zK70 := K7.cell 0
    have zK71 := K7.cell 1
    have zK40 := K4.cell 0
    have zK41 := K4.cell 1
    have zK42 := K4.cell 2
    go_wp2_with fail
    refine (HP2.out _).mono ?_
    rintro e w3 ⟨rfl, h9⟩
    clear zK70 zK71 zK40 zK41 zK42
    replace K0 := K0.below h9 K0.lt
    replace K4 := K4.below h9 K4.lt
    replace GB := GB.trans (h9.mono GB.size)
    clear h9
    clear K7
    have K9 := Blk.new w3 23 #[.int .i64 y1, .int .i64 y2]
    replace K0 := K0.alloc (.cells #[.int .i64 y1, .int .i64 y2] 23)
    replace K4 := K4.alloc (.cells #[.int .i64 y1, .int .i64 y2] 23)
    replace GB := GB.alloc GB.size (.cells #[.int .i64 y1, .int .i64 y2] 23)
    have zK00 := K0.cell 0
    have zK40 := K4.cell 0
    have zK41 := K4.cell 1
    have zK42 := K4.cell 2
    go_upto_region 7 with fail
    clear zK00 zK40 zK41 zK42
    obtain ⟨g9, hg9⟩ : ∃ j, w3.heap.size = j := ⟨_, rfl⟩
    rw [hg9] at K9 ⊢
    clear hg9
    generalize w3.alloc (.cells #[.int .i64 y1, .int .i64 y2] 23) = X7 at K0 K4 K9 GB ⊢
    go_cut [49] (fun s X => s = .bool q7 ∧ Blk X w.heap.size 23 #[.int .i64 c, .int .i64 t] ∧ Blk X (w.heap.size + 1) 36 #[.int .i64 d, .int .i64 g, .int .i64 n] ∧ Blk X g9 23 #[.int .i64 y1, .int .i64 y2] ∧ Below w.heap.size w X)
    case first =>
      have h7 := HQ7.out
      have zK00 := K0.cell 0
      have zK40 := K4.cell 0
      have zK41 := K4.cell 1
      have zK42 := K4.cell 2
      by_cases h1 : E2 = 0
      · have a1 : (E2 == 0) = true := by simp [h1]
        by_cases h2 : c ≤ wrap64 (100 * n)
        · have a2 : decide (c ≤ wrap64 (100 * n)) = true := decide_eq_true h2
          obtain rfl : true = q7 := by rw [← h7]; exact (decide_eq_true ⟨h1, h2⟩).symm
          clear h1 h2 h7
          go_wp2_with fail
          go_meet
          exact ⟨rfl, K0, K4, K9, GB⟩
        · have a2 : decide (c ≤ wrap64 (100 * n)) = false := decide_eq_false h2
          obtain rfl : false = q7 := by rw [← h7]; exact (decide_eq_false (fun q => h2 q.2)).symm
          clear h1 h2 h7
          go_wp2_with fail
          go_meet
          exact ⟨rfl, K0, K4, K9, GB⟩
      · have a1 : (E2 == 0) = false := by simp [h1]
        obtain rfl : false = q7 := by rw [← h7]; exact (decide_eq_false (fun q => h1 q.1)).symm
        clear h1 h7
        go_wp2_with fail
        go_meet
        exact ⟨rfl, K0, K4, K9, GB⟩
    case rest =>
      clear K0 K4 K9 GB
      obtain ⟨rfl, K0, K4, K9, GB⟩ := hcut
      rename World => X8
      go_upto_if 49 with fail
      go_cut [] (fun X => Blk X w.heap.size 23 #[.int .i64 c, .int .i64 t] ∧ Blk X (w.heap.size + 1) 36 #[.int .i64 d, .int .i64 g, .int .i64 n] ∧ Below w.heap.size w X)
      case first =>
        cases q7 with
        | false =>
          go_wp2_with fail
          go_meet
          exact ⟨K0, K4, GB⟩
        | true =>
          have zK00 := K0.cell 0
          have zK01 := K0.cell 1
          have zK40 := K4.cell 0
          have zK41 := K4.cell 1
          have zK42 := K4.cell 2
          go_wp2_with fail
          refine (HP3.out _).mono ?_
          rintro e w4 ⟨rfl, h9⟩
          clear zK00 zK01 zK40 zK41 zK42
          replace K0 := K0.below h9 K0.lt
          replace K4 := K4.below h9 K4.lt
          replace K9 := K9.below h9 K9.lt
          replace GB := GB.trans (h9.mono GB.size)
          clear h9
          have K11 := Blk.new w4 23 #[.int .i64 s1, .int .i64 s2]
          replace K0 := K0.alloc (.cells #[.int .i64 s1, .int .i64 s2] 23)
          replace K4 := K4.alloc (.cells #[.int .i64 s1, .int .i64 s2] 23)
          replace K9 := K9.alloc (.cells #[.int .i64 s1, .int .i64 s2] 23)
          replace GB := GB.alloc GB.size (.cells #[.int .i64 s1, .int .i64 s2] 23)
          have zK40 := K4.cell 0
          have zK41 := K4.cell 1
          have zK42 := K4.cell 2
          have zK90 := K9.cell 0
          have zK91 := K9.cell 1
          have zK110 := K11.cell 0
          have zK111 := K11.cell 1
          by_cases h3 : wrap64 (d + g) ≤ 10000000
          · have a3 : decide (wrap64 (d + g) ≤ 10000000) = true := decide_eq_true h3
            obtain ⟨rfl, rfl, rfl⟩ := H3.out (by simp) h3
            have v1 : (y1 != y1) = false := by simp
            have v2 : (y2 != y2) = false := by simp
            have v3 : (y1 == y1) = true := by simp
            have v4 : (y2 == y2) = true := by simp
            clear h3
            go_wp2_with fail
            go_meet
            exact ⟨K0, K4, GB⟩
          · have a3 : decide (wrap64 (d + g) ≤ 10000000) = false := decide_eq_false h3
            clear h3
            go_wp2_with fail
            go_meet
            exact ⟨K0, K4, GB⟩
      case rest =>
        clear K0 K4 K9 GB
        obtain ⟨K0, K4, GB⟩ := hcut
        rename World => X9
        have zK00 := K0.cell 0
        have zK01 := K0.cell 1
        go_wp2_with fail
        refine (HC1.out _).mono ?_
        rintro e w5 ⟨rfl, h9⟩
        clear zK00 zK01
        replace K0 := K0.below h9 K0.lt
        replace K4 := K4.below h9 K4.lt
        replace GB := GB.trans (h9.mono GB.size)
        clear h9
        have K13 := Blk.new w5 23 #[.int .i64 u1, .int .i64 u2]
        replace K0 := K0.alloc (.cells #[.int .i64 u1, .int .i64 u2] 23)
        replace K4 := K4.alloc (.cells #[.int .i64 u1, .int .i64 u2] 23)
        replace GB := GB.alloc GB.size (.cells #[.int .i64 u1, .int .i64 u2] 23)
        by_cases h1 : E3 = 0
        · have a1 : (E3 != 0) = false := by simp [h1]
          by_cases h2 : p = 0
          · have a2 : (p == 0) = true := by simp [h2]
            have HE := Lib.hid GB
            clear h1 h2 GB K0 K4 K13
            go_wp2
            go_ret
            exact ⟨rfl, HE.out⟩
          · have a2 : (p == 0) = false := by simp [h2]
            by_cases h3 : c = 0
            · have a3 : (c == 0) = true := by simp [h3]
              have z0 := K0.cell 0
              have HE := Lib.hid GB
              clear h1 h2 h3 GB K0 K4 K13
              go_wp2
              go_ret
              exact ⟨rfl, HE.out⟩
            · have a3 : (c == 0) = false := by simp [h3]
              obtain ⟨v2, hv1, hv2, hv3⟩ := H4.out h1 h2 h3
              have HC2 : Hid (∀ u, Calls Try.prog 20 #[.agg #[.int .i64 u1, .int .i64 u2], .int .i64 c] u (Said (.tuple #[.agg #[.int .i64 c, .int .i64 v2], .int .i64 0]) u)) := Lib.hid (fun u => by
                have q := change_any u1 u2 c u
                rw [hv1] at q
                exact q)
              have a4 : decide (v2 ≤ t) = true := decide_eq_true hv2
              have a5 : (c == c) = true := by simp
              clear h1 h2 h3 hv1 hv2
              have zK00 := K0.cell 0
              have zK01 := K0.cell 1
              have zK130 := K13.cell 0
              have zK131 := K13.cell 1
              go_wp2_with fail
              refine (HC2.out _).mono ?_
              rintro e w6 ⟨rfl, h9⟩
              clear zK00 zK01 zK130 zK131
              replace K0 := K0.below h9 K0.lt
              replace K4 := K4.below h9 K4.lt
              replace GB := GB.trans (h9.mono GB.size)
              clear h9
              have K14 := Blk.new w6 23 #[.int .i64 c, .int .i64 v2]
              replace K0 := K0.alloc (.cells #[.int .i64 c, .int .i64 v2] 23)
              replace K4 := K4.alloc (.cells #[.int .i64 c, .int .i64 v2] 23)
              replace GB := GB.alloc GB.size (.cells #[.int .i64 c, .int .i64 v2] 23)
              have zK00 := K0.cell 0
              have zK01 := K0.cell 1
              have zK140 := K14.cell 0
              have zK141 := K14.cell 1
              have HE := Lib.hid GB
              clear GB K0 K4 K13 K14
              by_cases h5 : p < c
              · have a6 : decide (p < c) = true := decide_eq_true h5
                clear h5 hv3
                go_wp2
                go_ret
                exact ⟨rfl, HE.out⟩
              · have a6 : decide (p < c) = false := decide_eq_false h5
                have hv4 : v2 = t := hv3.resolve_left h5
                have a7 : (v2 == t) = true := by simp [hv4]
                clear h5 hv3 hv4
                go_wp2
                go_ret
                exact ⟨rfl, HE.out⟩
        · have a1 : (E3 != 0) = true := by simp [h1]
          have HE := Lib.hid GB
          clear h1 GB K0 K4 K13
          go_wp2
          go_ret
          exact ⟨rfl, HE.out⟩
  · obtain ⟨rfl, rfl⟩ := pass_no h1 hE
    have a1 : (E1 != 0) = true := by simp [hE]
    clear h1 h3 h4 hE
    go_enter Try.func8, Try.ntmps8
    go_wp2_with fail
    refine (HK.out _).mono ?_
    rintro e w1 ⟨rfl, h9⟩
    replace K0 := K0.below h9 K0.lt
    replace K4 := K4.below h9 K4.lt
    replace GB := GB.trans (h9.mono GB.size)
    clear h9
    have zK00 := K0.cell 0
    have zK01 := K0.cell 1
    have zK40 := K4.cell 0
    have zK41 := K4.cell 1
    have zK42 := K4.cell 2
    go_wp2_with fail
    refine (HP1.out _).mono ?_
    rintro e w2 ⟨rfl, h9⟩
    clear zK00 zK01 zK40 zK41 zK42
    replace K0 := K0.below h9 K0.lt
    replace K4 := K4.below h9 K4.lt
    replace GB := GB.trans (h9.mono GB.size)
    clear h9
    have K7 := Blk.new w2 23 #[.int .i64 0, .int .i64 0]
    replace K0 := K0.alloc (.cells #[.int .i64 0, .int .i64 0] 23)
    replace K4 := K4.alloc (.cells #[.int .i64 0, .int .i64 0] 23)
    replace GB := GB.alloc GB.size (.cells #[.int .i64 0, .int .i64 0] 23)
    have zK70 := K7.cell 0
    have zK71 := K7.cell 1
    have HE := Lib.hid GB
    clear GB K0 K4 K7
    go_wp2
    go_ret
    exact ⟨rfl, HE.out⟩

end Go.Proofs.Ytcdbkfmdilimaaa
