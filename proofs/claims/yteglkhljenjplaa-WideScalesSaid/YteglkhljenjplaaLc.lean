/-
  The walk of the law on scaled numbers. No statement is proved here.
-/
import Derived.Test.YteglkhljenjplaaWi
import Derived.Test.YteglkhljenjplaaLo
namespace Go.Proofs.Yteglkhljenjplaa
open Go.RowKit

theorem scale_same {a m : Nat} (hm : 0 < m) : scaleN a m m true = a := by
  rw [scaleN_even true (Nat.mul_mod_left _ _), Nat.mul_div_cancel _ hm]
theorem scale_le {a m d : Nat} (hd : 0 < d) (h : m ≤ d) : scaleN a m d true ≤ a := by
  have h1 : a * m ≤ a * d := Nat.mul_le_mul_left _ h
  by_cases hr : a * m % d = 0
  · rw [scaleN_even true hr]
    exact Nat.div_le_of_le_mul (by rw [Nat.mul_comm d]; exact h1)
  · rw [scaleN_up hr]
    have h2 : a * m < a * d := by
      rcases Nat.lt_or_eq_of_le h1 with h2 | h2
      · exact h2
      · rw [h2, Nat.mul_mod_left] at hr
        exact absurd rfl hr
    exact (Nat.div_lt_iff_lt_mul hd).2 h2
theorem scale_ceil {a m d : Nat} (hd : 0 < d) : a * m ≤ scaleN a m d true * d := by
  have h := Nat.div_add_mod (a * m) d
  have h2 := Nat.mod_lt (a * m) hd
  by_cases hr : a * m % d = 0
  · rw [scaleN_even true hr, Nat.mul_comm _ d]
    omega
  · rw [scaleN_up hr, Nat.add_mul, Nat.one_mul, Nat.mul_comm _ d]
    omega
theorem scale_back {a m d : Nat} (hd : 0 < d) (hm : 0 < m) : a ≤ scaleN (scaleN a m d true) d m true :=
  Nat.le_trans ((Nat.le_div_iff_mul_le hm).2 (scale_ceil hd)) (scaleN_ge _ _ _ _)
theorem scale_near (a m d : Nat) : scaleN a m d false ≤ scaleN a m d true ∧ scaleN a m d true ≤ scaleN a m d false + 1 := by
  rw [scaleN_down]
  unfold scaleN
  split <;> omega

set_option maxHeartbeats 4000000 in
set_option maxRecDepth 100000 in
theorem scales_walk (ah al m d : Nat) (hah : ah < 18446744073709551616) (hal : al < 18446744073709551616) (hm : m < 18446744073709551616) (hd : d < 18446744073709551616) (w : World) :
    Calls Try.prog 7 #[.agg #[.int .u64 (ah : Int), .int .u64 (al : Int)], .int .u64 (m : Int), .int .u64 (d : Int)] w (Ans (.bool true) w) := by
  have H := Lib.hid (And.intro hah (And.intro hal (And.intro hm hd)))
  clear hah hal hm hd
  have b0 := Blk.new w 24 #[.int .u64 (ah : Int), .int .u64 (al : Int)]
  have B0 := (Below.refl w.heap.size w).alloc (Nat.le_refl _) (.cells #[.int .u64 (ah : Int), .int .u64 (al : Int)] 24)
  have HB := Lib.hid (And.intro b0.two B0)
  clear b0 B0
  go_enter Try.func7, Try.ntmps7
  go_wp2_with fail
  refine (wakes_any _).mono ?_
  rintro e w1 ⟨rfl, h1⟩
  have k1 := HB.out.1.below h1
  have B1 := HB.out.2.trans (h1.mono HB.out.2.size)
  clear HB h1
  go_upto_if 20 with fail
  go_cut [] (fun wx => C2 w.heap.size (.int .u64 (ah : Int)) (.int .u64 (al : Int)) wx ∧ Below w.heap.size w wx)
  case first =>
    by_cases hm0 : 0 < m
    · have hb : decide (0 < m) = true := decide_eq_true hm0
      have hbi : (0 : Int) < (m : Int) := by omega
      have HS := Lib.hid (fun u => scale_any ah al m m ah al 0 H.out.1 H.out.2.1 H.out.2.2.1 hm0 H.out.2.2.1 (.inl ⟨rfl, scale_same hm0, H.out.1, H.out.2.1⟩) u)
      clear hm0
      obtain ⟨p0, p1⟩ := id k1
      go_wp2_with fail
      refine (HS.out _).mono ?_
      rintro e w2 ⟨rfl, h2⟩
      replace k1 := k1.below h2
      replace B1 := B1.trans (h2.mono B1.size)
      clear h2 p0 p1
      go_upto_region 5 with fail
      have j1 := (Blk.new w2 24 #[.int .u64 (ah : Int), .int .u64 (al : Int)]).two
      replace k1 := k1.alloc (.cells #[.int .u64 (ah : Int), .int .u64 (al : Int)] 24)
      replace B1 := B1.alloc B1.size (.cells #[.int .u64 (ah : Int), .int .u64 (al : Int)] 24)
      generalize w2.alloc (.cells #[.int .u64 (ah : Int), .int .u64 (al : Int)] 24) = W2 at k1 j1 B1 ⊢
      generalize w2.heap.size = g7 at j1 ⊢
      obtain ⟨p0, p1⟩ := id k1
      obtain ⟨q0, q1⟩ := id j1
      go_wp2
      go_meet
      exact ⟨k1, B1⟩
    · have hb : decide (0 < m) = false := decide_eq_false hm0
      obtain rfl : m = 0 := by omega
      clear hm0
      go_wp2
      go_meet
      exact ⟨k1, B1⟩
  case rest =>
    clear k1 B1
    obtain ⟨k1, B1⟩ := hcut
    by_cases hd0 : d = 0
    · subst hd0
      have HS : Hid (∀ u, Calls Try.prog 22 #[.agg #[.int .u64 (ah : Int), .int .u64 (al : Int)], .int .u64 (m : Int), .int .u64 0] u (Ans (.tuple #[.agg #[.int .u64 0, .int .u64 0], .int .i64 130]) u)) := Lib.hid (fun u => scale_nought ah al m u)
      obtain ⟨p0, p1⟩ := id k1
      go_wp2_with fail
      refine (HS.out _).mono ?_
      rintro e w2 ⟨rfl, h2⟩
      replace B1 := B1.trans (h2.mono B1.size)
      replace B1 := B1.alloc B1.size (.cells #[.int .u64 0, .int .u64 0] 24)
      clear h2 p0 p1 k1
      go_wp2
      go_ret
      exact ⟨rfl, B1⟩
    · have hdp : 0 < d := by omega
      obtain ⟨xh, xl, c1, hX⟩ := Num.some (scaleN (ah * 18446744073709551616 + al) m d true)
      have HS := Lib.hid (fun u => scale_any ah al m d xh xl c1 H.out.1 H.out.2.1 H.out.2.2.1 hdp H.out.2.2.2 hX u)
      have hdb : ((d : Int) == 0) = false := by simp; omega
      obtain ⟨p0, p1⟩ := id k1
      have HX := Lib.hid hX
      have HDP := Lib.hid hdp
      clear hX hd0 hdp
      go_wp2_with fail
      refine (HS.out _).mono ?_
      rintro e w2 ⟨rfl, h2⟩
      replace k1 := k1.below h2
      replace B1 := B1.trans (h2.mono B1.size)
      clear h2 p0 p1 HS
      go_upto_region 8 with fail
      have j1 := (Blk.new w2 24 #[.int .u64 (xh : Int), .int .u64 (xl : Int)]).two
      replace k1 := k1.alloc (.cells #[.int .u64 (xh : Int), .int .u64 (xl : Int)] 24)
      replace B1 := B1.alloc B1.size (.cells #[.int .u64 (xh : Int), .int .u64 (xl : Int)] 24)
      generalize w2.alloc (.cells #[.int .u64 (xh : Int), .int .u64 (xl : Int)] 24) = W2 at k1 j1 B1 ⊢
      generalize w2.heap.size = g9 at j1 ⊢
      rcases HX.out with ⟨rfl, e1, hxh, hxl⟩ | ⟨rfl, rfl, rfl, hbig⟩
      · have HXX := Lib.hid (And.intro e1 (And.intro hxh hxl))
        clear e1 hxh hxl HX
        go_upto_if 52 with fail
        go_cut [] (fun wx => C2 w.heap.size (.int .u64 (ah : Int)) (.int .u64 (al : Int)) wx ∧ Below w.heap.size w wx)
        case first =>
          by_cases hm0 : 0 < m
          · have hb : decide (0 < m) = true := decide_eq_true hm0
            have hbi : (0 : Int) < (m : Int) := by omega
            obtain ⟨yh, yl, c2, hY⟩ := Num.some (scaleN (xh * 18446744073709551616 + xl) d m true)
            have HS2 := Lib.hid (fun u => scale_any xh xl d m yh yl c2 HXX.out.2.1 HXX.out.2.2 H.out.2.2.2 hm0 H.out.2.2.1 hY u)
            obtain ⟨r, hr⟩ : ∃ r, cmpN (num yh yl) (num ah al) = r := ⟨_, rfl⟩
            have HC := Lib.hid (fun u => compare_num yh yl ah al r hY.hi hY.lo H.out.1 H.out.2.1 hr u)
            have hY2 : c2 = 0 → decide (r < 0) = false := fun hc => by
              rcases hY with ⟨_, e2, _, _⟩ | ⟨e2, _, _, _⟩
              · have hge := scale_back (a := ah * 18446744073709551616 + al) (m := m) (d := d) HDP.out hm0
                rw [HXX.out.1, e2] at hge
                rw [← num_def, ← num_def] at hge
                rw [← hr]
                rcases cmpN_cases (num yh yl) (num ah al) with ⟨h, e⟩ | ⟨h, e⟩ | ⟨h, e⟩
                · exact absurd hge (Nat.not_le_of_lt h)
                · rw [e]; rfl
                · rw [e]; rfl
              · rw [e2] at hc; cases hc
            have hcc : c2 = 0 ∨ c2 = 131 := by rcases hY with ⟨h, _⟩ | ⟨h, _⟩ <;> simp [h]
            have HY2 := Lib.hid hY2
            clear hm0 hY hr hY2
            obtain ⟨p0, p1⟩ := id k1
            obtain ⟨q0, q1⟩ := id j1
            go_wp2_with fail
            refine (HS2.out _).mono ?_
            rintro e w3 ⟨rfl, h3⟩
            replace k1 := k1.below h3
            replace B1 := B1.trans (h3.mono B1.size)
            clear h3 p0 p1 q0 q1 j1
            go_upto_region 12 with fail
            have j2 := (Blk.new w3 24 #[.int .u64 (yh : Int), .int .u64 (yl : Int)]).two
            replace k1 := k1.alloc (.cells #[.int .u64 (yh : Int), .int .u64 (yl : Int)] 24)
            replace B1 := B1.alloc B1.size (.cells #[.int .u64 (yh : Int), .int .u64 (yl : Int)] 24)
            generalize w3.alloc (.cells #[.int .u64 (yh : Int), .int .u64 (yl : Int)] 24) = W3 at k1 j2 B1 ⊢
            generalize w3.heap.size = g11 at j2 ⊢
            obtain ⟨p0, p1⟩ := id k1
            obtain ⟨q0, q1⟩ := id j2
            rcases hcc with rfl | rfl
            · have hrb := HY2.out rfl
              clear HY2
              go_wp2_with fail
              refine (HC.out _).mono ?_
              rintro e w4 ⟨rfl, h4⟩
              replace k1 := k1.below h4
              replace B1 := B1.trans (h4.mono B1.size)
              clear h4 p0 p1 q0 q1 j2
              go_wp2
              go_meet
              exact ⟨k1, B1⟩
            · clear HY2
              go_wp2
              go_meet
              exact ⟨k1, B1⟩
          · have hb : decide (0 < m) = false := decide_eq_false hm0
            obtain rfl : m = 0 := by omega
            clear hm0
            go_wp2
            go_meet
            exact ⟨k1, B1⟩
        case rest =>
          clear k1 B1 j1
          obtain ⟨k1, B1⟩ := hcut
          obtain ⟨u, cu, hu⟩ := One.some (scaleN al m d true)
          obtain ⟨v, cv, hv⟩ := One.some (scaleN al m d false)
          have HU := Lib.hid (fun x => muldiv_any al m d u cu true H.out.2.1 H.out.2.2.1 HDP.out H.out.2.2.2 hu x)
          have HV := Lib.hid (fun x => muldiv_any al m d v cv false H.out.2.1 H.out.2.2.1 HDP.out H.out.2.2.2 hv x)
          have hn := scale_near al m d
          have hcase : (cv = 131 ∧ cu = 131) ∨ (cv = 0 ∧ cu = 131 ∧ v = 18446744073709551615) ∨ (cv = 0 ∧ cu = 0 ∧ u = v) ∨ (cv = 0 ∧ cu = 0 ∧ u = v + 1 ∧ v < 18446744073709551615) := by
            rcases hu with ⟨h1, h2, h3⟩ | ⟨h1, h2, h3⟩ <;> rcases hv with ⟨h4, h5, h6⟩ | ⟨h4, h5, h6⟩
            · rcases Nat.lt_or_ge v u with h7 | h7
              · exact .inr (.inr (.inr ⟨h4, h1, by omega, by omega⟩))
              · exact .inr (.inr (.inl ⟨h4, h1, by omega⟩))
            · omega
            · exact .inr (.inl ⟨h4, h1, by omega⟩)
            · exact .inl ⟨h4, h1⟩
          clear hn hu hv
          obtain ⟨p0, p1⟩ := id k1
          go_wp2_with fail
          refine (HU.out _).mono ?_
          rintro e w3 ⟨rfl, h3⟩
          replace k1 := k1.below h3
          replace B1 := B1.trans (h3.mono B1.size)
          clear h3 p0 p1
          obtain ⟨p0, p1⟩ := id k1
          go_wp2_with fail
          refine (HV.out _).mono ?_
          rintro e w4 ⟨rfl, h4⟩
          replace B1 := B1.trans (h4.mono B1.size)
          clear h4 p0 p1 k1
          rcases hcase with ⟨rfl, rfl⟩ | ⟨rfl, rfl, rfl⟩ | ⟨rfl, rfl, rfl⟩ | ⟨rfl, rfl, rfl, hvb⟩
          · go_wp2
            go_ret
            exact ⟨rfl, B1⟩
          · go_wp2
            go_ret
            exact ⟨rfl, B1⟩
          · go_wp2
            go_ret
            exact ⟨rfl, B1⟩
          · have e1 : IntKind.u64.wrap ((v : Int) + 1) = ((v + 1 : Nat) : Int) := by rw [IntKind.wrap_u64]; omega
            obtain ⟨v1, hv1⟩ : ∃ v1, v + 1 = v1 := ⟨_, rfl⟩
            have e2 : ((v1 : Int) == (v : Int)) = false := by simp; omega
            rw [hv1] at e1 ⊢
            clear hv1 hvb
            go_wp2
            go_ret
            exact ⟨rfl, B1⟩
      · have hmd : d < m := by
          rcases Nat.lt_or_ge d m with h | h
          · exact h
          · have := scale_le (a := ah * 18446744073709551616 + al) HDP.out h
            have := Nat.le_trans hbig this
            have := H.out.1
            have := H.out.2.1
            omega
        have hb : decide (d < m) = true := decide_eq_true hmd
        clear hbig hmd HX j1 k1
        go_wp2
        go_ret
        exact ⟨rfl, B1⟩

end Go.Proofs.Yteglkhljenjplaa
