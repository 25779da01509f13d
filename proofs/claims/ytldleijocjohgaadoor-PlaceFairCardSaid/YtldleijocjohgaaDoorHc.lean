/-
  PlaceFair's walk. No statement is proved here.
-/
import Derived.Test.YtldleijocjohgaaDoorHa
import Derived.Test.YtldleijocjohgaaDoorHb
import Derived.Test.YtldleijocjohgaaDoorGl
import Derived.Test.YtldleijocjohgaaDoorGm
import Derived.Test.YtldleijocjohgaaDoorGp
namespace Go.Proofs.YtldleijocjohgaaDoor
open Go.RowKit

theorem fairV_no {l : List Wi} {s : Int} {ps : List (Int × Int)} (h : whyE l s ≠ 0) : fairV l s ps = false := if_neg h
theorem fairV_yes {l : List Wi} {S : Nat} {ps : List (Int × Int)} (hr : rightW l = true) (hU : ∀ (k : Nat) (w : Wi), l[k]? = some w → UW w) (hS : S < 256) : fairV l (S : Int) ps = fairR S ps l 0 := by
  unfold fairV
  rw [if_pos (by unfold whyE; rw [hr, if_pos rfl, if_pos (by omega)]), Int.toNat_natCast]
  exact fair_same hr hU hS ps

set_option maxRecDepth 100000 in
set_option maxHeartbeats 8000000 in
theorem fair_walk (A : Option Addr) (n c : Nat) (l : List Wi) (s : Int) (A' : Option Addr) (n' c' : Nat) (ps : List (Int × Int)) (w : World) (hD : Db w) (hR : Reads w w.heap.size 4 A n (wivs l)) (hU : ∀ (k : Nat) (x : Wi), l[k]? = some x → UW x) (hs : U32 s) (hP : Reads w w.heap.size 2 A' n' (svs ps)) :
    Calls Tryd.prog 4 #[.slice A n c, .int .u32 s, .slice A' n' c'] w (Said (.bool true) w) := by
  have HK := Lib.hid (fun u hu => wakes_any u hu)
  have HD := Lib.hid hD
  by_cases hn : 60 < n
  · have q : decide ((60 : Int) < (n : Int)) = true := decide_eq_true (by omega)
    clear hR hU hs hD hn hP
    go_enter Tryd.func4, Tryd.ntmps4
    go_wp2_with fail
    refine (HK.out _ HD.out).mono ?_
    rintro e w1 ⟨rfl, h1⟩
    go_wp2
    go_ret
    exact ⟨rfl, h1⟩
  · have q : decide ((60 : Int) < (n : Int)) = false := decide_eq_false (by omega)
    by_cases hn' : 60 < n'
    · have q' : decide ((60 : Int) < (n' : Int)) = true := decide_eq_true (by omega)
      clear hR hU hs hD hn hP hn'
      go_enter Tryd.func4, Tryd.ntmps4
      go_wp2_with fail
      refine (HK.out _ HD.out).mono ?_
      rintro e w1 ⟨rfl, h1⟩
      go_wp2
      go_ret
      exact ⟨rfl, h1⟩
    · have q' : decide ((60 : Int) < (n' : Int)) = false := decide_eq_false (by omega)
      obtain ⟨i0, hi0, hz0, hz1, hz2⟩ := info_parts wish_info
      obtain ⟨j0, hj0, hy0, hy1, hy2⟩ := info_parts put_info
      have HL := Lib.hid (wishes_len hR)
      have HLP := Lib.hid (reads_len hP)
      have HR := Lib.hid hR
      have HP := Lib.hid hP
      have hn60 : n ≤ 60 := by omega
      have hn60' : n' ≤ 60 := by omega
      have HFA := Lib.hid (fun B b B' b' u hR hP => fair_any B n b l s B' n' b' ps u hs hR hU (by omega) hP (by omega))
      have HHO := Lib.hid (fun B b B' b' u hR hP => home_any B n b l B' n' b' ps u hR hU (by omega) hP (by omega))
      have HRI := Lib.hid (fun B b u hR => rrow_any B n b l u hR (by omega))
      have HWH := Lib.hid (fun B b u hR => why_any B n b l s u hR (by omega))
      unfold NumsOf at HHO
      cases hr : rightW l with
      | false =>
        have hE : whyE l s = 230 := by unfold whyE; rw [hr]; rfl
        have hST : standE l = 230 := by unfold standE; rw [hr]; rfl
        unfold homesL at HHO
        rw [if_neg (by rw [hr]; simp), hST] at HHO
        rw [fairV_no (by rw [hE]; decide), hE] at HFA
        rw [hr] at HRI
        clear hR hU hs hD hn hn' hP hE hST hr HWH
        go_enter Tryd.func4, Tryd.ntmps4
        go_wp2_with fail
        refine (HK.out _ HD.out).mono ?_
        rintro e w1 ⟨rfl, h1⟩
        have HR1 := Lib.hid ((HR.out.below h1).more h1.size)
        have HP1 := Lib.hid ((HP.out.below h1).more h1.size)
        have HT1 := Lib.hid h1
        clear h1
        have HC1 := Lib.hid (HR1.out.alloc (Nat.le_refl _) (.cells #[] 43))
        have HB12 := Lib.hid ((Below.refl w1.heap.size w1).alloc (Nat.le_refl _) (.cells #[] 43))
        go_wp2_with (
          at_builtin
          first
          | refine wpList_append_any _ rfl (.tmp 28) (.tmp 29) 22 rfl w1.heap.size 43 i0 (.agg #[.int .i64 0, .int .i64 0, .int .u32 0, .int .u32 0]) 4 24 Tryd.underlying22 hi0 hz0 hz1 hz2 rfl (by decide) (.slice (some ⟨w1.heap.size, 0, none⟩) 0 0) 0 [] rfl (by simpa using World.ownsRow_made w1 #[] 0 (Nat.le_refl _) (by simp [maxLen]) (by simp)) _ A n c (wivs l) rfl HC1.out (wivs_ones _) (by simp only [maxLen]; omega) (by omega) (by simp) ?_
            intro v9 w91 own9 grow9 _
            rw [List.nil_append, Nat.zero_add] at own9
            obtain ⟨A91, c91, rfl, _, hr9⟩ := own_reads own9
            have HO1 := Lib.hid hr9
            have HB19 := Lib.hid (HB12.out.grown grow9 HB12.out.size (fun k hk => by simp [Value.ownBlock] at hk; omega))
            have HQ19 := Lib.hid ((HP1.out.below HB19.out).more HB19.out.size)
            have HC1b := Lib.hid (HQ19.out.alloc (Nat.le_refl _) (.cells #[] 52))
            have HD12 := Lib.hid ((Below.refl w91.heap.size w91).alloc (Nat.le_refl _) (.cells #[] 52))
            clear own9 grow9 hr9
          | refine wpList_append_any _ rfl (.tmp 32) (.tmp 33) 26 rfl w91.heap.size 52 j0 (.agg #[.int .i64 0, .int .i64 0]) 2 16 Tryd.underlying26 hj0 hy0 hy1 hy2 rfl (by decide) (.slice (some ⟨w91.heap.size, 0, none⟩) 0 0) 0 [] rfl (by simpa using World.ownsRow_made w91 #[] 0 (Nat.le_refl _) (by simp [maxLen]) (by simp)) _ A' n' c' (svs ps) rfl HC1b.out (svs_ones _) (by simp only [maxLen]; omega) (by omega) (by simp) ?_
            intro v8 w81 own9 grow9 _
            rw [List.nil_append, Nat.zero_add] at own9
            obtain ⟨A81, c81, rfl, _, hr9⟩ := own_reads own9
            have HV1 := Lib.hid hr9
            have HB18 := Lib.hid (HD12.out.grown grow9 HD12.out.size (fun k hk => by simp [Value.ownBlock] at hk; omega))
            clear own9 grow9 hr9)
        have HO18 := Lib.hid ((HO1.out.below HB18.out).more HB18.out.size)
        have HT18 := Lib.hid (HT1.out.trans ((HB19.out.trans (HB18.out.mono HB19.out.size)).mono HT1.out.size))
        have HR18 := Lib.hid ((HR1.out.below (HB19.out.trans (HB18.out.mono HB19.out.size))).more (HB19.out.trans (HB18.out.mono HB19.out.size)).size)
        have HP18 := Lib.hid ((HP1.out.below (HB19.out.trans (HB18.out.mono HB19.out.size))).more (HB19.out.trans (HB18.out.mono HB19.out.size)).size)
        clear HC1 HB12 HO1 HB19 HQ19 HC1b HD12 HB18
        refine (HFA.out _ _ _ _ _ HO18.out HV1.out).mono ?_
        rintro e w2 ⟨rfl, h2⟩
        have HR2 := Lib.hid ((HR18.out.below h2).more h2.size)
        have HP2 := Lib.hid ((HP18.out.below h2).more h2.size)
        have HT2 := Lib.hid (HT18.out.trans (h2.mono HT18.out.size))
        clear h2 HO18 HV1 HR18 HP18 HT18 HR1 HP1 HT1
        have HC2 := Lib.hid (HR2.out.alloc (Nat.le_refl _) (.cells #[] 43))
        have HB22 := Lib.hid ((Below.refl w2.heap.size w2).alloc (Nat.le_refl _) (.cells #[] 43))
        go_wp2_with (
          at_builtin
          first
          | refine wpList_append_any _ rfl (.tmp 39) (.tmp 40) 22 rfl w2.heap.size 43 i0 (.agg #[.int .i64 0, .int .i64 0, .int .u32 0, .int .u32 0]) 4 24 Tryd.underlying22 hi0 hz0 hz1 hz2 rfl (by decide) (.slice (some ⟨w2.heap.size, 0, none⟩) 0 0) 0 [] rfl (by simpa using World.ownsRow_made w2 #[] 0 (Nat.le_refl _) (by simp [maxLen]) (by simp)) _ A n c (wivs l) rfl HC2.out (wivs_ones _) (by simp only [maxLen]; omega) (by omega) (by simp) ?_
            intro v9 w92 own9 grow9 _
            rw [List.nil_append, Nat.zero_add] at own9
            obtain ⟨A92, c92, rfl, _, hr9⟩ := own_reads own9
            have HO2 := Lib.hid hr9
            have HB29 := Lib.hid (HB22.out.grown grow9 HB22.out.size (fun k hk => by simp [Value.ownBlock] at hk; omega))
            have HQ29 := Lib.hid ((HP2.out.below HB29.out).more HB29.out.size)
            have HC2b := Lib.hid (HQ29.out.alloc (Nat.le_refl _) (.cells #[] 52))
            have HD22 := Lib.hid ((Below.refl w92.heap.size w92).alloc (Nat.le_refl _) (.cells #[] 52))
            clear own9 grow9 hr9
          | refine wpList_append_any _ rfl (.tmp 42) (.tmp 43) 26 rfl w92.heap.size 52 j0 (.agg #[.int .i64 0, .int .i64 0]) 2 16 Tryd.underlying26 hj0 hy0 hy1 hy2 rfl (by decide) (.slice (some ⟨w92.heap.size, 0, none⟩) 0 0) 0 [] rfl (by simpa using World.ownsRow_made w92 #[] 0 (Nat.le_refl _) (by simp [maxLen]) (by simp)) _ A' n' c' (svs ps) rfl HC2b.out (svs_ones _) (by simp only [maxLen]; omega) (by omega) (by simp) ?_
            intro v8 w82 own9 grow9 _
            rw [List.nil_append, Nat.zero_add] at own9
            obtain ⟨A82, c82, rfl, _, hr9⟩ := own_reads own9
            have HV2 := Lib.hid hr9
            have HB28 := Lib.hid (HD22.out.grown grow9 HD22.out.size (fun k hk => by simp [Value.ownBlock] at hk; omega))
            clear own9 grow9 hr9)
        have HO28 := Lib.hid ((HO2.out.below HB28.out).more HB28.out.size)
        have HT28 := Lib.hid (HT2.out.trans ((HB29.out.trans (HB28.out.mono HB29.out.size)).mono HT2.out.size))
        have HR28 := Lib.hid ((HR2.out.below (HB29.out.trans (HB28.out.mono HB29.out.size))).more (HB29.out.trans (HB28.out.mono HB29.out.size)).size)
        have HP28 := Lib.hid ((HP2.out.below (HB29.out.trans (HB28.out.mono HB29.out.size))).more (HB29.out.trans (HB28.out.mono HB29.out.size)).size)
        clear HC2 HB22 HO2 HB29 HQ29 HC2b HD22 HB28
        refine (HHO.out _ _ _ _ _ HO28.out HV2.out).mono ?_
        rintro e w3 ⟨v3, rfl, O3, h3⟩
        obtain ⟨A3, c3, rfl, _, P3⟩ := own_reads O3
        have HH3 := Lib.hid P3
        have HR3 := Lib.hid ((HR28.out.below h3).more h3.size)
        have HP3 := Lib.hid ((HP28.out.below h3).more h3.size)
        have HT3 := Lib.hid (HT28.out.trans (h3.mono HT28.out.size))
        clear h3 O3 P3 HO28 HV2 HR28 HP28 HT28 HR2 HP2 HT2
        go_wp2_with fail
        refine (HRI.out _ _ _ HR3.out).mono ?_
        rintro e w4 ⟨rfl, h4⟩
        have HR4 := Lib.hid ((HR3.out.below h4).more h4.size)
        have HP4 := Lib.hid ((HP3.out.below h4).more h4.size)
        have HT4 := Lib.hid (HT3.out.trans (h4.mono HT3.out.size))
        have HH4 := Lib.hid ((HH3.out.below h4).more h4.size)
        clear h4 HR3 HP3 HT3 HH3
        go_wp2
        go_ret
        exact ⟨rfl, HT4.out⟩
      | true =>
        have hST : standE l = 0 := by unfold standE; rw [hr]; rfl
        rw [← want_homes hr ps, hST] at HHO
        rw [hr] at HRI
        obtain ⟨fv, hfv⟩ : ∃ b, fairV l s ps = b := ⟨_, rfl⟩
        rw [hfv] at HFA
        have HEND : Hid ((whyE l s = 140 ∧ fv = false) ∨ (whyE l s = 0 ∧ ∃ S : Nat, s = (S : Int) ∧ S < 256 ∧ fv = fairR S ps l 0)) := Lib.hid (by
          by_cases h256 : s < 256
          · obtain ⟨S, hS⟩ := Int.eq_ofNat_of_zero_le hs.1
            have h : S < 256 := by omega
            refine .inr ⟨by unfold whyE; rw [hr, if_pos rfl, if_pos h256], S, hS, h, ?_⟩
            rw [← hfv, hS]
            exact fairV_yes hr hU h
          · have hE : whyE l s = 140 := by unfold whyE; rw [hr, if_pos rfl, if_neg h256]
            exact .inl ⟨hE, by rw [← hfv]; exact fairV_no (by rw [hE]; decide)⟩)
        have HRF := Lib.hid (fun B b B' b' (S : Nat) (hS : S < 256) u hR hP => rfair_any B n b l S B' n' b' ps u hR hU hr hS (by omega) hP (by omega))
        have hwl := wantL_le l ps
        rw [HL.out, HLP.out] at hwl
        have hwl2 : (wantL l ps).length ≤ 3600 := Nat.le_trans hwl (Nat.mul_le_mul hn60' hn60)
        have HWB : Hid (∀ k j (y : Int × Int), k < n' → ps[k]? = some y → j ≤ n → (wantL l (ps.take k) ++ wantW (l.take j) y).length ≤ 7200) := Lib.hid (fun k j y hk _ hj => by
          rw [List.length_append]
          have h1 := wantL_le l (ps.take k)
          have h2 := wantW_le (l.take j) y
          have h3 : (ps.take k).length ≤ 60 := by rw [List.length_take]; omega
          have h4 : l.length ≤ 60 := by rw [HL.out]; exact hn60
          have h5 := Nat.mul_le_mul h3 h4
          rw [List.length_take] at h2
          omega)
        have HWF : Hid (∀ k, k = n' → wantL l (ps.take k) = wantL l ps) := Lib.hid (fun k h => by rw [h, ← HLP.out, List.take_length])
        have HWI : Hid (∀ j y, j = n → wantW (l.take j) y = wantW l y) := Lib.hid (fun j y h => by rw [h, ← HL.out, List.take_length])
        obtain ⟨i1', hi1, hw0, hw1, hw2⟩ := info_parts int_info
        generalize hWL : wantL l ps = WS at *
        have HWL := Lib.hid hWL
        obtain ⟨M, hM⟩ : ∃ M, WS.length = M := ⟨_, rfl⟩
        have HMl := Lib.hid hM
        rw [hM] at HHO hwl2
        clear hR hU hs hD hn hn' hP hST hr hfv hwl hM hWL
        go_enter Tryd.func4, Tryd.ntmps4
        go_wp2_with fail
        refine (HK.out _ HD.out).mono ?_
        rintro e w1 ⟨rfl, h1⟩
        have HR1 := Lib.hid ((HR.out.below h1).more h1.size)
        have HP1 := Lib.hid ((HP.out.below h1).more h1.size)
        have HT1 := Lib.hid h1
        clear h1
        have HC1 := Lib.hid (HR1.out.alloc (Nat.le_refl _) (.cells #[] 43))
        have HB12 := Lib.hid ((Below.refl w1.heap.size w1).alloc (Nat.le_refl _) (.cells #[] 43))
        go_wp2_with (
          at_builtin
          first
          | refine wpList_append_any _ rfl (.tmp 28) (.tmp 29) 22 rfl w1.heap.size 43 i0 (.agg #[.int .i64 0, .int .i64 0, .int .u32 0, .int .u32 0]) 4 24 Tryd.underlying22 hi0 hz0 hz1 hz2 rfl (by decide) (.slice (some ⟨w1.heap.size, 0, none⟩) 0 0) 0 [] rfl (by simpa using World.ownsRow_made w1 #[] 0 (Nat.le_refl _) (by simp [maxLen]) (by simp)) _ A n c (wivs l) rfl HC1.out (wivs_ones _) (by simp only [maxLen]; omega) (by omega) (by simp) ?_
            intro v9 w91 own9 grow9 _
            rw [List.nil_append, Nat.zero_add] at own9
            obtain ⟨A91, c91, rfl, _, hr9⟩ := own_reads own9
            have HO1 := Lib.hid hr9
            have HB19 := Lib.hid (HB12.out.grown grow9 HB12.out.size (fun k hk => by simp [Value.ownBlock] at hk; omega))
            have HQ19 := Lib.hid ((HP1.out.below HB19.out).more HB19.out.size)
            have HC1b := Lib.hid (HQ19.out.alloc (Nat.le_refl _) (.cells #[] 52))
            have HD12 := Lib.hid ((Below.refl w91.heap.size w91).alloc (Nat.le_refl _) (.cells #[] 52))
            clear own9 grow9 hr9
          | refine wpList_append_any _ rfl (.tmp 32) (.tmp 33) 26 rfl w91.heap.size 52 j0 (.agg #[.int .i64 0, .int .i64 0]) 2 16 Tryd.underlying26 hj0 hy0 hy1 hy2 rfl (by decide) (.slice (some ⟨w91.heap.size, 0, none⟩) 0 0) 0 [] rfl (by simpa using World.ownsRow_made w91 #[] 0 (Nat.le_refl _) (by simp [maxLen]) (by simp)) _ A' n' c' (svs ps) rfl HC1b.out (svs_ones _) (by simp only [maxLen]; omega) (by omega) (by simp) ?_
            intro v8 w81 own9 grow9 _
            rw [List.nil_append, Nat.zero_add] at own9
            obtain ⟨A81, c81, rfl, _, hr9⟩ := own_reads own9
            have HV1 := Lib.hid hr9
            have HB18 := Lib.hid (HD12.out.grown grow9 HD12.out.size (fun k hk => by simp [Value.ownBlock] at hk; omega))
            clear own9 grow9 hr9)
        have HO18 := Lib.hid ((HO1.out.below HB18.out).more HB18.out.size)
        have HT18 := Lib.hid (HT1.out.trans ((HB19.out.trans (HB18.out.mono HB19.out.size)).mono HT1.out.size))
        have HR18 := Lib.hid ((HR1.out.below (HB19.out.trans (HB18.out.mono HB19.out.size))).more (HB19.out.trans (HB18.out.mono HB19.out.size)).size)
        have HP18 := Lib.hid ((HP1.out.below (HB19.out.trans (HB18.out.mono HB19.out.size))).more (HB19.out.trans (HB18.out.mono HB19.out.size)).size)
        clear HC1 HB12 HO1 HB19 HQ19 HC1b HD12 HB18
        refine (HFA.out _ _ _ _ _ HO18.out HV1.out).mono ?_
        rintro e w2 ⟨rfl, h2⟩
        have HR2 := Lib.hid ((HR18.out.below h2).more h2.size)
        have HP2 := Lib.hid ((HP18.out.below h2).more h2.size)
        have HT2 := Lib.hid (HT18.out.trans (h2.mono HT18.out.size))
        clear h2 HO18 HV1 HR18 HP18 HT18 HR1 HP1 HT1
        have HC2 := Lib.hid (HR2.out.alloc (Nat.le_refl _) (.cells #[] 43))
        have HB22 := Lib.hid ((Below.refl w2.heap.size w2).alloc (Nat.le_refl _) (.cells #[] 43))
        go_wp2_with (
          at_builtin
          first
          | refine wpList_append_any _ rfl (.tmp 39) (.tmp 40) 22 rfl w2.heap.size 43 i0 (.agg #[.int .i64 0, .int .i64 0, .int .u32 0, .int .u32 0]) 4 24 Tryd.underlying22 hi0 hz0 hz1 hz2 rfl (by decide) (.slice (some ⟨w2.heap.size, 0, none⟩) 0 0) 0 [] rfl (by simpa using World.ownsRow_made w2 #[] 0 (Nat.le_refl _) (by simp [maxLen]) (by simp)) _ A n c (wivs l) rfl HC2.out (wivs_ones _) (by simp only [maxLen]; omega) (by omega) (by simp) ?_
            intro v9 w92 own9 grow9 _
            rw [List.nil_append, Nat.zero_add] at own9
            obtain ⟨A92, c92, rfl, _, hr9⟩ := own_reads own9
            have HO2 := Lib.hid hr9
            have HB29 := Lib.hid (HB22.out.grown grow9 HB22.out.size (fun k hk => by simp [Value.ownBlock] at hk; omega))
            have HQ29 := Lib.hid ((HP2.out.below HB29.out).more HB29.out.size)
            have HC2b := Lib.hid (HQ29.out.alloc (Nat.le_refl _) (.cells #[] 52))
            have HD22 := Lib.hid ((Below.refl w92.heap.size w92).alloc (Nat.le_refl _) (.cells #[] 52))
            clear own9 grow9 hr9
          | refine wpList_append_any _ rfl (.tmp 42) (.tmp 43) 26 rfl w92.heap.size 52 j0 (.agg #[.int .i64 0, .int .i64 0]) 2 16 Tryd.underlying26 hj0 hy0 hy1 hy2 rfl (by decide) (.slice (some ⟨w92.heap.size, 0, none⟩) 0 0) 0 [] rfl (by simpa using World.ownsRow_made w92 #[] 0 (Nat.le_refl _) (by simp [maxLen]) (by simp)) _ A' n' c' (svs ps) rfl HC2b.out (svs_ones _) (by simp only [maxLen]; omega) (by omega) (by simp) ?_
            intro v8 w82 own9 grow9 _
            rw [List.nil_append, Nat.zero_add] at own9
            obtain ⟨A82, c82, rfl, _, hr9⟩ := own_reads own9
            have HV2 := Lib.hid hr9
            have HB28 := Lib.hid (HD22.out.grown grow9 HD22.out.size (fun k hk => by simp [Value.ownBlock] at hk; omega))
            clear own9 grow9 hr9)
        have HO28 := Lib.hid ((HO2.out.below HB28.out).more HB28.out.size)
        have HT28 := Lib.hid (HT2.out.trans ((HB29.out.trans (HB28.out.mono HB29.out.size)).mono HT2.out.size))
        have HR28 := Lib.hid ((HR2.out.below (HB29.out.trans (HB28.out.mono HB29.out.size))).more (HB29.out.trans (HB28.out.mono HB29.out.size)).size)
        have HP28 := Lib.hid ((HP2.out.below (HB29.out.trans (HB28.out.mono HB29.out.size))).more (HB29.out.trans (HB28.out.mono HB29.out.size)).size)
        clear HC2 HB22 HO2 HB29 HQ29 HC2b HD22 HB28
        refine (HHO.out _ _ _ _ _ HO28.out HV2.out).mono ?_
        rintro e w3 ⟨v3, rfl, O3, h3⟩
        obtain ⟨A3, c3, rfl, _, P3⟩ := own_reads O3
        have HH3 := Lib.hid P3
        have HR3 := Lib.hid ((HR28.out.below h3).more h3.size)
        have HP3 := Lib.hid ((HP28.out.below h3).more h3.size)
        have HT3 := Lib.hid (HT28.out.trans (h3.mono HT28.out.size))
        clear h3 O3 P3 HO28 HV2 HR28 HP28 HT28 HR2 HP2 HT2
        go_wp2_with fail
        refine (HRI.out _ _ _ HR3.out).mono ?_
        rintro e w4 ⟨rfl, h4⟩
        have HR4 := Lib.hid ((HR3.out.below h4).more h4.size)
        have HP4 := Lib.hid ((HP3.out.below h4).more h4.size)
        have HT4 := Lib.hid (HT3.out.trans (h4.mono HT3.out.size))
        have HH4 := Lib.hid ((HH3.out.below h4).more h4.size)
        clear h4 HR3 HP3 HT3 HH3
        go_wp2_with fail
        go_loopw [11, 68] (fun v i wr => ∃ k m : Nat, k ≤ n' ∧ i = .int .i64 (k : Int) ∧ Hid (m = (wantL l (ps.take k)).length) ∧ Hid (wr.ownsRow w4.heap.size 3 1 v m (vs (wantL l (ps.take k)))) ∧ Below w4.heap.size w4 wr) (fun _ i _ => n' - (intOf i).toNat)
        case atStart => exact ⟨0, 0, by omega, rfl, Lib.hid rfl, Lib.hid (World.ownsRow_nil _ _ _ _), Below.refl _ _⟩
        case round =>
          obtain ⟨k, m, hk, rfl, hml, hO, hB⟩ := hrel
          by_cases hlt : k < n'
          · obtain ⟨⟨y, z⟩, hp⟩ := elem_at (l := ps) (k := k) (by rw [HLP.out]; exact hlt)
            obtain ⟨ad', rfl, hb', p0, p1⟩ := seat_at (HP4.out.below hB) hp
            have i1 : (0 : Int) ≤ (k : Int) := by omega
            have i2 : (k : Int) < (n' : Int) := by omega
            have hszr := hB.size
            have HStep := Lib.hid (wantL_step (l := l) hp)
            have HBd := Lib.hid (fun j (hj : j ≤ n) => HWB.out k j (y, z) hlt hp hj)
            have BN := Lib.hid (hB.alloc hB.size (.cells #[.int .i64 y, .int .i64 z] 52))
            have K7 := Lib.hid (Blk.new wr 52 #[.int .i64 y, .int .i64 z])
            have HO1 := Lib.hid (hO.out.alloc (.cells #[.int .i64 y, .int .i64 z] 52))
            have HO1' : Hid ((wr.alloc (.cells #[.int .i64 y, .int .i64 z] 52)).ownsRow w4.heap.size 3 1 u11 m (vs (wantL l (ps.take k) ++ wantW (l.take 0) (y, z)))) := Lib.hid (by
              show (wr.alloc _).ownsRow _ _ _ _ _ (vs (wantL l (ps.take k) ++ []))
              rw [List.append_nil]
              exact HO1.out)
            have hml' : Hid (m = (wantL l (ps.take k) ++ wantW (l.take 0) (y, z)).length) := Lib.hid (by
              show m = (wantL l (ps.take k) ++ []).length
              rw [List.append_nil]
              exact hml.out)
            clear hp hB hO HO1 hml
            generalize wantL l (ps.take k) = W0 at *
            go_wp2_with fail
            go_loopw [11, 74] (fun v i w5 => ∃ j mm : Nat, j ≤ n ∧ i = .int .i64 (j : Int) ∧ Hid (mm = (W0 ++ wantW (l.take j) (y, z)).length) ∧ Hid (w5.ownsRow w4.heap.size 3 1 v mm (vs (W0 ++ wantW (l.take j) (y, z)))) ∧ Hid (Blk w5 wr.heap.size 52 #[.int .i64 y, .int .i64 z]) ∧ Below w4.heap.size w4 w5) (fun _ i _ => n - (intOf i).toNat)
            case atStart => exact ⟨0, m, by omega, rfl, hml', HO1', K7, BN.out⟩
            case round =>
              rename World => w5
              clear K7 BN HO1' hml' p0 p1
              obtain ⟨j, mm, hj, rfl, hml, hO, hK5, hB⟩ := hrel
              have hm4000 : mm ≤ 7200 := by have := HBd.out j hj; have := hml.out; omega
              have hszb := hB.size
              by_cases hjn : j < n
              · obtain ⟨x, hx⟩ := elem_at (l := l) (k := j) (by rw [HL.out]; exact hjn)
                obtain ⟨ad, rfl, hb, d0, d1, d2, d3⟩ := wish_at (HR4.out.below hB) hx
                have j1 : (0 : Int) ≤ (j : Int) := by omega
                have j2 : (j : Int) < (n : Int) := by omega
                have HW1 := Lib.hid (wantW_step hx (y, z))
                obtain ⟨xv, xa, xh, xs⟩ := x
                have HAT := Lib.hid (show atB (y, z) ⟨xv, xa, xh, xs⟩ = (xv == y && xa == z && decide (0 ≤ xa)) from rfl)
                have B6 := Lib.hid (hB.alloc hB.size (.cells #[.int .i64 xv, .int .i64 xa, .int .u32 xh, .int .u32 xs] 43))
                have K6 := Blk.new w5 43 #[.int .i64 xv, .int .i64 xa, .int .u32 xh, .int .u32 xs]
                have z0 := K6.cell 0
                have z1 := K6.cell 1
                have HK7 := Lib.hid (hK5.out.alloc (.cells #[.int .i64 xv, .int .i64 xa, .int .u32 xh, .int .u32 xs] 43))
                have z2 := HK7.out.cell 0
                have z3 := HK7.out.cell 1
                have HO6 := Lib.hid (hO.out.alloc (.cells #[.int .i64 xv, .int .i64 xa, .int .u32 xh, .int .u32 xs] 43))
                have hcn := cell_one_new (w5.alloc (.cells #[.int .i64 xv, .int .i64 xa, .int .u32 xh, .int .u32 xs] 43)) (.int .i64 y) 3
                rw [show (w5.alloc (.cells #[.int .i64 xv, .int .i64 xa, .int .u32 xh, .int .u32 xs] 43)).heap.size = w5.heap.size + 1 from by simp] at hcn
                have HCN := Lib.hid hcn
                have HNO : Hid (atB (y, z) ⟨xv, xa, xh, xs⟩ = false → W0 ++ wantW (l.take (j + 1)) (y, z) = W0 ++ wantW (l.take j) (y, z)) := Lib.hid (fun h => by rw [HW1.out, h]; simp)
                have HYES : Hid (atB (y, z) ⟨xv, xa, xh, xs⟩ = true → W0 ++ wantW (l.take (j + 1)) (y, z) = W0 ++ wantW (l.take j) (y, z) ++ [y]) := Lib.hid (fun h => by rw [HW1.out, h]; simp)
                obtain ⟨WN, hWN⟩ : ∃ WN, W0 ++ wantW (l.take (j + 1)) (y, z) = WN := ⟨_, rfl⟩
                rw [hWN] at HNO HYES
                have HWN := Lib.hid hWN
                generalize W0 ++ wantW (l.take j) (y, z) = WJ at *
                clear hx hB hO hK5 K6 hcn hWN
                cases g1 : (xv == y) with
                | false =>
                  have HV := Lib.hid (HNO.out (by rw [HAT.out, g1]; rfl))
                  clear HNO HYES
                  go_wp2
                  go_roundw
                  case rel => exact ⟨j + 1, mm, by omega, by go_num, Lib.hid (by rw [HWN.out, HV.out]; exact hml.out), Lib.hid (by rw [HWN.out, HV.out]; exact HO6.out), HK7, B6.out⟩
                  case measure => simp [intOf] <;> omega
                | true =>
                  cases g2 : (xa == z) with
                  | false =>
                    have HV := Lib.hid (HNO.out (by rw [HAT.out, g1, g2]; rfl))
                    clear HNO HYES
                    go_wp2
                    go_roundw
                    case rel => exact ⟨j + 1, mm, by omega, by go_num, Lib.hid (by rw [HWN.out, HV.out]; exact hml.out), Lib.hid (by rw [HWN.out, HV.out]; exact HO6.out), HK7, B6.out⟩
                    case measure => simp [intOf] <;> omega
                  | true =>
                    by_cases h3 : 0 ≤ xa
                    · have g3 : decide ((0 : Int) ≤ xa) = true := decide_eq_true h3
                      have HV := Lib.hid (HYES.out (by rw [HAT.out, g1, g2, g3]; rfl))
                      clear HNO HYES
                      go_wp2_with (
                        at_builtin
                        refine wpList_append_own _ rfl (.tmp 95) (.tmp 98) 30 rfl w4.heap.size 3 i1' (.int .i64 0) 1 8 Tryd.underlying30 hi1 hw0 hw1 hw2 rfl (by decide) _ mm _ rfl (HO6.out.alloc _) ⟨_, 0, none⟩ 1 1 [.int .i64 y] rfl rfl HCN.out (by simp [Value.oneCell']) (by simp only [maxLen]; omega) (by omega) (by simp; omega) ?_
                        intro v9 w9 hown9 hg9 _
                        have HO9 := Lib.hid hown9
                        have HB9 := Lib.hid ((B6.out.alloc B6.out.size (.cells #[.int .i64 y] 3)).grown hg9 (by simp; omega) (fun g hg => (HO6.out.lt g hg).1))
                        have HK9 := Lib.hid ((HK7.out.alloc (.cells #[.int .i64 y] 3)).grown hg9 (HK7.out.not_row (by decide) HO6.out))
                        clear hown9 hg9)
                      have HO9' : Hid (w9.ownsRow w4.heap.size 3 1 v9 (mm + 1) (vs WN)) := Lib.hid (by rw [HV.out, vs_append, vs_one]; exact HO9.out)
                      go_roundw
                      case rel => exact ⟨j + 1, mm + 1, by omega, by go_num, Lib.hid (by rw [HWN.out, HV.out, List.length_append, ← hml.out]; rfl), Lib.hid (by rw [HWN.out]; exact HO9'.out), HK9, HB9.out⟩
                      case measure => simp [intOf] <;> omega
                    · have g3 : decide ((0 : Int) ≤ xa) = false := decide_eq_false h3
                      have HV := Lib.hid (HNO.out (by rw [HAT.out, g1, g2, g3]; rfl))
                      have g4 : xa < 0 := by omega
                      clear HNO HYES h3
                      go_wp2
                      go_roundw
                      case rel => exact ⟨j + 1, mm, by omega, by go_num, Lib.hid (by rw [HWN.out, HV.out]; exact hml.out), Lib.hid (by rw [HWN.out, HV.out]; exact HO6.out), HK7, B6.out⟩
                      case measure => simp [intOf] <;> omega
              · obtain rfl : n = j := by omega
                have e1 := HWI.out n (y, z) rfl
                rw [e1] at hml hO
                go_wp2
                go_roundw
                case rel => exact ⟨k + 1, mm, by omega, by go_num, Lib.hid (by rw [HStep.out]; exact hml.out), Lib.hid (by rw [HStep.out]; exact hO.out), hB⟩
                case measure => simp [intOf] <;> omega
          · obtain rfl : n' = k := by omega
            have e1 := HWF.out n' rfl
            rw [e1] at hml hO
            obtain rfl : m = M := hml.out.trans HMl.out
            obtain ⟨A5, c5, rfl, _, P5⟩ := own_reads hO.out
            have HH5 := Lib.hid P5
            have HH45 := Lib.hid ((HH4.out.below hB).more hB.size)
            have HR5 := Lib.hid ((HR4.out.below hB).more hB.size)
            have HP5 := Lib.hid ((HP4.out.below hB).more hB.size)
            have HT5 := Lib.hid (HT4.out.trans (hB.mono HT4.out.size))
            clear hB P5 e1 hO hml HH4 HR4 HP4 HT4
            go_wp2_with fail
            refine (same_same _ _ _ _ _ _ _ HH45.out HH5.out (by omega)).mono ?_
            rintro e w6 ⟨rfl, qq, rfl⟩
            have BD := below_drewN (Below.refl wr.heap.size wr) qq
            have HR6 := Lib.hid ((HR5.out.below BD).more BD.size)
            have HP6 := Lib.hid ((HP5.out.below BD).more BD.size)
            have HT6 := Lib.hid (HT5.out.trans (BD.mono HT5.out.size))
            clear BD HH45 HH5 HR5 HP5 HT5
            generalize wr.drewN qq = w7 at *
            go_wp2_with fail
            refine (HWH.out _ _ _ HR6.out).mono ?_
            rintro e w8 ⟨rfl, h8⟩
            have HR8 := Lib.hid ((HR6.out.below h8).more h8.size)
            have HP8 := Lib.hid ((HP6.out.below h8).more h8.size)
            have HT8 := Lib.hid (HT6.out.trans (h8.mono HT6.out.size))
            clear h8 HR6 HP6 HT6
            rcases HEND.out with ⟨hE, rfl⟩ | ⟨hE, S, rfl, hS, rfl⟩
            · rw [hE]
              clear hE HWH HEND
              go_wp2
              go_ret
              exact ⟨rfl, HT8.out⟩
            · rw [hE]
              have HRF2 := Lib.hid (HRF.out _ c _ c' S hS _ HR8.out HP8.out)
              clear hE HWH HEND hS HRF
              generalize fairR S ps l 0 = fr at *
              go_wp2_with fail
              refine (HRF2.out).mono ?_
              rintro e w9 ⟨rfl, h9⟩
              have HT9 := Lib.hid (HT8.out.trans (h9.mono HT8.out.size))
              clear h9
              cases fr <;>
              · go_wp2
                go_ret
                exact ⟨rfl, HT9.out⟩

end Go.Proofs.YtldleijocjohgaaDoor
