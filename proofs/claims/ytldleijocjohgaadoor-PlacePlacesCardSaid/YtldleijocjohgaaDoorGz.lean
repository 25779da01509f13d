/-
  PlacePlaces' walk. No statement is proved here.
-/
import Derived.Test.YtldleijocjohgaaDoorGy
import Derived.Test.YtldleijocjohgaaDoorGq
import Derived.Test.YtldleijocjohgaaDoorGh
import Derived.Test.YtldleijocjohgaaDoorGp
namespace Go.Proofs.YtldleijocjohgaaDoor
open Go.RowKit

section
variable {l : List Wi} {k S : Nat} {x : Wi} (hk : l[k]? = some x)
include hk
theorem waitsT_placed (h : 0 ≤ takesV x (lefts bestW (l.take k) S)) : waitsOf (tus bestW (l.take (k + 1)) S) = waitsOf (tus bestW (l.take k) S) := by
  rw [tus_step bestW hk]
  unfold takesV cOf at h
  cases hp : (bestW x (lefts bestW (l.take k) S)).2 with
  | false => rw [hp, if_neg (by simp)] at h; omega
  | true => rw [waits_yes rfl]
theorem waitsT_waits (hx : UW x) (hr : rightM (x.h, x.s) = true) (hS : S < 256) (h : ¬ 0 ≤ takesV x (lefts bestW (l.take k) S)) :
    takesV x (lefts bestW (l.take k) S) = -1 ∧ waitsOf (tus bestW (l.take (k + 1)) S) = waitsOf (tus bestW (l.take k) S) ++ [x.v] ∧ movesOf (tus bestW (l.take (k + 1)) S) = movesOf (tus bestW (l.take k) S) := by
  refine ⟨(takes_no hx hr (lefts_small bestW _ S hS) h).1, ?_⟩
  rw [tus_step bestW hk]
  cases hp : (bestW x (lefts bestW (l.take k) S)).2 with
  | false => exact ⟨waits_no rfl, moves_no rfl⟩
  | true =>
    unfold takesV cOf at h
    rw [hp, if_pos rfl] at h
    exact absurd (cpuB_true (has_cpu (al_in hx hr (lefts_small bestW _ S hS) ((best_facts hx _).1 hp)))).1 h
theorem movesT_yes (h : 0 ≤ takesV x (lefts bestW (l.take k) S)) (ha : 0 ≤ x.a) (hc : (x.a == takesV x (lefts bestW (l.take k) S)) = false) : movesOf (tus bestW (l.take (k + 1)) S) = movesOf (tus bestW (l.take k) S) + 1 := by
  rw [tus_step bestW hk]
  unfold takesV cOf at *
  cases hp : (bestW x (lefts bestW (l.take k) S)).2 with
  | false => rw [hp, if_neg (by simp)] at h; omega
  | true =>
    rw [hp, if_pos rfl] at hc
    refine moves_yes ?_
    have h1 : (x.a == -1) = false := by rw [beq_eq_false_iff_ne]; omega
    show (true && !(x.a == -1) && !(x.a == _)) = true
    rw [h1, hc]
    rfl
theorem movesT_no (h : 0 ≤ takesV x (lefts bestW (l.take k) S)) (ha : x.a = -1 ∨ (x.a == takesV x (lefts bestW (l.take k) S)) = true) : movesOf (tus bestW (l.take (k + 1)) S) = movesOf (tus bestW (l.take k) S) := by
  rw [tus_step bestW hk]
  unfold takesV cOf at *
  cases hp : (bestW x (lefts bestW (l.take k) S)).2 with
  | false => rw [hp, if_neg (by simp)] at h; omega
  | true =>
    rw [hp, if_pos rfl] at ha
    refine moves_no ?_
    show (true && !(x.a == -1) && !(x.a == _)) = false
    rcases ha with ha | ha
    · rw [ha]; rfl
    · rw [ha]; simp
end

set_option maxRecDepth 100000 in
set_option maxHeartbeats 8000000 in
theorem places_walk (A : Option Addr) (n c : Nat) (l : List Wi) (s : Int) (w : World) (hD : Db w) (hR : Reads w w.heap.size 4 A n (wivs l)) (hU : ∀ (k : Nat) (x : Wi), l[k]? = some x → UW x) (hs : U32 s) :
    Calls Tryd.prog 3 #[.slice A n c, .int .u32 s] w (Said (.bool true) w) := by
  have HK := Lib.hid (fun u hu => wakes_any u hu)
  have HD := Lib.hid hD
  by_cases hn : 60 < n
  · have q : decide ((60 : Int) < (n : Int)) = true := decide_eq_true (by omega)
    clear hR hU hs hD hn
    go_enter Tryd.func3, Tryd.ntmps3
    go_wp2_with fail
    refine (HK.out _ HD.out).mono ?_
    rintro e w1 ⟨rfl, h1⟩
    go_wp2
    go_ret
    exact ⟨rfl, h1⟩
  · have q : decide ((60 : Int) < (n : Int)) = false := decide_eq_false (by omega)
    obtain ⟨i0, hi0, hz0, hz1, hz2⟩ := info_parts wish_info
    have HL := Lib.hid (wishes_len hR)
    have HR := Lib.hid hR
    have hn60 : n ≤ 60 := by omega
    have HPL := Lib.hid (fun A' c' u hR hD => place_any A' n c' l s u hs hR hU (by omega) hD)
    have HWA := Lib.hid (fun A' c' u hR hD => waits_any A' n c' l s u hs hR hU (by omega) hD)
    have HMO := Lib.hid (fun A' c' u hR hD => moves_any A' n c' l s u hs hR hU (by omega) hD)
    have HCH := Lib.hid (fun A' c' u hR => pcheck_any A' n c' l u hR hU (by omega))
    have HRI := Lib.hid (fun A' c' u hR => rrow_any A' n c' l u hR (by omega))
    have HWH := Lib.hid (fun A' c' u hR => why_any A' n c' l s u hR (by omega))
    unfold NumsOf at HWA
    unfold PutsOf at HPL
    unfold Nums3 at HMO
    cases hr : rightW l with
    | false =>
      have hE : whyE l s = 230 := by unfold whyE; rw [hr]; rfl
      have hST : standE l = 230 := by unfold standE; rw [hr]; rfl
      unfold placesL placesS at HPL
      unfold waitsL at HWA
      unfold movesV at HMO
      rw [if_neg (by rw [hE]; decide), if_neg (by rw [hE]; decide), hE] at HPL
      rw [if_neg (by rw [hE]; decide), hE] at HWA
      rw [if_neg (by rw [hE]; decide), hE] at HMO
      rw [hE] at HWH
      rw [hST] at HCH
      rw [hr] at HRI
      clear hR hU hs hD hn hE hST hr
      go_enter Tryd.func3, Tryd.ntmps3
      go_wp2_with fail
      refine (HK.out _ HD.out).mono ?_
      rintro e w1 ⟨rfl, h1⟩
      have HD1 := Lib.hid (HD.out.below h1 HD.out.lt)
      have HR1 := Lib.hid ((HR.out.below h1).more h1.size)
      have HC := Lib.hid (HR1.out.alloc (Nat.le_refl _) (.cells #[] 43))
      have HB1 := Lib.hid h1
      have HB2 := Lib.hid ((Below.refl w1.heap.size w1).alloc (Nat.le_refl _) (.cells #[] 43))
      clear h1
      go_wp2_with (
        at_builtin
        refine wpList_append_any _ rfl (.tmp 28) (.tmp 29) 22 rfl w1.heap.size 43 i0 (.agg #[.int .i64 0, .int .i64 0, .int .u32 0, .int .u32 0]) 4 24 Tryd.underlying22 hi0 hz0 hz1 hz2 rfl (by decide) (.slice (some ⟨w1.heap.size, 0, none⟩) 0 0) 0 [] rfl (by simpa using World.ownsRow_made w1 #[] 0 (Nat.le_refl _) (by simp [maxLen]) (by simp)) _ A n c (wivs l) rfl HC.out (wivs_ones _) (by simp only [maxLen]; omega) (by omega) (by simp) ?_
        intro v9 w9 own9 grow9 _
        rw [List.nil_append, Nat.zero_add] at own9
        obtain ⟨A9, c9, rfl, _, hr9⟩ := own_reads own9
        have HO := Lib.hid hr9
        have HB9 := Lib.hid (HB2.out.grown grow9 HB2.out.size (fun k hk => by simp [Value.ownBlock] at hk; omega))
        clear own9 grow9 hr9)
      have HR9 := Lib.hid ((HR1.out.below HB9.out).more HB9.out.size)
      have HD9 := Lib.hid (HD1.out.below HB9.out HD1.out.lt)
      have HT9 := Lib.hid (HB1.out.trans (HB9.out.mono HB1.out.size))
      clear HC HB2
      refine (HPL.out _ _ _ HO.out HD9.out).mono ?_
      rintro e w2 ⟨v1, rfl, O1, h2⟩
      obtain ⟨A1, c1, rfl, _, P1⟩ := own_reads O1
      have HP1 := Lib.hid P1
      have HO2 := Lib.hid ((HO.out.below h2).more h2.size)
      have HR2 := Lib.hid ((HR9.out.below h2).more h2.size)
      have HD2 := Lib.hid (HD9.out.below h2 HD9.out.lt)
      have HT2 := Lib.hid (HT9.out.trans (h2.mono HT9.out.size))
      clear h2 O1 P1
      go_wp2_with fail
      refine (HWA.out _ _ _ HO2.out HD2.out).mono ?_
      rintro e w3 ⟨v2, rfl, O2, h3⟩
      obtain ⟨A2, c2, rfl, _, P2⟩ := own_reads O2
      have HP2 := Lib.hid P2
      have HP13 := Lib.hid ((HP1.out.below h3).more h3.size)
      have HO3 := Lib.hid ((HO2.out.below h3).more h3.size)
      have HR3 := Lib.hid ((HR2.out.below h3).more h3.size)
      have HD3 := Lib.hid (HD2.out.below h3 HD2.out.lt)
      have HT3 := Lib.hid (HT2.out.trans (h3.mono HT2.out.size))
      clear h3 O2 P2
      go_wp2_with fail
      refine (HMO.out _ _ _ HO3.out HD3.out).mono ?_
      rintro e w4 ⟨rfl, h4⟩
      have HP24 := Lib.hid ((HP2.out.below h4).more h4.size)
      have HP14 := Lib.hid ((HP13.out.below h4).more h4.size)
      have HO4 := Lib.hid ((HO3.out.below h4).more h4.size)
      have HR4 := Lib.hid ((HR3.out.below h4).more h4.size)
      have HT4 := Lib.hid (HT3.out.trans (h4.mono HT3.out.size))
      clear h4
      go_wp2_with fail
      refine (HCH.out _ _ _ HO4.out).mono ?_
      rintro e w5 ⟨rfl, h5⟩
      have HP25 := Lib.hid ((HP24.out.below h5).more h5.size)
      have HP15 := Lib.hid ((HP14.out.below h5).more h5.size)
      have HR5 := Lib.hid ((HR4.out.below h5).more h5.size)
      have HT5 := Lib.hid (HT4.out.trans (h5.mono HT4.out.size))
      clear h5
      go_wp2_with fail
      refine (HRI.out _ _ _ HR5.out).mono ?_
      rintro e w6 ⟨rfl, h6⟩
      have HP26 := Lib.hid ((HP25.out.below h6).more h6.size)
      have HP16 := Lib.hid ((HP15.out.below h6).more h6.size)
      have HR6 := Lib.hid ((HR5.out.below h6).more h6.size)
      have HT6 := Lib.hid (HT5.out.trans (h6.mono HT5.out.size))
      clear h6
      go_wp2_with fail
      refine (HWH.out _ _ _ HR6.out).mono ?_
      rintro e w7 ⟨rfl, h7⟩
      have HP27 := Lib.hid ((HP26.out.below h7).more h7.size)
      have HP17 := Lib.hid ((HP16.out.below h7).more h7.size)
      have HR7 := Lib.hid ((HR6.out.below h7).more h7.size)
      have HT7 := Lib.hid (HT6.out.trans (h7.mono HT6.out.size))
      clear h7
      clear HP1 HP2 HP13 HP24 HP14 HP25 HP15 HP26 HP16 HO HO2 HO3 HO4 HR1 HR2 HR3 HR4 HR5 HR6 HR9 HD1 HD2 HD3 HD9 HT2 HT3 HT4 HT5 HT6 HT9 HB1 HB9
      go_wp2
      go_ret
      exact ⟨rfl, HT7.out⟩
    | true =>
      have hST : standE l = 0 := by unfold standE; rw [hr]; rfl
      by_cases h256 : s < 256
      · have hE : whyE l s = 0 := by unfold whyE; rw [hr, if_pos rfl, if_pos h256]
        obtain ⟨S, hS⟩ := Int.eq_ofNat_of_zero_le hs.1
        subst hS
        have hS : S < 256 := by omega
        unfold placesL placesS at HPL
        unfold waitsL at HWA
        unfold movesV at HMO
        rw [if_pos hE, if_pos hE, hE, Int.toNat_natCast] at HPL
        rw [if_pos hE, hE, Int.toNat_natCast] at HWA
        rw [if_pos hE, hE, Int.toNat_natCast] at HMO
        rw [hE] at HWH
        rw [hST] at HCH
        have hrw := hr
        rw [hr] at HRI
        have HX := Lib.hid (fun (k : Nat) (x : Wi) (h : l[k]? = some x) => And.intro (hU k x h) (wi_parts (right_wish hrw h).1))
        have HTA := Lib.hid (fun (k : Nat) (x : Wi) (h : l[k]? = some x) => atL_at h S)
        have HWP := Lib.hid (fun (k : Nat) (x : Wi) (h : l[k]? = some x) h2 => waitsT_placed h (S := S) h2)
        have HWW := Lib.hid (fun (k : Nat) (x : Wi) (h : l[k]? = some x) h2 => waitsT_waits h (S := S) (hU k x h) (wi_parts (right_wish hrw h).1).2.2.2.2 hS h2)
        have HMY := Lib.hid (fun (k : Nat) (x : Wi) (h : l[k]? = some x) h2 h3 h4 => movesT_yes h (S := S) h2 h3 h4)
        have HMN := Lib.hid (fun (k : Nat) (x : Wi) (h : l[k]? = some x) h2 h3 => movesT_no h (S := S) h2 h3)
        have HML := Lib.hid (fun (k : Nat) => Nat.le_trans (moves_le (tus bestW (l.take k) S)) (by rw [tus_length]; exact List.length_take_le' k l))
        have HWL := Lib.hid (fun (k : Nat) => Nat.le_trans (waits_le (tus bestW (l.take k) S)) (by rw [tus_length]; exact List.length_take_le' k l))
        have HALL : Hid (∀ k, k = n → l.take k = l) := Lib.hid (fun k h => by rw [h, ← HL.out]; exact List.take_length)
        have HRP := Lib.hid (fun A' c' u hR => rplace_any A' n c' l S u hR hU hr hS (by omega))
        have HRU := Lib.hid (fun A' A'' c' c'' u hR hA => rputs_any A' A'' n c' c'' l S u hR hA hU hr hS (by omega))
        have hlp := puts_le (tus bestW l S)
        have hlw := waits_le (tus bestW l S)
        rw [tus_length, HL.out] at hlp hlw
        generalize lefts bestW l S = LF at *
        generalize hps : putsOf (tus bestW l S) = ps at *
        have HWS := Lib.hid (fun k (h : k = n) => show waitsOf (tus bestW (l.take k) S) = waitsOf (tus bestW l S) by rw [HALL.out k h])
        have HMS := Lib.hid (fun k (h : k = n) => show movesOf (tus bestW (l.take k) S) = movesOf (tus bestW l S) by rw [HALL.out k h])
        generalize waitsOf (tus bestW l S) = ws at *
        generalize movesOf (tus bestW l S) = MV at *
        obtain ⟨N, hN⟩ : ∃ N, ps.length = N := ⟨_, rfl⟩
        obtain ⟨M, hM⟩ : ∃ M, ws.length = M := ⟨_, rfl⟩
        have HNl := Lib.hid hN
        have HMl := Lib.hid hM
        rw [hN] at HPL HRU hlp
        rw [hM] at HWA HMO hlw
        have hN60 : N ≤ 60 := by omega
        have hM60 : M ≤ 60 := by omega
        clear hR hU hs hD hn hE hST hr hrw h256 hN hM hps hlp hlw hS
        go_enter Tryd.func3, Tryd.ntmps3
        go_wp2_with fail
        refine (HK.out _ HD.out).mono ?_
        rintro e w1 ⟨rfl, h1⟩
        have HD1 := Lib.hid (HD.out.below h1 HD.out.lt)
        have HR1 := Lib.hid ((HR.out.below h1).more h1.size)
        have HC := Lib.hid (HR1.out.alloc (Nat.le_refl _) (.cells #[] 43))
        have HB1 := Lib.hid h1
        have HB2 := Lib.hid ((Below.refl w1.heap.size w1).alloc (Nat.le_refl _) (.cells #[] 43))
        clear h1
        go_wp2_with (
          at_builtin
          refine wpList_append_any _ rfl (.tmp 28) (.tmp 29) 22 rfl w1.heap.size 43 i0 (.agg #[.int .i64 0, .int .i64 0, .int .u32 0, .int .u32 0]) 4 24 Tryd.underlying22 hi0 hz0 hz1 hz2 rfl (by decide) (.slice (some ⟨w1.heap.size, 0, none⟩) 0 0) 0 [] rfl (by simpa using World.ownsRow_made w1 #[] 0 (Nat.le_refl _) (by simp [maxLen]) (by simp)) _ A n c (wivs l) rfl HC.out (wivs_ones _) (by simp only [maxLen]; omega) (by omega) (by simp) ?_
          intro v9 w9 own9 grow9 _
          rw [List.nil_append, Nat.zero_add] at own9
          obtain ⟨A9, c9, rfl, _, hr9⟩ := own_reads own9
          have HO := Lib.hid hr9
          have HB9 := Lib.hid (HB2.out.grown grow9 HB2.out.size (fun k hk => by simp [Value.ownBlock] at hk; omega))
          clear own9 grow9 hr9)
        have HR9 := Lib.hid ((HR1.out.below HB9.out).more HB9.out.size)
        have HD9 := Lib.hid (HD1.out.below HB9.out HD1.out.lt)
        have HT9 := Lib.hid (HB1.out.trans (HB9.out.mono HB1.out.size))
        clear HC HB2
        refine (HPL.out _ _ _ HO.out HD9.out).mono ?_
        rintro e w2 ⟨v1, rfl, O1, h2⟩
        obtain ⟨A1, c1, rfl, _, P1⟩ := own_reads O1
        have HP1 := Lib.hid P1
        have HO2 := Lib.hid ((HO.out.below h2).more h2.size)
        have HR2 := Lib.hid ((HR9.out.below h2).more h2.size)
        have HD2 := Lib.hid (HD9.out.below h2 HD9.out.lt)
        have HT2 := Lib.hid (HT9.out.trans (h2.mono HT9.out.size))
        clear h2 O1 P1
        go_wp2_with fail
        refine (HWA.out _ _ _ HO2.out HD2.out).mono ?_
        rintro e w3 ⟨v2, rfl, O2, h3⟩
        obtain ⟨A2, c2, rfl, _, P2⟩ := own_reads O2
        have HP2 := Lib.hid P2
        have HP13 := Lib.hid ((HP1.out.below h3).more h3.size)
        have HO3 := Lib.hid ((HO2.out.below h3).more h3.size)
        have HR3 := Lib.hid ((HR2.out.below h3).more h3.size)
        have HD3 := Lib.hid (HD2.out.below h3 HD2.out.lt)
        have HT3 := Lib.hid (HT2.out.trans (h3.mono HT2.out.size))
        clear h3 O2 P2
        go_wp2_with fail
        refine (HMO.out _ _ _ HO3.out HD3.out).mono ?_
        rintro e w4 ⟨rfl, h4⟩
        have HP24 := Lib.hid ((HP2.out.below h4).more h4.size)
        have HP14 := Lib.hid ((HP13.out.below h4).more h4.size)
        have HO4 := Lib.hid ((HO3.out.below h4).more h4.size)
        have HR4 := Lib.hid ((HR3.out.below h4).more h4.size)
        have HT4 := Lib.hid (HT3.out.trans (h4.mono HT3.out.size))
        clear h4
        go_wp2_with fail
        refine (HCH.out _ _ _ HO4.out).mono ?_
        rintro e w5 ⟨rfl, h5⟩
        have HP25 := Lib.hid ((HP24.out.below h5).more h5.size)
        have HP15 := Lib.hid ((HP14.out.below h5).more h5.size)
        have HR5 := Lib.hid ((HR4.out.below h5).more h5.size)
        have HT5 := Lib.hid (HT4.out.trans (h5.mono HT4.out.size))
        clear h5
        go_wp2_with fail
        refine (HRI.out _ _ _ HR5.out).mono ?_
        rintro e w6 ⟨rfl, h6⟩
        have HP26 := Lib.hid ((HP25.out.below h6).more h6.size)
        have HP16 := Lib.hid ((HP15.out.below h6).more h6.size)
        have HR6 := Lib.hid ((HR5.out.below h6).more h6.size)
        have HT6 := Lib.hid (HT5.out.trans (h6.mono HT5.out.size))
        clear h6
        go_wp2_with fail
        refine (HWH.out _ _ _ HR6.out).mono ?_
        rintro e w7 ⟨rfl, h7⟩
        have HP27 := Lib.hid ((HP26.out.below h7).more h7.size)
        have HP17 := Lib.hid ((HP16.out.below h7).more h7.size)
        have HR7 := Lib.hid ((HR6.out.below h7).more h7.size)
        have HT7 := Lib.hid (HT6.out.trans (h7.mono HT6.out.size))
        clear h7
        clear HP1 HP2 HP13 HP24 HP14 HP25 HP15 HP26 HP16 HO HO2 HO3 HO4 HR1 HR2 HR3 HR4 HR5 HR6 HR9 HD1 HD2 HD3 HD9 HT2 HT3 HT4 HT5 HT6 HT9 HB1 HB9
        go_wp2_with fail
        refine (HRP.out _ _ _ HR7.out).mono ?_
        rintro e w8 ⟨v3, rfl, O3, h8⟩
        obtain ⟨A3, c3, rfl, _, P3⟩ := own_reads O3
        have HP3 := Lib.hid P3
        have HP28 := Lib.hid ((HP27.out.below h8).more h8.size)
        have HP18 := Lib.hid ((HP17.out.below h8).more h8.size)
        have HR8 := Lib.hid ((HR7.out.below h8).more h8.size)
        have HT8 := Lib.hid (HT7.out.trans (h8.mono HT7.out.size))
        clear h8 O3 P3 HP27 HP17 HR7 HT7
        go_wp2_with fail
        go_loopw [19, 20, 115] (fun v mv i wr => ∃ k m mm : Nat, k ≤ n ∧ i = .int .i64 (k : Int) ∧ mv = .int .i64 (mm : Int) ∧ Hid (mm = movesOf (tus bestW (l.take k) S)) ∧ Hid (m = (waitsOf (tus bestW (l.take k) S)).length) ∧ Hid (wr.ownsRow w8.heap.size 3 1 v m (vs (waitsOf (tus bestW (l.take k) S)))) ∧ Below w8.heap.size w8 wr) (fun _ _ i _ => n - (intOf i).toNat)
        case atStart => exact ⟨0, 0, 0, by omega, rfl, rfl, Lib.hid rfl, Lib.hid rfl, Lib.hid (World.ownsRow_nil _ _ _ _), Below.refl _ _⟩
        case round =>
          obtain ⟨k, m, mm, hk, rfl, rfl, hmm, hml, hO, hB⟩ := hrel
          by_cases hlt : k < n
          · obtain ⟨x, hx⟩ := elem_at (l := l) (k := k) (by rw [HL.out]; exact hlt)
            obtain ⟨hxu, hxp⟩ := HX.out k x hx
            obtain ⟨ad, rfl, hb, d0, d1, d2, d3⟩ := wish_at (HR8.out.below hB) hx
            obtain ⟨ad', v', rfl, hb', hx', dA⟩ := (HP3.out.below hB).at_ hlt
            obtain ⟨T', hT', rfl⟩ := vs_at hx'
            have hTA := HTA.out k x hx
            obtain rfl : T' = takesV x (lefts bestW (l.take k) S) := by rw [hTA] at hT'; exact (Option.some.inj hT').symm
            have HY1 := Lib.hid (HWP.out k x hx)
            have HY2 := Lib.hid (HWW.out k x hx)
            have HY3 := Lib.hid (HMY.out k x hx)
            have HY4 := Lib.hid (HMN.out k x hx)
            have hmm60 : mm ≤ 60 := by have := HML.out k; have := HL.out; have := hmm.out; omega
            have hm60 : m ≤ 60 := by have := HWL.out k; have := HL.out; have := hml.out; omega
            have ha := hxp.2.2.1
            have i1 : (0 : Int) ≤ (k : Int) := by omega
            have i2 : (k : Int) < (n : Int) := by omega
            have hszr := hB.size
            have HXA := Lib.hid (fun (u : World) (hb2 : Below w8.heap.size w8 u) => show u.cell? (ad'.add k) = some (.int .i64 (takesV x (lefts bestW (l.take k) S))) from by
              obtain ⟨ad3, v3, e, _, hx3, e1⟩ := (HP3.out.below hb2).at_ hlt
              injection e with e
              subst e
              rw [hx'] at hx3
              injection hx3 with hx3
              subst hx3
              exact e1)
            clear hx hx' hT' hTA hxu hxp
            generalize takesV x (lefts bestW (l.take k) S) = T at *
            obtain ⟨W1, hW1⟩ : ∃ W1, waitsOf (tus bestW (l.take (k + 1)) S) = W1 := ⟨_, rfl⟩
            obtain ⟨M1, hM1⟩ : ∃ M1, movesOf (tus bestW (l.take (k + 1)) S) = M1 := ⟨_, rfl⟩
            rw [hW1] at HY1 HY2
            rw [hM1] at HY2 HY3 HY4
            have HW1 := Lib.hid hW1
            have HM1 := Lib.hid hM1
            clear hW1 hM1
            generalize waitsOf (tus bestW (l.take k) S) = W0 at *
            generalize movesOf (tus bestW (l.take k) S) = M0 at *
            obtain ⟨xv, xa, xh, xs⟩ := x
            have HB := Lib.hid hB
            have BN := Lib.hid (hB.alloc hB.size (.cells #[.int .i64 xv, .int .i64 xa, .int .u32 xh, .int .u32 xs] 43))
            have K7 := Blk.new wr 43 #[.int .i64 xv, .int .i64 xa, .int .u32 xh, .int .u32 xs]
            have z0 := K7.cell 0
            have z1 := K7.cell 1
            have ha : -1 ≤ xa := ha
            have dA2 := HXA.out _ BN.out
            have K7 := Lib.hid K7
            clear hB dA
            by_cases hT : 0 ≤ T
            · have g1 : decide (T < (0 : Int)) = false := decide_eq_false (by omega)
              have g2 : (0 : Int) ≤ T := hT
              have HV1 := Lib.hid (HY1.out hT)
              have HO1 := Lib.hid (hO.out.alloc (.cells #[.int .i64 xv, .int .i64 xa, .int .u32 xh, .int .u32 xs] 43))
              by_cases h0 : 0 ≤ xa
              · have g3 : decide ((0 : Int) ≤ xa) = true := decide_eq_true h0
                cases h4 : (xa == T) with
                | true =>
                  have HV2 := Lib.hid (HY4.out hT (Or.inr h4))
                  clear HY1 HY2 HY3 HY4 hT hO h0
                  go_wp2_with fail
                  go_quiet (fail)
                  go_wp2
                  go_roundw
                  case rel => exact ⟨k + 1, m, mm, by omega, by go_num, rfl, Lib.hid (by rw [HM1.out, HV2.out]; exact hmm.out), Lib.hid (by rw [HW1.out, HV1.out]; exact hml.out), Lib.hid (by rw [HW1.out, HV1.out]; exact own_below HO1.out (below_drewN (Below.refl _ _) _)), below_drewN BN.out _⟩
                  case measure => simp [intOf] <;> omega
                | false =>
                  have HV2 := Lib.hid (HY3.out hT h0 h4)
                  clear HY1 HY2 HY3 HY4 hT hO h0
                  go_wp2_with fail
                  go_quiet (fail)
                  go_wp2
                  go_roundw
                  case rel => exact ⟨k + 1, m, mm + 1, by omega, by go_num, by go_num, Lib.hid (by rw [HM1.out, HV2.out, ← hmm.out]), Lib.hid (by rw [HW1.out, HV1.out]; exact hml.out), Lib.hid (by rw [HW1.out, HV1.out]; exact own_below HO1.out (below_drewN (Below.refl _ _) _)), below_drewN BN.out _⟩
                  case measure => simp [intOf] <;> omega
              · have g3 : decide ((0 : Int) ≤ xa) = false := decide_eq_false h0
                have HV2 := Lib.hid (HY4.out hT (Or.inl (by show xa = -1; omega)))
                clear HY1 HY2 HY3 HY4 hT hO
                obtain rfl : xa = -1 := by omega
                go_wp2_with fail
                go_quiet (fail)
                go_wp2
                go_roundw
                case rel => exact ⟨k + 1, m, mm, by omega, by go_num, rfl, Lib.hid (by rw [HM1.out, HV2.out]; exact hmm.out), Lib.hid (by rw [HW1.out, HV1.out]; exact hml.out), Lib.hid (by rw [HW1.out, HV1.out]; exact own_below HO1.out (below_drewN (Below.refl _ _) _)), below_drewN BN.out _⟩
                case measure => simp [intOf] <;> omega
            · obtain ⟨rfl, y2, y3⟩ := HY2.out (by omega)
              have HV1 := Lib.hid y2
              have HV2 := Lib.hid y3
              obtain ⟨i1', hi1, hw0, hw1, hw2⟩ := info_parts int_info
              have HO1 := Lib.hid (hO.out.alloc (.cells #[.int .i64 xv, .int .i64 xa, .int .u32 xh, .int .u32 xs] 43))
              have hcn := cell_one_new (wr.alloc (.cells #[.int .i64 xv, .int .i64 xa, .int .u32 xh, .int .u32 xs] 43)) (.int .i64 xv) 3
              rw [show (wr.alloc (.cells #[.int .i64 xv, .int .i64 xa, .int .u32 xh, .int .u32 xs] 43)).heap.size = wr.heap.size + 1 from by simp] at hcn
              have HCN := Lib.hid hcn
              clear HY1 HY2 HY3 HY4 hT hO y2 y3 hcn
              go_wp2_with (
                at_builtin
                refine wpList_append_own _ rfl (.tmp 125) (.tmp 128) 30 rfl w8.heap.size 3 i1' (.int .i64 0) 1 8 Tryd.underlying30 hi1 hw0 hw1 hw2 rfl (by decide) _ m _ rfl (HO1.out.alloc _) ⟨_, 0, none⟩ 1 1 [.int .i64 xv] rfl rfl HCN.out (by simp [Value.oneCell']) (by simp only [maxLen]; omega) (by omega) (by simp; omega) ?_
                intro v3 w3' hown3 hg3 _
                have HO3 := Lib.hid hown3
                have HB3 := Lib.hid ((BN.out.alloc BN.out.size (.cells #[.int .i64 xv] 3)).grown hg3 (by simp; omega) (fun g hg => (HO1.out.lt g hg).1))
                clear hown3 hg3)
              have HO4 : Hid (w3'.ownsRow w8.heap.size 3 1 v3 (m + 1) (vs W1)) := Lib.hid (by
                rw [HV1.out, vs_append, vs_one]
                exact HO3.out)
              go_roundw
              case rel => exact ⟨k + 1, m + 1, mm, by omega, by go_num, rfl, Lib.hid (by rw [HM1.out, HV2.out]; exact hmm.out), Lib.hid (by rw [HW1.out, HV1.out, List.length_append, ← hml.out]; rfl), Lib.hid (by rw [HW1.out]; exact HO4.out), HB3.out⟩
              case measure => simp [intOf] <;> omega
          · obtain rfl : n = k := by omega
            have e1 := HWS.out n rfl
            have e2 := HMS.out n rfl
            rw [e1] at hml hO
            rw [e2] at hmm
            obtain rfl : mm = MV := hmm.out
            obtain rfl : m = M := hml.out.trans HMl.out
            obtain ⟨A4, c4, rfl, _, P4⟩ := own_reads hO.out
            have HP4 := Lib.hid P4
            have HP29 := Lib.hid ((HP28.out.below hB).more hB.size)
            have HP19 := Lib.hid ((HP18.out.below hB).more hB.size)
            have HP39 := Lib.hid ((HP3.out.below hB).more hB.size)
            have HR9 := Lib.hid ((HR8.out.below hB).more hB.size)
            have HT9 := Lib.hid (HT8.out.trans (hB.mono HT8.out.size))
            clear hB P4 e1 e2 hO hml hmm
            go_wp2_with fail
            refine (HRU.out _ _ _ _ _ HR9.out HP39.out).mono ?_
            rintro e w10 ⟨v5, rfl, O5, h10⟩
            obtain ⟨A5, c5, rfl, _, P5⟩ := own_reads O5
            have HP5 := Lib.hid P5
            have HP49 := Lib.hid ((HP4.out.below h10).more h10.size)
            have HP2a := Lib.hid ((HP29.out.below h10).more h10.size)
            have HP1a := Lib.hid ((HP19.out.below h10).more h10.size)
            have HTa := Lib.hid (HT9.out.trans (h10.mono HT9.out.size))
            clear h10 O5 P5
            go_wp2_with fail
            refine (rsameputs_any _ _ _ _ _ _ _ HP1a.out HP5.out (by omega)).mono ?_
            rintro e w11 ⟨rfl, h11⟩
            have HP4b := Lib.hid ((HP49.out.below h11).more h11.size)
            have HP2b := Lib.hid ((HP2a.out.below h11).more h11.size)
            have HTb := Lib.hid (HTa.out.trans (h11.mono HTa.out.size))
            clear h11
            go_wp2_with fail
            refine (same_same _ _ _ _ _ _ _ HP2b.out HP4b.out (by omega)).mono ?_
            rintro e w12 ⟨rfl, qq, rfl⟩
            go_wp2
            go_ret
            exact ⟨rfl, below_drewN HTb.out _⟩
      · have hE : whyE l s = 140 := by unfold whyE; rw [hr, if_pos rfl, if_neg h256]
        unfold placesL placesS at HPL
        unfold waitsL at HWA
        unfold movesV at HMO
        rw [if_neg (by rw [hE]; decide), if_neg (by rw [hE]; decide), hE] at HPL
        rw [if_neg (by rw [hE]; decide), hE] at HWA
        rw [if_neg (by rw [hE]; decide), hE] at HMO
        rw [hE] at HWH
        rw [hST] at HCH
        rw [hr] at HRI
        clear hR hU hs hD hn hE hST hr
        go_enter Tryd.func3, Tryd.ntmps3
        go_wp2_with fail
        refine (HK.out _ HD.out).mono ?_
        rintro e w1 ⟨rfl, h1⟩
        have HD1 := Lib.hid (HD.out.below h1 HD.out.lt)
        have HR1 := Lib.hid ((HR.out.below h1).more h1.size)
        have HC := Lib.hid (HR1.out.alloc (Nat.le_refl _) (.cells #[] 43))
        have HB1 := Lib.hid h1
        have HB2 := Lib.hid ((Below.refl w1.heap.size w1).alloc (Nat.le_refl _) (.cells #[] 43))
        clear h1
        go_wp2_with (
          at_builtin
          refine wpList_append_any _ rfl (.tmp 28) (.tmp 29) 22 rfl w1.heap.size 43 i0 (.agg #[.int .i64 0, .int .i64 0, .int .u32 0, .int .u32 0]) 4 24 Tryd.underlying22 hi0 hz0 hz1 hz2 rfl (by decide) (.slice (some ⟨w1.heap.size, 0, none⟩) 0 0) 0 [] rfl (by simpa using World.ownsRow_made w1 #[] 0 (Nat.le_refl _) (by simp [maxLen]) (by simp)) _ A n c (wivs l) rfl HC.out (wivs_ones _) (by simp only [maxLen]; omega) (by omega) (by simp) ?_
          intro v9 w9 own9 grow9 _
          rw [List.nil_append, Nat.zero_add] at own9
          obtain ⟨A9, c9, rfl, _, hr9⟩ := own_reads own9
          have HO := Lib.hid hr9
          have HB9 := Lib.hid (HB2.out.grown grow9 HB2.out.size (fun k hk => by simp [Value.ownBlock] at hk; omega))
          clear own9 grow9 hr9)
        have HR9 := Lib.hid ((HR1.out.below HB9.out).more HB9.out.size)
        have HD9 := Lib.hid (HD1.out.below HB9.out HD1.out.lt)
        have HT9 := Lib.hid (HB1.out.trans (HB9.out.mono HB1.out.size))
        clear HC HB2
        refine (HPL.out _ _ _ HO.out HD9.out).mono ?_
        rintro e w2 ⟨v1, rfl, O1, h2⟩
        obtain ⟨A1, c1, rfl, _, P1⟩ := own_reads O1
        have HP1 := Lib.hid P1
        have HO2 := Lib.hid ((HO.out.below h2).more h2.size)
        have HR2 := Lib.hid ((HR9.out.below h2).more h2.size)
        have HD2 := Lib.hid (HD9.out.below h2 HD9.out.lt)
        have HT2 := Lib.hid (HT9.out.trans (h2.mono HT9.out.size))
        clear h2 O1 P1
        go_wp2_with fail
        refine (HWA.out _ _ _ HO2.out HD2.out).mono ?_
        rintro e w3 ⟨v2, rfl, O2, h3⟩
        obtain ⟨A2, c2, rfl, _, P2⟩ := own_reads O2
        have HP2 := Lib.hid P2
        have HP13 := Lib.hid ((HP1.out.below h3).more h3.size)
        have HO3 := Lib.hid ((HO2.out.below h3).more h3.size)
        have HR3 := Lib.hid ((HR2.out.below h3).more h3.size)
        have HD3 := Lib.hid (HD2.out.below h3 HD2.out.lt)
        have HT3 := Lib.hid (HT2.out.trans (h3.mono HT2.out.size))
        clear h3 O2 P2
        go_wp2_with fail
        refine (HMO.out _ _ _ HO3.out HD3.out).mono ?_
        rintro e w4 ⟨rfl, h4⟩
        have HP24 := Lib.hid ((HP2.out.below h4).more h4.size)
        have HP14 := Lib.hid ((HP13.out.below h4).more h4.size)
        have HO4 := Lib.hid ((HO3.out.below h4).more h4.size)
        have HR4 := Lib.hid ((HR3.out.below h4).more h4.size)
        have HT4 := Lib.hid (HT3.out.trans (h4.mono HT3.out.size))
        clear h4
        go_wp2_with fail
        refine (HCH.out _ _ _ HO4.out).mono ?_
        rintro e w5 ⟨rfl, h5⟩
        have HP25 := Lib.hid ((HP24.out.below h5).more h5.size)
        have HP15 := Lib.hid ((HP14.out.below h5).more h5.size)
        have HR5 := Lib.hid ((HR4.out.below h5).more h5.size)
        have HT5 := Lib.hid (HT4.out.trans (h5.mono HT4.out.size))
        clear h5
        go_wp2_with fail
        refine (HRI.out _ _ _ HR5.out).mono ?_
        rintro e w6 ⟨rfl, h6⟩
        have HP26 := Lib.hid ((HP25.out.below h6).more h6.size)
        have HP16 := Lib.hid ((HP15.out.below h6).more h6.size)
        have HR6 := Lib.hid ((HR5.out.below h6).more h6.size)
        have HT6 := Lib.hid (HT5.out.trans (h6.mono HT5.out.size))
        clear h6
        go_wp2_with fail
        refine (HWH.out _ _ _ HR6.out).mono ?_
        rintro e w7 ⟨rfl, h7⟩
        have HP27 := Lib.hid ((HP26.out.below h7).more h7.size)
        have HP17 := Lib.hid ((HP16.out.below h7).more h7.size)
        have HR7 := Lib.hid ((HR6.out.below h7).more h7.size)
        have HT7 := Lib.hid (HT6.out.trans (h7.mono HT6.out.size))
        clear h7
        clear HP1 HP2 HP13 HP24 HP14 HP25 HP15 HP26 HP16 HO HO2 HO3 HO4 HR1 HR2 HR3 HR4 HR5 HR6 HR9 HD1 HD2 HD3 HD9 HT2 HT3 HT4 HT5 HT6 HT9 HB1 HB9
        go_wp2
        go_ret
        exact ⟨rfl, HT7.out⟩

end Go.Proofs.YtldleijocjohgaaDoor
