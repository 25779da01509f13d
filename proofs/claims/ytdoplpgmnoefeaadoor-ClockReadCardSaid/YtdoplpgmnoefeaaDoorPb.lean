/-
  The contracts of isWhole, isPart and Parse. No statement is proved here.
-/
import Derived.Test.YtdoplpgmnoefeaaDoorPa
namespace Go.Proofs.YtdoplpgmnoefeaaDoor
open Go.RowKit

theorem wholeL_eq (l : List UInt8) : wholeL l = (decide (l.length ≤ 7) && digitsL l && (l == [48] || l.head? != some 48)) := rfl
theorem partL_eq (l : List UInt8) : partL l = (decide (l.length ≤ 9) && digitsL l && (l.getLast? != some 48)) := rfl
theorem digitsL_ne {l : List UInt8} (h : digitsL l = true) : 0 < l.length := by
  cases l with
  | nil => simp [digitsL] at h
  | cons a t => simp

set_option maxHeartbeats 400000 in
theorem whole_any (s : ByteArray) (hs : s.size ≤ 1000) (w : World) : Calls Tryd.prog 36 #[.string s] w fun e w' => e = .returned (.bool (wholeL s.data.toList)) ∧ w = w' := by
  have hsz := Lib.size_eq s
  by_cases h7 : s.size ≤ 7
  · have HDG := fun u => digits_any s hs u
    cases hd : digitsL s.data.toList with
    | false =>
      have HE : Hid (wholeL s.data.toList = false) := Lib.hid (by rw [wholeL_eq, hd]; simp)
      rw [hd] at HDG
      have HDG := Lib.hid HDG
      have HH := Lib.hid hsz
      clear hd hsz
      go_enter Tryd.func36, Tryd.ntmps36
      go_wp2_with fail
      refine (HDG.out _).mono ?_
      rintro e w' ⟨rfl, rfl⟩
      go_wp2
      go_ret
      exact ⟨ret_bool HE.out.symm, rfl⟩
    | true =>
      have h0 := digitsL_ne hd
      have h0' : 0 < s.size := by omega
      rw [hd] at HDG
      have HDG := Lib.hid HDG
      have hg := get_at s 0 h0'
      have hh : s.data.toList.head? = some s[0] := by rw [List.head?_eq_getElem?]; exact hg
      by_cases hl : s.toList = [48]
      · have HE : Hid (wholeL s.data.toList = true) := Lib.hid (by rw [← Lib.toList_data, hl]; rfl)
        clear hsz hd h0 hg hh
        go_enter Tryd.func36, Tryd.ntmps36
        go_wp2_with fail
        refine (HDG.out _).mono ?_
        rintro e w' ⟨rfl, rfl⟩
        go_wp2
        go_ret
        exact ⟨ret_bool HE.out.symm, rfl⟩
      · have HE : Hid (wholeL s.data.toList = ((s.toList == [48]) || ((s[0].toNat : Int) != 48))) := Lib.hid (by
          rw [wholeL_eq, hd, hh, Lib.toList_data]
          rw [decide_eq_true (by omega : s.data.toList.length ≤ 7)]
          have hcast : ((s[0].toNat : Int) = 48) ↔ s[0].toNat = 48 := by omega
          rw [Bool.eq_iff_iff]
          simp [← UInt8.toNat_inj, hcast])
        clear hsz hd h0 hg hh
        go_enter Tryd.func36, Tryd.ntmps36
        go_wp2_with fail
        refine (HDG.out _).mono ?_
        rintro e w' ⟨rfl, rfl⟩
        go_wp2
        go_ret
        exact ⟨ret_bool HE.out.symm, rfl⟩
  · have HE : Hid (wholeL s.data.toList = false) := Lib.hid (by rw [wholeL_eq, decide_eq_false (by omega)]; rfl)
    clear hsz
    go_enter Tryd.func36, Tryd.ntmps36
    go_wp2
    go_ret
    exact ⟨ret_bool HE.out.symm, rfl⟩

set_option maxHeartbeats 400000 in
theorem part_any (s : ByteArray) (hs : s.size ≤ 1000) (w : World) : Calls Tryd.prog 37 #[.string s] w fun e w' => e = .returned (.bool (partL s.data.toList)) ∧ w = w' := by
  have hsz := Lib.size_eq s
  by_cases h9 : s.size ≤ 9
  · have HDG := fun u => digits_any s hs u
    cases hd : digitsL s.data.toList with
    | false =>
      have HE : Hid (partL s.data.toList = false) := Lib.hid (by rw [partL_eq, hd]; simp)
      rw [hd] at HDG
      have HDG := Lib.hid HDG
      clear hd hsz
      go_enter Tryd.func37, Tryd.ntmps37
      go_wp2_with fail
      refine (HDG.out _).mono ?_
      rintro e w' ⟨rfl, rfl⟩
      go_wp2
      go_ret
      exact ⟨ret_bool HE.out.symm, rfl⟩
    | true =>
      have h0 := digitsL_ne hd
      obtain ⟨m, hm⟩ : ∃ m, s.size = m + 1 := ⟨s.size - 1, by omega⟩
      rw [hd] at HDG
      have HDG := Lib.hid HDG
      have hml : m < s.size := by omega
      have hg := get_at s m hml
      have hh : s.data.toList.getLast? = some s[m] := by rw [List.getLast?_eq_getElem?, ← hsz, hm]; exact hg
      have HE : Hid (partL s.data.toList = ((s[m].toNat : Int) != 48)) := Lib.hid (by
        rw [partL_eq, hd, hh]
        rw [decide_eq_true (by omega : s.data.toList.length ≤ 9)]
        rw [Bool.eq_iff_iff]
        simp [← UInt8.toNat_inj]
        omega)
      have hmi : (s.size : Int) = (m : Int) + 1 := by omega
      have hmi2 : (s.size : Int) - 1 = (m : Int) := by omega
      have HM := Lib.hid hm
      clear hsz hd h0 hg hh hm
      go_enter Tryd.func37, Tryd.ntmps37
      go_wp2_with fail
      refine (HDG.out _).mono ?_
      rintro e w' ⟨rfl, rfl⟩
      go_wp2
      go_ret
      exact ⟨ret_bool HE.out.symm, rfl⟩
  · have HE : Hid (partL s.data.toList = false) := Lib.hid (by rw [partL_eq, decide_eq_false (by omega)]; rfl)
    clear hsz
    go_enter Tryd.func37, Tryd.ntmps37
    go_wp2
    go_ret
    exact ⟨ret_bool HE.out.symm, rfl⟩

theorem numAt_whole (l : List UInt8) : numAt l l.length = val l := by simp [numAt]
theorem numAt_nine {l : List UInt8} (h : l.length ≤ 9) : numAt l 9 = val l * 10 ^ (9 - l.length) := by
  unfold numAt
  rw [List.take_of_length_le h]
theorem prs_eq (l : List UInt8) : prs l = if (wholeL (ahead l) && (!pointed l || partL (rear l))) = true then (if numT (ahead l) (rear l) ≤ 1125899906842624 then some (numT (ahead l) (rear l)) else none) else none := by
  unfold prs pointed rear
  simp

/-- what is asked of the bytes of a text -/
theorem parse_parts (l : List UInt8) : ∃ W R : ByteArray, (⟨(ahead l).toArray⟩ : ByteArray) = W ∧ (⟨(rear l).toArray⟩ : ByteArray) = R ∧ W.data.toList = ahead l ∧ R.data.toList = rear l ∧ W.size ≤ l.length ∧ R.size ≤ l.length := by
  refine ⟨_, _, rfl, rfl, rfl, rfl, ?_, ?_⟩
  · have := congrArg List.length (ahead_onward l)
    simp only [ByteArray.size, List.size_toArray]
    rw [List.length_append] at this
    omega
  · have := congrArg List.length (ahead_onward l)
    simp only [ByteArray.size, List.size_toArray, rear, List.length_drop]
    rw [List.length_append] at this
    omega

set_option maxHeartbeats 1000000 in
theorem parse_any (s : ByteArray) (hs : s.size ≤ 1000) (w : World) :
    (∀ t : Nat, prs s.data.toList = some t → Calls Tryd.prog 28 #[.string s] w (Two (t : Int) 0 w)) ∧ (prs s.data.toList = none → Calls Tryd.prog 28 #[.string s] w (Two 0 2 w)) := by
  have hC := cut_any s hs w
  have hP := prs_eq s.data.toList
  obtain ⟨W, R, eW, eR, lW, lR, sW, sR⟩ := parse_parts s.data.toList
  rw [← Lib.size_eq] at sW sR
  unfold Cut3 at hC
  rw [eW, eR] at hC
  rw [← lW, ← lR] at hP
  have hw := fun u => whole_any W (by omega) u
  have hr := fun u => part_any R (by omega) u
  have hrear : pointed s.data.toList = false → R.data.toList = [] := fun h => by
    rw [lR]
    have : onward s.data.toList = [] := by simpa [pointed] using h
    simp [rear, this]
  clear eW eR lW lR
  cases hwh : wholeL W.data.toList with
  | false =>
    rw [hwh] at hP hw
    have hP2 : prs s.data.toList = none := hP
    refine ⟨fun t ht => (by rw [hP2] at ht; cases ht), fun _ => ?_⟩
    have HC := Lib.hid hC
    have HW := Lib.hid hw
    clear hP hP2 hw hr hrear hwh hC
    go_enter Tryd.func28, Tryd.ntmps28
    go_wp2_with fail
    refine HC.out.mono ?_
    rintro e w1 ⟨rfl, hB⟩
    go_wp2_with fail
    refine (HW.out _).mono ?_
    rintro e w' ⟨rfl, rfl⟩
    go_wp2
    go_ret2
    exact ⟨rfl, hB⟩
  | true =>
    obtain ⟨w7, wd, _, _⟩ := wholeL_iff.1 hwh
    have hvw := val_lt wd
    have hv7 : val W.data.toList < 10000000 := Nat.lt_of_lt_of_le hvw (Nat.pow_le_pow_right (by omega) w7)
    have hsW : W.size ≤ 7 := by rw [Lib.size_eq]; exact w7
    have hNW : ∀ u, Calls Tryd.prog 38 #[.string W, .int .i64 (W.size : Int)] u fun e w' => e = .returned (.int .i64 (val W.data.toList : Int)) ∧ u = w' := fun u => by
      have h := number_any W W.size wd (by omega) u
      rwa [show numAt W.data.toList W.size = val W.data.toList by rw [Lib.size_eq]; exact numAt_whole _] at h
    rw [hwh] at hP hw
    -- the end, where the point's part is of digits, or there is none
    have fin : ∀ b : Bool, pointed s.data.toList = b → (b = false ∨ partL R.data.toList = true) → R.data.toList.all isD = true → R.data.toList.length ≤ 9 →
        (∀ t : Nat, prs s.data.toList = some t → Calls Tryd.prog 28 #[.string s] w (Two (t : Int) 0 w)) ∧ (prs s.data.toList = none → Calls Tryd.prog 28 #[.string s] w (Two 0 2 w)) := fun b hb hbb rd r9 => by
      rw [hb] at hP hC
      have hvr : numAt R.data.toList 9 < 1000000000 := Nat.lt_of_lt_of_le (numAt_lt rd 9) (by decide)
      have hNR : ∀ u, Calls Tryd.prog 38 #[.string R, .int .i64 9] u fun e w' => e = .returned (.int .i64 (numAt R.data.toList 9 : Int)) ∧ u = w' := fun u => number_any R 9 rd (by omega) u
      have hT : numT W.data.toList R.data.toList = val W.data.toList * 1000000000 + numAt R.data.toList 9 := by rw [numAt_nine r9]; rfl
      rw [hT] at hP
      have hP2 : prs s.data.toList = if val W.data.toList * 1000000000 + numAt R.data.toList 9 ≤ 1125899906842624 then some (val W.data.toList * 1000000000 + numAt R.data.toList 9) else none := by
        rw [hP]
        rcases hbb with rfl | hp
        · simp
        · rw [hp]; simp
      generalize val W.data.toList = q at *
      generalize numAt R.data.toList 9 = r at *
      have HC := Lib.hid hC
      have HW := Lib.hid hw
      have HNW := Lib.hid hNW
      have HNR := Lib.hid hNR
      have HCk := fun u => check_any ((q : Int) * 1000000000 + (r : Int)) u
      have HPT : Hid (b = true → ∀ u, Calls Tryd.prog 37 #[.string R] u fun e w' => e = .returned (.bool true) ∧ u = w') := Lib.hid (fun hbt u => by
        have := hr u
        rcases hbb with rfl | hp
        · cases hbt
        · rwa [hp] at this)
      have q0 : (q : Int) < 10000000 := by omega
      have r0 : (r : Int) < 1000000000 := by omega
      have hW0 : (W.size : Int) ≤ 1000 := by omega
      clear hC hw hNW hNR hP hT hbb hrear hr hwh hvw w7 wd rd r9 hb
      by_cases hle : q * 1000000000 + r ≤ 1125899906842624
      · rw [if_pos hle] at hP2
        refine ⟨fun t ht => ?_, fun hn => (by rw [hP2] at hn; cases hn)⟩
        obtain rfl : q * 1000000000 + r = t := by rw [hP2] at ht; exact Option.some.inj ht
        rw [show chk [(q : Int) * 1000000000 + (r : Int)] = 0 from chk_ok (by simp [rt_mk (show (0 : Int) ≤ (q : Int) * 1000000000 + (r : Int) by omega) (by omega)])] at HCk
        have HCk := Lib.hid HCk
        have HE : Hid (((q * 1000000000 + r : Nat) : Int) = (q : Int) * 1000000000 + (r : Int)) := Lib.hid (by omega)
        clear hP2 ht hle
        rw [HE.out]
        cases b with
        | false =>
          go_enter Tryd.func28, Tryd.ntmps28
          go_wp2_with fail
          refine HC.out.mono ?_
          rintro e w1 ⟨rfl, hB⟩
          go_wp2_with fail
          refine (HW.out _).mono ?_
          rintro e w' ⟨rfl, rfl⟩
          go_wp2_with fail
          refine (HNW.out _).mono ?_
          rintro e w' ⟨rfl, rfl⟩
          go_wp2_with fail
          refine (HNR.out _).mono ?_
          rintro e w' ⟨rfl, rfl⟩
          go_wp2_with fail
          refine (HCk.out _).mono ?_
          rintro e w2 ⟨rfl, hB2⟩
          go_wp2
          go_ret2
          exact ⟨rfl, hB.trans (hB2.mono hB.size)⟩
        | true =>
          have HPT2 := Lib.hid (HPT.out rfl)
          go_enter Tryd.func28, Tryd.ntmps28
          go_wp2_with fail
          refine HC.out.mono ?_
          rintro e w1 ⟨rfl, hB⟩
          go_wp2_with fail
          refine (HW.out _).mono ?_
          rintro e w' ⟨rfl, rfl⟩
          go_wp2_with fail
          refine (HPT2.out _).mono ?_
          rintro e w' ⟨rfl, rfl⟩
          go_wp2_with fail
          refine (HNW.out _).mono ?_
          rintro e w' ⟨rfl, rfl⟩
          go_wp2_with fail
          refine (HNR.out _).mono ?_
          rintro e w' ⟨rfl, rfl⟩
          go_wp2_with fail
          refine (HCk.out _).mono ?_
          rintro e w2 ⟨rfl, hB2⟩
          go_wp2
          go_ret2
          exact ⟨rfl, hB.trans (hB2.mono hB.size)⟩
      · rw [if_neg hle] at hP2
        refine ⟨fun t ht => (by rw [hP2] at ht; cases ht), fun _ => ?_⟩
        rw [show chk [(q : Int) * 1000000000 + (r : Int)] = 120 by simp [chk, rt_no (t := (q : Int) * 1000000000 + (r : Int)) (.inr (by omega))]] at HCk
        have HCk := Lib.hid HCk
        clear hP2 hle
        cases b with
        | false =>
          go_enter Tryd.func28, Tryd.ntmps28
          go_wp2_with fail
          refine HC.out.mono ?_
          rintro e w1 ⟨rfl, hB⟩
          go_wp2_with fail
          refine (HW.out _).mono ?_
          rintro e w' ⟨rfl, rfl⟩
          go_wp2_with fail
          refine (HNW.out _).mono ?_
          rintro e w' ⟨rfl, rfl⟩
          go_wp2_with fail
          refine (HNR.out _).mono ?_
          rintro e w' ⟨rfl, rfl⟩
          go_wp2_with fail
          refine (HCk.out _).mono ?_
          rintro e w2 ⟨rfl, hB2⟩
          go_wp2
          go_ret2
          exact ⟨rfl, hB.trans (hB2.mono hB.size)⟩
        | true =>
          have HPT2 := Lib.hid (HPT.out rfl)
          go_enter Tryd.func28, Tryd.ntmps28
          go_wp2_with fail
          refine HC.out.mono ?_
          rintro e w1 ⟨rfl, hB⟩
          go_wp2_with fail
          refine (HW.out _).mono ?_
          rintro e w' ⟨rfl, rfl⟩
          go_wp2_with fail
          refine (HPT2.out _).mono ?_
          rintro e w' ⟨rfl, rfl⟩
          go_wp2_with fail
          refine (HNW.out _).mono ?_
          rintro e w' ⟨rfl, rfl⟩
          go_wp2_with fail
          refine (HNR.out _).mono ?_
          rintro e w' ⟨rfl, rfl⟩
          go_wp2_with fail
          refine (HCk.out _).mono ?_
          rintro e w2 ⟨rfl, hB2⟩
          go_wp2
          go_ret2
          exact ⟨rfl, hB.trans (hB2.mono hB.size)⟩
    cases hpt : pointed s.data.toList with
    | false =>
      have e := hrear hpt
      exact fin false hpt (.inl rfl) (by rw [e]; rfl) (by rw [e]; simp)
    | true =>
      cases hpp : partL R.data.toList with
      | true =>
        obtain ⟨p9, pd, _, _⟩ := partL_iff.1 hpp
        exact fin true hpt (.inr hpp) pd p9
      | false =>
        rw [hpt, hpp] at hP
        rw [hpt] at hC
        rw [hpp] at hr
        have hP2 : prs s.data.toList = none := hP
        refine ⟨fun t ht => (by rw [hP2] at ht; cases ht), fun _ => ?_⟩
        have HC := Lib.hid hC
        have HW := Lib.hid hw
        have HR := Lib.hid hr
        clear hP hP2 hw hr hrear hwh hC fin hNW hvw wd hpt hpp
        go_enter Tryd.func28, Tryd.ntmps28
        go_wp2_with fail
        refine HC.out.mono ?_
        rintro e w1 ⟨rfl, hB⟩
        go_wp2_with fail
        refine (HW.out _).mono ?_
        rintro e w' ⟨rfl, rfl⟩
        go_wp2_with fail
        refine (HR.out _).mono ?_
        rintro e w' ⟨rfl, rfl⟩
        go_wp2
        go_ret2
        exact ⟨rfl, hB⟩

end Go.Proofs.YtdoplpgmnoefeaaDoor
