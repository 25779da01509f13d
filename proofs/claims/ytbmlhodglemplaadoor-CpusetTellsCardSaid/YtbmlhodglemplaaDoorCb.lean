/-
  The contracts of the landed cpuset: isCpu, bit, below, Check, First, Has, Within, refused. No statement is proved here.
-/
import Derived.Test.YtbmlhodglemplaaDoorCa
namespace Go.Proofs.YtbmlhodglemplaaDoor
open Go.RowKit

set_option maxRecDepth 100000 in
set_option maxHeartbeats 400000 in
theorem cpu_any (c : Int) (w : World) : Calls Tryd.prog 35 #[.int .i64 c] w fun e w' => e = .returned (.bool (cpuB c)) ∧ w = w' := by
  by_cases h0 : 0 ≤ c
  · by_cases h1 : c < 8
    · have H := Lib.hid (cpuB_yes h0 h1)
      go_enter Tryd.func35, Tryd.ntmps35
      go_wp2
      go_ret
      exact ⟨retB H.out.symm, rfl⟩
    · have H := Lib.hid (cpuB_no (c := c) (.inr (by omega)))
      go_enter Tryd.func35, Tryd.ntmps35
      go_wp2
      go_ret
      exact ⟨retB H.out.symm, rfl⟩
  · have H := Lib.hid (cpuB_no (c := c) (.inl (by omega)))
    go_enter Tryd.func35, Tryd.ntmps35
    go_wp2
    go_ret
    exact ⟨retB H.out.symm, rfl⟩

theorem retI {k : IntKind} {a b : Int} (h : a = b) : Ending.returned (.int k a) = .returned (.int k b) := by rw [h]

set_option maxRecDepth 100000 in
set_option maxHeartbeats 400000 in
theorem bit_any (c : Int) (w : World) (h0 : 0 ≤ c) (h1 : c ≤ 8) : Calls Tryd.prog 36 #[.int .i64 c] w fun e w' => e = .returned (.int .u32 (2 ^ c.toNat)) ∧ w = w' := by
  have g0 := two_pos c.toNat
  have g1 := two_le8 (n := c.toNat) (by omega)
  have g2 : c ≤ 32 := by omega
  go_enter Tryd.func36, Tryd.ntmps36
  go_wp2
  go_ret
  refine ⟨?_, rfl⟩
  simp

set_option maxRecDepth 100000 in
set_option maxHeartbeats 400000 in
theorem below_any (c : Int) (w : World) (h0 : 0 ≤ c) (h1 : c ≤ 8) : Calls Tryd.prog 37 #[.int .i64 c] w fun e w' => e = .returned (.int .u32 (2 ^ c.toNat - 1)) ∧ w = w' := by
  have HB := Lib.hid (fun u => bit_any c u h0 h1)
  have g0 := two_pos c.toNat
  have g1 := two_le8 (n := c.toNat) (by omega)
  generalize (2 : Int) ^ c.toNat = X at *
  go_enter Tryd.func37, Tryd.ntmps37
  go_wp2_with fail
  refine (HB.out _).mono ?_
  rintro e w' ⟨rfl, rfl⟩
  go_wp2
  go_ret
  refine ⟨?_, rfl⟩
  simp

def chkV (s : Int) : Int := if s < 256 then 0 else 140
set_option maxRecDepth 100000 in
set_option maxHeartbeats 400000 in
theorem check_any (s : Int) (w : World) (h0 : 0 ≤ s) (h1 : s < 4294967296) : Calls Tryd.prog 17 #[.int .u32 s] w fun e w' => e = .returned (.int .i64 (chkV s)) ∧ w = w' := by
  have hb := not_all h0 h1
  by_cases hs : s < 256
  · have HV : Hid (chkV s = 0) := Lib.hid (if_pos hs)
    have hz : bits .andNot .u32 s 255 = 0 := by rw [hb]; omega
    clear hb hs h0 h1
    go_enter Tryd.func17, Tryd.ntmps17
    go_wp2
    go_ret
    exact ⟨retI HV.out.symm, rfl⟩
  · have HV : Hid (chkV s = 140) := Lib.hid (if_neg hs)
    have hz : (bits .andNot .u32 s 255 == 0) = false := by rw [hb]; simp; omega
    clear hb hs h0 h1
    go_enter Tryd.func17, Tryd.ntmps17
    go_wp2
    go_ret
    exact ⟨retI HV.out.symm, rfl⟩

/-- a number and an error -/
def Two (a b : Int) (w : World) (e : Ending) (w' : World) : Prop := e = .returned (.tuple #[.int .u32 a, .int .i64 b]) ∧ w = w'
def firstV (n : Int) : Int × Int := if n < 0 ∨ 8 < n then (0, 2) else (2 ^ n.toNat - 1, 0)
set_option maxRecDepth 100000 in
set_option maxHeartbeats 400000 in
theorem first_any (n : Int) (w : World) : Calls Tryd.prog 15 #[.int .i64 n] w (Two (firstV n).1 (firstV n).2 w) := by
  by_cases h0 : n < 0
  · have HV : Hid (firstV n = (0, 2)) := Lib.hid (if_pos (.inl h0))
    go_enter Tryd.func15, Tryd.ntmps15
    go_wp2
    go_ret2
    rw [HV.out]
    exact ⟨rfl, rfl⟩
  · by_cases h8 : 8 < n
    · have HV : Hid (firstV n = (0, 2)) := Lib.hid (if_pos (.inr h8))
      go_enter Tryd.func15, Tryd.ntmps15
      go_wp2
      go_ret2
      rw [HV.out]
      exact ⟨rfl, rfl⟩
    · have HV : Hid (firstV n = (2 ^ n.toNat - 1, 0)) := Lib.hid (if_neg (by omega))
      have HB := Lib.hid (fun u => below_any n u (by omega) (by omega))
      go_enter Tryd.func15, Tryd.ntmps15
      go_wp2_with fail
      refine (HB.out _).mono ?_
      rintro e w' ⟨rfl, rfl⟩
      go_wp2
      go_ret2
      rw [HV.out]
      exact ⟨rfl, rfl⟩

set_option maxRecDepth 100000 in
set_option maxHeartbeats 1000000 in
theorem has_any (s c : Int) (w : World) (h0 : 0 ≤ s) (h1 : s < 4294967296) : Calls Tryd.prog 25 #[.int .u32 s, .int .i64 c] w fun e w' => e = .returned (.bool (hasB s c)) ∧ w = w' := by
  have HC := Lib.hid (fun u => cpu_any c u)
  by_cases hc : cpuB c = true
  · have hb := and_bit h0 h1 hc
    obtain ⟨c0, c1⟩ := cpuB_true hc
    have HB := Lib.hid (fun u => bit_any c u (by omega) (by omega))
    rw [hc] at HC
    have g0 := two_pos c.toNat
    generalize (2 : Int) ^ c.toNat = X at *
    by_cases hh : hasB s c = true
    · rw [hh] at hb ⊢
      have hb2 : bits .and .u32 s X = X := by simpa using hb
      have hx : (X == 0) = false := by simp; omega
      clear hb hh hc g0
      go_enter Tryd.func25, Tryd.ntmps25
      go_wp2_with fail
      refine (HC.out _).mono ?_
      rintro e w' ⟨rfl, rfl⟩
      go_wp2_with fail
      refine (HB.out _).mono ?_
      rintro e w' ⟨rfl, rfl⟩
      go_wp2
      go_ret
      exact ⟨by simp; simpa using hx, rfl⟩
    · have hh' : hasB s c = false := by simpa using hh
      rw [hh'] at hb ⊢
      have hb2 : bits .and .u32 s X = 0 := by simpa using hb
      clear hb hh hh' hc g0
      go_enter Tryd.func25, Tryd.ntmps25
      go_wp2_with fail
      refine (HC.out _).mono ?_
      rintro e w' ⟨rfl, rfl⟩
      go_wp2_with fail
      refine (HB.out _).mono ?_
      rintro e w' ⟨rfl, rfl⟩
      go_wp2
      go_ret
      exact ⟨by simp, rfl⟩
  · have hc' : cpuB c = false := by simpa using hc
    rw [hc'] at HC
    have HV : hasB s c = false := by unfold hasB; rw [hc']; rfl
    rw [HV]
    clear HV hc hc' h0 h1
    go_enter Tryd.func25, Tryd.ntmps25
    go_wp2_with fail
    refine (HC.out _).mono ?_
    rintro e w' ⟨rfl, rfl⟩
    go_wp2
    go_ret
    exact ⟨rfl, rfl⟩

set_option maxRecDepth 100000 in
set_option maxHeartbeats 400000 in
theorem within_any (s t : Int) (w : World) (h0 : 0 ≤ s) (h1 : s < 4294967296) (t0 : 0 ≤ t) (t1 : t < 4294967296) : Calls Tryd.prog 21 #[.int .u32 s, .int .u32 t] w fun e w' => e = .returned (.bool (withinV (mem s) t)) ∧ w = w' := by
  have HE := Lib.hid (within_eq h0 t0 t1)
  have ha := and_all h0 h1
  clear h0 h1 t0 t1
  generalize withinV (mem s) t = B at *
  generalize s % 256 = X at *
  go_enter Tryd.func21, Tryd.ntmps21
  go_wp2
  go_ret
  exact ⟨retB (by rw [← HE.out]), rfl⟩

def refV (s c : Int) : Int := if s < 256 then (if cpuB c = true then 0 else 2) else 140
set_option maxRecDepth 100000 in
set_option maxHeartbeats 400000 in
theorem refused_any (s c : Int) (w : World) (h0 : 0 ≤ s) (h1 : s < 4294967296) : Calls Tryd.prog 40 #[.int .u32 s, .int .i64 c] w fun e w' => e = .returned (.int .i64 (refV s c)) ∧ w = w' := by
  have HK := Lib.hid (fun u => check_any s u h0 h1)
  have HC := Lib.hid (fun u => cpu_any c u)
  clear h0 h1
  by_cases hs : s < 256
  · rw [show chkV s = 0 from if_pos hs] at HK
    by_cases hc : cpuB c = true
    · have HV : Hid (refV s c = 0) := Lib.hid (by unfold refV; rw [if_pos hs, if_pos hc])
      rw [hc] at HC
      clear hs hc
      go_enter Tryd.func40, Tryd.ntmps40
      go_wp2_with fail
      refine (HK.out _).mono ?_
      rintro e w' ⟨rfl, rfl⟩
      go_wp2_with fail
      refine (HC.out _).mono ?_
      rintro e w' ⟨rfl, rfl⟩
      go_wp2
      go_ret
      exact ⟨retI HV.out.symm, rfl⟩
    · have HV : Hid (refV s c = 2) := Lib.hid (by unfold refV; rw [if_pos hs, if_neg hc])
      rw [show cpuB c = false by simpa using hc] at HC
      clear hs hc
      go_enter Tryd.func40, Tryd.ntmps40
      go_wp2_with fail
      refine (HK.out _).mono ?_
      rintro e w' ⟨rfl, rfl⟩
      go_wp2_with fail
      refine (HC.out _).mono ?_
      rintro e w' ⟨rfl, rfl⟩
      go_wp2
      go_ret
      exact ⟨retI HV.out.symm, rfl⟩
  · rw [show chkV s = 140 from if_neg hs] at HK
    have HV : Hid (refV s c = 140) := Lib.hid (by unfold refV; rw [if_neg hs])
    clear hs
    go_enter Tryd.func40, Tryd.ntmps40
    go_wp2_with fail
    refine (HK.out _).mono ?_
    rintro e w' ⟨rfl, rfl⟩
    go_wp2
    go_ret
    exact ⟨retI HV.out.symm, rfl⟩

end Go.Proofs.YtbmlhodglemplaaDoor
