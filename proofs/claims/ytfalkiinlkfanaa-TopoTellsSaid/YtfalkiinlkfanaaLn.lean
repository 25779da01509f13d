/-
  The landed cpuset's Check and With, by their own code. No statement is proved here.
-/
import Derived.Test.YtfalkiinlkfanaaLa
namespace Go.Proofs.Ytfalkiinlkfanaa
open Go.RowKit

theorem high_nat (n : Nat) : n &&& 4294967040 = ((n / 256) % 16777216) * 256 := by
  apply Nat.eq_of_testBit_eq
  intro i
  have e1 : (4294967040 : Nat) = (2 ^ 24 - 1) <<< 8 := rfl
  have e2 : n / 256 % 16777216 * 256 = (n / 2 ^ 8 % 2 ^ 24) <<< 8 := by rw [Nat.shiftLeft_eq]
  rw [e2, e1]
  rw [Nat.testBit_and, Nat.testBit_shiftLeft, Nat.testBit_shiftLeft, Nat.testBit_mod_two_pow, Nat.testBit_div_two_pow, Nat.testBit_two_pow_sub_one]
  by_cases hi : 8 ≤ i
  · simp [hi, show i - 8 + 8 = i by omega]
    rw [Bool.and_comm]
  · simp [hi]
theorem not_all {s : Int} (h0 : 0 ≤ s) (h1 : s < 4294967296) : bits .andNot .u32 s 255 = s / 256 * 256 := by
  rw [u32_andNot s 255 h0 h1 (by omega) (by omega)]
  rw [show 4294967295 - (255 : Int).toNat = 4294967040 from rfl, high_nat]
  omega

/-- a bit alone, in a set below 256 -/
def bitB (s n : Nat) : Bool :=
  if hasB (s : Int) (n : Int) = true then
    bits .or .u32 (s : Int) (2 ^ n) == (s : Int) && bits .and .u32 (s : Int) (2 ^ n) == 2 ^ n && bits .andNot .u32 (s : Int) (2 ^ n) == (s : Int) - 2 ^ n
  else bits .or .u32 (s : Int) (2 ^ n) == (s : Int) + 2 ^ n && bits .and .u32 (s : Int) (2 ^ n) == 0 && bits .andNot .u32 (s : Int) (2 ^ n) == (s : Int)
theorem of_all {f : Nat → Bool} (n : Nat) (h : (List.range n).all f = true) {s : Nat} (hs : s < n) : f s = true := List.all_eq_true.1 h s (List.mem_range.2 hs)
theorem bit_all : (List.range 256).all (fun s => (List.range 8).all (bitB s)) = true := by kernel_rfl
theorem bit_facts {s n : Nat} (hs : s < 256) (hn : n < 8) : bitB s n = true := of_all 8 (of_all 256 bit_all hs) hn

def chkV (s : Int) : Int := if s < 256 then 0 else 140
set_option maxRecDepth 100000 in
set_option maxHeartbeats 400000 in
theorem ccheck_any (s : Int) (w : World) (h0 : 0 ≤ s) (h1 : s < 4294967296) : Calls Try.prog 50 #[.int .u32 s] w fun e w' => e = .returned (.int .i64 (chkV s)) ∧ w = w' := by
  have hb := not_all h0 h1
  by_cases hs : s < 256
  · have HV : Hid (chkV s = 0) := Lib.hid (if_pos hs)
    have hz : bits .andNot .u32 s 255 = 0 := by rw [hb]; omega
    clear hb hs h0 h1
    go_enter Try.func50, Try.ntmps50
    go_wp2
    go_ret
    exact ⟨retI HV.out.symm, rfl⟩
  · have HV : Hid (chkV s = 140) := Lib.hid (if_neg hs)
    have hz : (bits .andNot .u32 s 255 == 0) = false := by rw [hb]; simp; omega
    clear hb hs h0 h1
    go_enter Try.func50, Try.ntmps50
    go_wp2
    go_ret
    exact ⟨retI HV.out.symm, rfl⟩

/-- a number and an error -/
def Two (a b : Int) (w : World) (e : Ending) (w' : World) : Prop := e = .returned (.tuple #[.int .u32 a, .int .i64 b]) ∧ w = w'
def refV (s c : Int) : Int := if s < 256 then (if cpuB c = true then 0 else 2) else 140
set_option maxRecDepth 100000 in
set_option maxHeartbeats 400000 in
theorem crefused_any (s c : Int) (w : World) (h0 : 0 ≤ s) (h1 : s < 4294967296) : Calls Try.prog 72 #[.int .u32 s, .int .i64 c] w fun e w' => e = .returned (.int .i64 (refV s c)) ∧ w = w' := by
  have HK := Lib.hid (fun u => ccheck_any s u h0 h1)
  have HC := Lib.hid (fun u => cpu_any c u)
  clear h0 h1
  by_cases hs : s < 256
  · rw [show chkV s = 0 from if_pos hs] at HK
    by_cases hc : cpuB c = true
    · have HV : Hid (refV s c = 0) := Lib.hid (by unfold refV; rw [if_pos hs, if_pos hc])
      rw [hc] at HC
      clear hs hc
      go_enter Try.func72, Try.ntmps72
      go_wp2_with fail
      refine (HK.out _).mono ?_
      rintro e w' ⟨rfl, rfl⟩
      go_wp2_with fail
      refine (HC.out _).mono ?_
      rintro e w' ⟨rfl, rfl⟩
      go_wp2
      go_ret
      exact ⟨retI HV.out.symm, rfl⟩
    · have HV : Hid (refV s c = 2) := Lib.hid (by unfold refV; rw [if_pos hs, if_neg hc])
      rw [show cpuB c = false by simpa using hc] at HC
      clear hs hc
      go_enter Try.func72, Try.ntmps72
      go_wp2_with fail
      refine (HK.out _).mono ?_
      rintro e w' ⟨rfl, rfl⟩
      go_wp2_with fail
      refine (HC.out _).mono ?_
      rintro e w' ⟨rfl, rfl⟩
      go_wp2
      go_ret
      exact ⟨retI HV.out.symm, rfl⟩
  · rw [show chkV s = 140 from if_neg hs] at HK
    have HV : Hid (refV s c = 140) := Lib.hid (by unfold refV; rw [if_neg hs])
    clear hs
    go_enter Try.func72, Try.ntmps72
    go_wp2_with fail
    refine (HK.out _).mono ?_
    rintro e w' ⟨rfl, rfl⟩
    go_wp2
    go_ret
    exact ⟨retI HV.out.symm, rfl⟩

theorem bit_nat {s c : Int} (h0 : 0 ≤ s) (h1 : s < 256) (hc : cpuB c = true) : bitB s.toNat c.toNat = true ∧ ((s.toNat : Nat) : Int) = s ∧ ((c.toNat : Nat) : Int) = c := by
  obtain ⟨c0, c1⟩ := cpuB_true hc
  exact ⟨bit_facts (by omega) (by omega), by omega, by omega⟩
theorem or_there {s c : Int} (h0 : 0 ≤ s) (h1 : s < 256) (hc : cpuB c = true) (hh : hasB s c = true) : bits .or .u32 s (2 ^ c.toNat) = s ∧ bits .andNot .u32 s (2 ^ c.toNat) = s - 2 ^ c.toNat := by
  obtain ⟨hb, e1, e2⟩ := bit_nat h0 h1 hc
  unfold bitB at hb
  rw [e1, e2, hh] at hb
  simp at hb
  exact ⟨hb.1.1, hb.2⟩
theorem or_new {s c : Int} (h0 : 0 ≤ s) (h1 : s < 256) (hc : cpuB c = true) (hh : hasB s c = false) : bits .or .u32 s (2 ^ c.toNat) = s + 2 ^ c.toNat ∧ bits .andNot .u32 s (2 ^ c.toNat) = s := by
  obtain ⟨hb, e1, e2⟩ := bit_nat h0 h1 hc
  unfold bitB at hb
  rw [e1, e2, hh] at hb
  simp at hb
  exact ⟨hb.1.1, hb.2⟩
def withV (s c : Int) : Int × Int := if s < 256 then (if cpuB c = true then (if hasB s c = true then (0, 5) else (s + 2 ^ c.toNat, 0)) else (0, 2)) else (0, 140)
def outV (s c : Int) : Int × Int := if s < 256 then (if cpuB c = true then (if hasB s c = true then (s - 2 ^ c.toNat, 0) else (0, 4)) else (0, 2)) else (0, 140)

set_option maxRecDepth 100000 in
set_option maxHeartbeats 1000000 in
theorem with_any (s c : Int) (w : World) (h0 : 0 ≤ s) (h1 : s < 4294967296) : Calls Try.prog 64 #[.int .u32 s, .int .i64 c] w (Two (withV s c).1 (withV s c).2 w) := by
  have HR := Lib.hid (fun u => crefused_any s c u h0 h1)
  have HH := Lib.hid (fun u => has_any s c u h0 h1)
  by_cases hs : s < 256
  · by_cases hc : cpuB c = true
    · rw [show refV s c = 0 by unfold refV; rw [if_pos hs, if_pos hc]] at HR
      have HB := Lib.hid (fun u => bit_any c u (by have := cpuB_true hc; omega) (by have := cpuB_true hc; omega))
      by_cases hh : hasB s c = true
      · have HV : Hid (withV s c = (0, 5)) := Lib.hid (by unfold withV; rw [if_pos hs, if_pos hc, if_pos hh])
        rw [hh] at HH
        clear hs hc hh h0 h1
        go_enter Try.func64, Try.ntmps64
        go_wp2_with fail
        refine (HR.out _).mono ?_
        rintro e w' ⟨rfl, rfl⟩
        go_wp2_with fail
        refine (HH.out _).mono ?_
        rintro e w' ⟨rfl, rfl⟩
        go_wp2
        go_ret2
        rw [HV.out]
        exact ⟨rfl, rfl⟩
      · have HV : Hid (withV s c = (s + 2 ^ c.toNat, 0)) := Lib.hid (by unfold withV; rw [if_pos hs, if_pos hc, if_neg hh])
        have hh' : hasB s c = false := by simpa using hh
        have ho := (or_new h0 hs hc hh').1
        rw [hh'] at HH
        generalize (2 : Int) ^ c.toNat = X at *
        clear hs hc hh hh' h0 h1
        go_enter Try.func64, Try.ntmps64
        go_wp2_with fail
        refine (HR.out _).mono ?_
        rintro e w' ⟨rfl, rfl⟩
        go_wp2_with fail
        refine (HH.out _).mono ?_
        rintro e w' ⟨rfl, rfl⟩
        go_wp2_with fail
        refine (HB.out _).mono ?_
        rintro e w' ⟨rfl, rfl⟩
        go_wp2
        go_ret2
        rw [HV.out]
        exact ⟨rfl, rfl⟩
    · rw [show refV s c = 2 by unfold refV; rw [if_pos hs, if_neg hc]] at HR
      have HV : Hid (withV s c = (0, 2)) := Lib.hid (by unfold withV; rw [if_pos hs, if_neg hc])
      clear hs hc h0 h1
      go_enter Try.func64, Try.ntmps64
      go_wp2_with fail
      refine (HR.out _).mono ?_
      rintro e w' ⟨rfl, rfl⟩
      go_wp2
      go_ret2
      rw [HV.out]
      exact ⟨rfl, rfl⟩
  · rw [show refV s c = 140 by unfold refV; rw [if_neg hs]] at HR
    have HV : Hid (withV s c = (0, 140)) := Lib.hid (by unfold withV; rw [if_neg hs])
    clear hs h0 h1
    go_enter Try.func64, Try.ntmps64
    go_wp2_with fail
    refine (HR.out _).mono ?_
    rintro e w' ⟨rfl, rfl⟩
    go_wp2
    go_ret2
    rw [HV.out]
    exact ⟨rfl, rfl⟩

end Go.Proofs.Ytfalkiinlkfanaa
