/-
  The landed cpuset's Has; sets of what holds. No statement is proved here.
-/
import Derived.Test.YtkbgpmgnkegipaaDoorTa
import Derived.Laws.BitsAllLaws
namespace Go.Proofs.YtkbgpmgnkegipaaDoor
open Go.RowKit

theorem two_pos_m (n : Nat) : (0 : Int) < 2 ^ n := Int.pow_pos (by decide)
theorem two_le8_m {n : Nat} (h : n ≤ 8) : (2 : Int) ^ n ≤ 256 := by
  have : n = 0 ∨ n = 1 ∨ n = 2 ∨ n = 3 ∨ n = 4 ∨ n = 5 ∨ n = 6 ∨ n = 7 ∨ n = 8 := by omega
  rcases this with rfl | rfl | rfl | rfl | rfl | rfl | rfl | rfl | rfl <;> decide
theorem has_bit {n i : Nat} (hi : i < 8) : hasB (n : Int) (i : Int) = n.testBit i := by
  unfold hasB
  rw [cpuB_yes (by omega) (by omega), Nat.testBit_eq_decide_div_mod_eq, Bool.true_and, Int.toNat_natCast]
  have : (n : Int) / 2 ^ i % 2 = ((n / 2 ^ i % 2 : Nat) : Int) := by push_cast; rfl
  rw [this]
  exact decide_eq_decide.2 (by omega)
theorem and_two (n i : Nat) : n &&& 2 ^ i = if n.testBit i = true then 2 ^ i else 0 := by
  apply Nat.eq_of_testBit_eq
  intro j
  rw [Nat.testBit_and, Nat.testBit_two_pow]
  by_cases hj : i = j
  · subst hj
    cases h : n.testBit i <;> simp
  · cases h : n.testBit i <;> simp [hj]
/-- one bit of whatever number -/
theorem and_bit {s c : Int} (h0 : 0 ≤ s) (h1 : s < 4294967296) (hc : cpuB c = true) : bits .and .u32 s (2 ^ c.toNat) = if hasB s c = true then 2 ^ c.toNat else 0 := by
  obtain ⟨c0, c1⟩ := cpuB_true hc
  obtain ⟨n, rfl⟩ := Int.eq_ofNat_of_zero_le h0
  obtain ⟨i, rfl⟩ := Int.eq_ofNat_of_zero_le c0
  have hi : i < 8 := by omega
  have h2 := two_le8_m (n := i) (by omega)
  have h3 := two_pos_m i
  rw [Int.toNat_natCast, u32_and _ _ h0 h1 (by omega) (by omega), has_bit hi, Int.toNat_natCast]
  have e : ((2 : Int) ^ i).toNat = 2 ^ i := by
    have : (2 : Int) ^ i = ((2 ^ i : Nat) : Int) := by push_cast; rfl
    rw [this, Int.toNat_natCast]
  rw [e, and_two]
  cases n.testBit i <;> simp


set_option maxRecDepth 100000 in
set_option maxHeartbeats 400000 in
theorem cpu_any_m (c : Int) (w : World) : Calls Tryd.prog 66 #[.int .i64 c] w fun e w' => e = .returned (.bool (cpuB c)) ∧ w = w' := by
  by_cases h0 : 0 ≤ c
  · by_cases h1 : c < 8
    · have H := Lib.hid (cpuB_yes h0 h1)
      go_enter Tryd.func66, Tryd.ntmps66
      go_wp2
      go_ret
      exact ⟨retB H.out.symm, rfl⟩
    · have H := Lib.hid (cpuB_no (c := c) (.inr (by omega)))
      go_enter Tryd.func66, Tryd.ntmps66
      go_wp2
      go_ret
      exact ⟨retB H.out.symm, rfl⟩
  · have H := Lib.hid (cpuB_no (c := c) (.inl (by omega)))
    go_enter Tryd.func66, Tryd.ntmps66
    go_wp2
    go_ret
    exact ⟨retB H.out.symm, rfl⟩


set_option maxRecDepth 100000 in
set_option maxHeartbeats 400000 in
theorem bit_any_m (c : Int) (w : World) (h0 : 0 ≤ c) (h1 : c ≤ 8) : Calls Tryd.prog 57 #[.int .i64 c] w fun e w' => e = .returned (.int .u32 (2 ^ c.toNat)) ∧ w = w' := by
  have g0 := two_pos_m c.toNat
  have g1 := two_le8_m (n := c.toNat) (by omega)
  have g2 : c ≤ 32 := by omega
  go_enter Tryd.func57, Tryd.ntmps57
  go_wp2
  go_ret
  refine ⟨?_, rfl⟩
  simp




/-- the set of those below n of which P holds -/
def setN (P : Nat → Bool) : Nat → Nat
  | 0 => 0
  | n + 1 => setN P n + (if P n = true then 2 ^ n else 0)
theorem setN_lt (P : Nat → Bool) (n : Nat) : setN P n < 2 ^ n := by
  induction n with
  | zero => exact Nat.one_pos
  | succ n ih =>
    rw [setN, Nat.pow_succ]
    split <;> omega
theorem setN_bit (P : Nat → Bool) (n b : Nat) : (setN P n).testBit b = (decide (b < n) && P b) := by
  induction n with
  | zero => simp [setN]
  | succ n ih =>
    have hlt := setN_lt P n
    rw [setN]
    rcases Nat.lt_trichotomy b n with h | h | h
    · have h2 : decide (b < n + 1) = true := by simp; omega
      have h3 : decide (b < n) = true := by simpa using h
      rw [h2, Bool.true_and]
      rw [h3, Bool.true_and] at ih
      split
      · rw [Nat.add_comm, Nat.testBit_two_pow_add_gt h]; exact ih
      · rw [Nat.add_zero]; exact ih
    · subst h
      have h2 : decide (b < b + 1) = true := by simp
      have h0 : (setN P b).testBit b = false := Nat.testBit_lt_two_pow hlt
      rw [h2, Bool.true_and]
      cases hp : P b with
      | true => rw [if_pos rfl, Nat.add_comm, Nat.testBit_two_pow_add_eq, h0]; rfl
      | false => rw [if_neg (by simp), Nat.add_zero, h0]
    · have h2 : decide (b < n + 1) = false := by simp; omega
      rw [h2, Bool.false_and]
      refine Nat.testBit_lt_two_pow (Nat.lt_of_lt_of_le (m := 2 ^ (n + 1)) ?_ (Nat.pow_le_pow_right (by omega) (by omega)))
      rw [Nat.pow_succ]
      split <;> omega
theorem has_set (P : Nat → Bool) {n b : Nat} (hb : b < n) (hn : n ≤ 8) : hasB (setN P n : Int) (b : Int) = P b := by
  rw [has_bit (by omega), setN_bit]
  simp [hb]
theorem setN_small (P : Nat → Bool) {n : Nat} (hn : n ≤ 8) : setN P n < 256 := Nat.lt_of_lt_of_le (setN_lt P n) (Nat.pow_le_pow_right (by omega) hn)

end Go.Proofs.YtkbgpmgnkegipaaDoor
