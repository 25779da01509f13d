/-
  What the machine's bits say of sets. No statement is proved here.
-/
import Derived.Test.YtbmlhodglemplaaDoorRn
import Derived.Laws.BitsAllLaws
namespace Go.Proofs.YtbmlhodglemplaaDoor
open Go.RowKit

theorem and_all {s : Int} (h0 : 0 ≤ s) (h1 : s < 4294967296) : bits .and .u32 s 255 = s % 256 := by
  rw [u32_and s 255 h0 h1 (by omega) (by omega)]
  have : s.toNat &&& 255 = s.toNat % 256 := Nat.and_two_pow_sub_one_eq_mod s.toNat 8
  rw [show (255 : Int).toNat = 255 from rfl, this]
  omega

theorem high_nat (n : Nat) : n &&& 4294967040 = ((n / 256) % 16777216) * 256 := by
  apply Nat.eq_of_testBit_eq
  intro i
  have e1 : (4294967040 : Nat) = (2 ^ 24 - 1) <<< 8 := rfl
  have e2 : n / 256 % 16777216 * 256 = (n / 2 ^ 8 % 2 ^ 24) <<< 8 := by rw [Nat.shiftLeft_eq]
  rw [e2, e1]
  rw [Nat.testBit_and, Nat.testBit_shiftLeft, Nat.testBit_shiftLeft, Nat.testBit_mod_two_pow, Nat.testBit_div_two_pow, Nat.testBit_two_pow_sub_one]
  by_cases hi : 8 ≤ i
  · simp [hi, show i - 8 + 8 = i by omega]
    rw [Bool.and_comm]
  · simp [hi]
theorem not_all {s : Int} (h0 : 0 ≤ s) (h1 : s < 4294967296) : bits .andNot .u32 s 255 = s / 256 * 256 := by
  rw [u32_andNot s 255 h0 h1 (by omega) (by omega)]
  rw [show 4294967295 - (255 : Int).toNat = 4294967040 from rfl, high_nat]
  omega

/-- a bit alone, in a set below 256 -/
def bitB (s n : Nat) : Bool :=
  if hasB (s : Int) (n : Int) = true then
    bits .or .u32 (s : Int) (2 ^ n) == (s : Int) && bits .and .u32 (s : Int) (2 ^ n) == 2 ^ n && bits .andNot .u32 (s : Int) (2 ^ n) == (s : Int) - 2 ^ n
  else bits .or .u32 (s : Int) (2 ^ n) == (s : Int) + 2 ^ n && bits .and .u32 (s : Int) (2 ^ n) == 0 && bits .andNot .u32 (s : Int) (2 ^ n) == (s : Int)
theorem bit_all : (List.range 256).all (fun s => (List.range 8).all (bitB s)) = true := by kernel_rfl
theorem bit_facts {s n : Nat} (hs : s < 256) (hn : n < 8) : bitB s n = true := of_all 8 (of_all 256 bit_all hs) hn

theorem two_pos (n : Nat) : (0 : Int) < 2 ^ n := Int.pow_pos (by decide)
theorem two_le8 {n : Nat} (h : n ≤ 8) : (2 : Int) ^ n ≤ 256 := by
  have : n = 0 ∨ n = 1 ∨ n = 2 ∨ n = 3 ∨ n = 4 ∨ n = 5 ∨ n = 6 ∨ n = 7 ∨ n = 8 := by omega
  rcases this with rfl | rfl | rfl | rfl | rfl | rfl | rfl | rfl | rfl <;> decide
theorem has_bit {n i : Nat} (hi : i < 8) : hasB (n : Int) (i : Int) = n.testBit i := by
  unfold hasB
  rw [cpuB_yes (by omega) (by omega), Nat.testBit_eq_decide_div_mod_eq, Bool.true_and, Int.toNat_natCast]
  have : (n : Int) / 2 ^ i % 2 = ((n / 2 ^ i % 2 : Nat) : Int) := by push_cast; rfl
  rw [this]
  exact decide_eq_decide.2 (by omega)
theorem and_two (n i : Nat) : n &&& 2 ^ i = if n.testBit i = true then 2 ^ i else 0 := by
  apply Nat.eq_of_testBit_eq
  intro j
  rw [Nat.testBit_and, Nat.testBit_two_pow]
  by_cases hj : i = j
  · subst hj
    cases h : n.testBit i <;> simp
  · cases h : n.testBit i <;> simp [hj]
/-- one bit of whatever number -/
theorem and_bit {s c : Int} (h0 : 0 ≤ s) (h1 : s < 4294967296) (hc : cpuB c = true) : bits .and .u32 s (2 ^ c.toNat) = if hasB s c = true then 2 ^ c.toNat else 0 := by
  obtain ⟨c0, c1⟩ := cpuB_true hc
  obtain ⟨n, rfl⟩ := Int.eq_ofNat_of_zero_le h0
  obtain ⟨i, rfl⟩ := Int.eq_ofNat_of_zero_le c0
  have hi : i < 8 := by omega
  have h2 := two_le8 (n := i) (by omega)
  have h3 := two_pos i
  rw [Int.toNat_natCast, u32_and _ _ h0 h1 (by omega) (by omega), has_bit hi, Int.toNat_natCast]
  have e : ((2 : Int) ^ i).toNat = 2 ^ i := by
    have : (2 : Int) ^ i = ((2 ^ i : Nat) : Int) := by push_cast; rfl
    rw [this, Int.toNat_natCast]
  rw [e, and_two]
  cases n.testBit i <;> simp

theorem has_mod {s c : Int} : hasB (s % 256) c = hasB s c := by
  unfold hasB
  by_cases hc : cpuB c = true
  · rw [hc]
    have h8 := eight hc
    rcases h8 with rfl | rfl | rfl | rfl | rfl | rfl | rfl | rfl <;> (simp only [Bool.true_and]; apply decide_eq_decide.2; simp; try omega)
  · simp [hc]
theorem mem_mod {s : Int} : mem (s % 256) = mem s := by
  unfold mem memb
  have : hasB (s % 256) = hasB s := funext fun c => has_mod
  rw [this]
theorem not_nat {n m : Nat} (hm : m < 2 ^ 32) : n % 256 &&& (4294967295 - m) = 0 ↔ ∀ i, i < 8 → n.testBit i = true → m.testBit i = true := by
  have e : 4294967295 - m = 2 ^ 32 - (m + 1) := by omega
  have e2 : n % 256 = n % 2 ^ 8 := rfl
  rw [e, e2]
  constructor
  · intro h i hi ht
    have := congrArg (fun x => x.testBit i) h
    simp only [Nat.testBit_and, Nat.testBit_mod_two_pow, Nat.testBit_two_pow_sub_succ hm, Nat.zero_testBit] at this
    rw [ht] at this
    simpa [hi, show i < 32 by omega] using this
  · intro h
    apply Nat.eq_of_testBit_eq
    intro i
    simp only [Nat.testBit_and, Nat.testBit_mod_two_pow, Nat.testBit_two_pow_sub_succ hm, Nat.zero_testBit]
    by_cases hi : i < 8
    · cases ht : n.testBit i with
      | false => simp
      | true => rw [h i hi ht]; simp
    · simp [hi]
theorem within_eq {s t : Int} (h0 : 0 ≤ s) (t0 : 0 ≤ t) (t1 : t < 4294967296) : (bits .andNot .u32 (s % 256) t == 0) = withinV (mem s) t := by
  obtain ⟨n, rfl⟩ := Int.eq_ofNat_of_zero_le h0
  obtain ⟨m, rfl⟩ := Int.eq_ofNat_of_zero_le t0
  rw [u32_andNot _ _ (by omega) (by omega) t0 t1]
  have e1 : ((n : Int) % 256).toNat = n % 256 := by omega
  rw [e1, Int.toNat_natCast, Bool.eq_iff_iff]
  have h := not_nat (n := n) (m := m) (by omega)
  unfold withinV mem memb
  simp only [beq_iff_eq, List.all_eq_true, List.mem_filter, List.mem_map, List.mem_range]
  constructor
  · rintro hz x ⟨⟨i, hi, rfl⟩, hb⟩
    rw [has_bit hi] at hb ⊢
    exact h.1 (by exact_mod_cast hz) i hi hb
  · intro hz
    have : n % 256 &&& (4294967295 - m) = 0 := h.2 fun i hi ht => by
      rw [← has_bit hi] at ht ⊢
      exact hz (i : Int) ⟨⟨i, hi, rfl⟩, ht⟩
    exact_mod_cast this

end Go.Proofs.YtbmlhodglemplaaDoor
