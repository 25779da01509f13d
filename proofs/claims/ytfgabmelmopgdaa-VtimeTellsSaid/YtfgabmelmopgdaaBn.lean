/-
  The contract of the document's number of bits. No statement is proved here.
-/
import Derived.Test.YtfgabmelmopgdaaBo
namespace Go.Proofs.Ytfgabmelmopgdaa
open Go.RowKit

set_option maxRecDepth 100000 in
theorem num_ret {a b c d : Int} {x y : Bool} (h1 : a = c) (h2 : b = d) (h3 : x = y) : Ending.returned (.tuple #[.agg #[.int .u64 a, .int .u64 b], .bool x]) = .returned (.tuple #[.agg #[.int .u64 c, .int .u64 d], .bool y]) := by rw [h1, h2, h3]
set_option maxRecDepth 100000 in
theorem nb_bit {M N m : Nat} (hM : N % 2 ^ 128 = M) (hm : m < 128) : M / 2 ^ m = 2 * (M / 2 ^ (m + 1)) + (if N.testBit m = true then 1 else 0) := by
  have h1 : M.testBit m = N.testBit m := by rw [← hM, Nat.testBit_mod_two_pow, decide_eq_true hm, Bool.true_and]
  have e : M / 2 ^ (m + 1) = M / 2 ^ m / 2 := by rw [Nat.div_div_eq_div_mul, ← Nat.pow_succ]
  rw [e, ← h1, Nat.testBit_eq_decide_div_mod_eq]
  generalize M / 2 ^ m = x
  by_cases h : x % 2 = 1
  · simp [h]; omega
  · simp [h]; omega
set_option maxRecDepth 100000 in
theorem nb_step0 {M N m hi lo hi' lo' : Nat} (hM : N % 2 ^ 128 = M) (hm : m < 128) (hV : hi * 2 ^ 64 + lo = M / 2 ^ (m + 1)) (hb : N.testBit m = false) (h : hi' * 2 ^ 64 + lo' = 2 * (hi * 2 ^ 64 + lo)) : hi' * 2 ^ 64 + lo' = M / 2 ^ m := by
  have := nb_bit hM hm
  rw [hb, if_neg (by simp)] at this
  exact (h.trans (by rw [hV])).trans (this.trans (Nat.add_zero _)).symm
set_option maxRecDepth 100000 in
theorem nb_step1 {M N m hi lo hi' lo' : Nat} (hM : N % 2 ^ 128 = M) (hm : m < 128) (hV : hi * 2 ^ 64 + lo = M / 2 ^ (m + 1)) (hb : N.testBit m = true) (h : hi' * 2 ^ 64 + lo' = 2 * (hi * 2 ^ 64 + lo) + 1) : hi' * 2 ^ 64 + lo' = M / 2 ^ m := by
  have := nb_bit hM hm
  rw [hb, if_pos rfl] at this
  exact (h.trans (by rw [hV])).trans this.symm


end Go.Proofs.Ytfgabmelmopgdaa
