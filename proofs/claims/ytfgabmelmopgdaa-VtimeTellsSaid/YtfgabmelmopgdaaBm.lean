/-
  Sums and differences bit by bit: the plain mathematics. No statement is proved here.
-/
import Derived.Test.YtfgabmelmopgdaaBits
namespace Go.Proofs.Ytfgabmelmopgdaa
open Go.RowKit

set_option maxRecDepth 100000 in
theorem grow_bit {g : Nat → Bool} {k : Nat} (hk : k < 256) {v : Bool} (hv : g k = v) :
    (cellsOf fun j => decide (j < k) && g j).setIfInBounds k (.bool v) = cellsOf fun j => decide (j < k + 1) && g j := by
  rw [cellsOf_set _ hk]
  refine cellsOf_congr fun j _ => ?_
  by_cases e : j = k
  · subst e; simp [hv]
  · rw [if_neg e]
    congr 1
    simp
    omega
set_option maxRecDepth 100000 in
theorem grown_all {g : Nat → Bool} : cellsOf (fun j => decide (j < 256) && g j) = cellsOf g := cellsOf_congr fun j hj => by simp [hj]
set_option maxRecDepth 100000 in
theorem grown_none {g : Nat → Bool} : cellsOf (fun j => decide (j < 0) && g j) = cellsOf none_ := cellsOf_congr fun j _ => by simp [none_]

def cy (a b i : Nat) : Bool := BitVec.carry i (BitVec.ofNat 256 a) (BitVec.ofNat 256 b) false
set_option maxRecDepth 100000 in
theorem bit_ofNat (a i : Nat) (h : i < 256) : (BitVec.ofNat 256 a).getLsbD i = a.testBit i := by rw [BitVec.getLsbD_ofNat, decide_eq_true h, Bool.true_and]
set_option maxRecDepth 100000 in
theorem sum_bit {a b i : Nat} (h : i < 256) : (a + b).testBit i = (a.testBit i ^^ (b.testBit i ^^ cy a b i)) := by
  rw [← bit_ofNat (a + b) i h, ← bit_ofNat a i h, ← bit_ofNat b i h, BitVec.ofNat_add, BitVec.getLsbD_add h]
  rfl
set_option maxRecDepth 100000 in
theorem cy_zero (a b : Nat) : cy a b 0 = false := BitVec.carry_zero
set_option maxRecDepth 100000 in
theorem cy_succ {a b i : Nat} (h : i < 256) : cy a b (i + 1) = Bool.atLeastTwo (a.testBit i) (b.testBit i) (cy a b i) := by
  unfold cy
  rw [BitVec.carry_succ, bit_ofNat a i h, bit_ofNat b i h]

def bw (a b i : Nat) : Bool := !BitVec.carry i (BitVec.ofNat 256 a) (~~~ (BitVec.ofNat 256 b)) true
set_option maxRecDepth 100000 in
theorem bw_zero (a b : Nat) : bw a b 0 = false := by unfold bw; rw [BitVec.carry_zero]; rfl
set_option maxRecDepth 100000 in
theorem bw_succ {a b i : Nat} (h : i < 256) : bw a b (i + 1) = !(Bool.atLeastTwo (a.testBit i) (!b.testBit i) (!bw a b i)) := by
  unfold bw
  rw [BitVec.carry_succ, bit_ofNat a i h, BitVec.getLsbD_not, bit_ofNat b i h]
  simp [h]
set_option maxRecDepth 100000 in
theorem take_bit {a b i : Nat} (h : i < 256) (hb : b ≤ a) (ha : a < 2 ^ 256) : (a - b).testBit i = (a.testBit i ^^ (b.testBit i ^^ bw a b i)) := by
  have e : BitVec.ofNat 256 (a - b) = BitVec.ofNat 256 a + ~~~ (BitVec.ofNat 256 b) + BitVec.setWidth 256 (BitVec.ofBool true) := by
    have h1 : BitVec.setWidth 256 (BitVec.ofBool true) = 1#256 := by decide
    rw [h1, BitVec.add_assoc, ← BitVec.neg_eq_not_add, ← BitVec.sub_eq_add_neg]
    apply BitVec.eq_of_toNat_eq
    rw [BitVec.toNat_sub_of_le (by rw [BitVec.le_def]; simp only [BitVec.toNat_ofNat]; rw [Nat.mod_eq_of_lt ha, Nat.mod_eq_of_lt (by omega)]; exact hb)]
    simp only [BitVec.toNat_ofNat]
    rw [Nat.mod_eq_of_lt ha, Nat.mod_eq_of_lt (by omega), Nat.mod_eq_of_lt (by omega)]
  rw [← bit_ofNat (a - b) i h, e, BitVec.getLsbD_add_add_bool h, bit_ofNat a i h, BitVec.getLsbD_not, bit_ofNat b i h]
  unfold bw
  simp [h]

end Go.Proofs.Ytfgabmelmopgdaa
