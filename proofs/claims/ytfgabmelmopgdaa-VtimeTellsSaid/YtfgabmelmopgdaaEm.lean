/-
  The first greatest and the first least of a row of fractions: plain mathematics (a: the numbers, b: the weights). No statement is proved here.
-/
import Derived.Test.YtfgabmelmopgdaaFs
namespace Go.Proofs.Ytfgabmelmopgdaa

/-- k is the first of the greatest of the first n -/
def Top (a b : Nat → Nat) (n k : Nat) : Prop := k < n ∧ (∀ j, j < n → a j * b k ≤ a k * b j) ∧ (∀ j, j < k → a j * b k < a k * b j)
/-- k is the first of the least of the first n -/
def Bot (a b : Nat → Nat) (n k : Nat) : Prop := k < n ∧ (∀ j, j < n → a k * b j ≤ a j * b k) ∧ (∀ j, j < k → a k * b j < a j * b k)

set_option maxRecDepth 100000 in
theorem frac_le_lt {p x q y r z : Nat} (hx : 0 < x) (h1 : p * y ≤ q * x) (h2 : q * z < r * y) : p * z < r * x := by
  have m1 := Nat.mul_le_mul_right z h1
  have m2 := Nat.mul_lt_mul_of_pos_right h2 hx
  have e1 : p * y * z = p * z * y := by rw [Nat.mul_assoc, Nat.mul_comm y z, ← Nat.mul_assoc]
  have e2 : q * x * z = q * z * x := by rw [Nat.mul_assoc, Nat.mul_comm x z, ← Nat.mul_assoc]
  have e3 : r * y * x = r * x * y := by rw [Nat.mul_assoc, Nat.mul_comm y x, ← Nat.mul_assoc]
  exact Nat.lt_of_mul_lt_mul_right (show p * z * y < r * x * y by omega)
set_option maxRecDepth 100000 in
theorem frac_lt_le {p x q y r z : Nat} (hz : 0 < z) (h1 : p * y < q * x) (h2 : q * z ≤ r * y) : p * z < r * x := by
  have m1 := Nat.mul_lt_mul_of_pos_right h1 hz
  have m2 := Nat.mul_le_mul_right x h2
  have e1 : p * y * z = p * z * y := by rw [Nat.mul_assoc, Nat.mul_comm y z, ← Nat.mul_assoc]
  have e2 : q * x * z = q * z * x := by rw [Nat.mul_assoc, Nat.mul_comm x z, ← Nat.mul_assoc]
  have e3 : r * y * x = r * x * y := by rw [Nat.mul_assoc, Nat.mul_comm y x, ← Nat.mul_assoc]
  exact Nat.lt_of_mul_lt_mul_right (show p * z * y < r * x * y by omega)

set_option maxRecDepth 100000 in
theorem Top.one (a b : Nat → Nat) : Top a b 1 0 := ⟨by omega, fun j hj => by rw [show j = 0 by omega]; exact Nat.le_refl _, fun j hj => by omega⟩
set_option maxRecDepth 100000 in
theorem Bot.one (a b : Nat → Nat) : Bot a b 1 0 := ⟨by omega, fun j hj => by rw [show j = 0 by omega]; exact Nat.le_refl _, fun j hj => by omega⟩
set_option maxRecDepth 100000 in
theorem Top.more {a b : Nat → Nat} {n k : Nat} (h : Top a b n k) (hb : ∀ j, j < n → 0 < b j) (hg : a k * b n < a n * b k) : Top a b (n + 1) n := by
  have go : ∀ j, j < n → a j * b n < a n * b j := fun j hj => frac_le_lt (hb j hj) (h.2.1 j hj) hg
  refine ⟨by omega, fun j hj => ?_, go⟩
  rcases Nat.lt_or_ge j n with hh | hh
  · exact Nat.le_of_lt (go j hh)
  · rw [show j = n by omega]; exact Nat.le_refl _
set_option maxRecDepth 100000 in
theorem Top.same {a b : Nat → Nat} {n k : Nat} (h : Top a b n k) (hg : ¬ a k * b n < a n * b k) : Top a b (n + 1) k := by
  refine ⟨by have := h.1; omega, fun j hj => ?_, h.2.2⟩
  rcases Nat.lt_or_ge j n with hh | hh
  · exact h.2.1 j hh
  · rw [show j = n by omega]; omega
set_option maxRecDepth 100000 in
theorem Bot.more {a b : Nat → Nat} {n k : Nat} (h : Bot a b n k) (hb : ∀ j, j < n → 0 < b j) (hg : a n * b k < a k * b n) : Bot a b (n + 1) n := by
  have go : ∀ j, j < n → a n * b j < a j * b n := fun j hj => frac_lt_le (hb j hj) hg (h.2.1 j hj)
  refine ⟨by omega, fun j hj => ?_, go⟩
  rcases Nat.lt_or_ge j n with hh | hh
  · exact Nat.le_of_lt (go j hh)
  · rw [show j = n by omega]; exact Nat.le_refl _
set_option maxRecDepth 100000 in
theorem Bot.same {a b : Nat → Nat} {n k : Nat} (h : Bot a b n k) (hg : ¬ a n * b k < a k * b n) : Bot a b (n + 1) k := by
  refine ⟨by have := h.1; omega, fun j hj => ?_, h.2.2⟩
  rcases Nat.lt_or_ge j n with hh | hh
  · exact h.2.1 j hh
  · rw [show j = n by omega]; omega
set_option maxRecDepth 100000 in
theorem Top.unique {a b : Nat → Nat} {n k k' : Nat} (h : Top a b n k) (h' : Top a b n k') : k = k' := by
  rcases Nat.lt_trichotomy k k' with hl | he | hl
  · have e1 := h'.2.2 k hl
    have e2 := h.2.1 k' h'.1
    omega
  · exact he
  · have e1 := h.2.2 k' hl
    have e2 := h'.2.1 k h.1
    omega
set_option maxRecDepth 100000 in
theorem Bot.unique {a b : Nat → Nat} {n k k' : Nat} (h : Bot a b n k) (h' : Bot a b n k') : k = k' := by
  rcases Nat.lt_trichotomy k k' with hl | he | hl
  · have e1 := h'.2.2 k hl
    have e2 := h.2.1 k' h'.1
    omega
  · exact he
  · have e1 := h.2.2 k' hl
    have e2 := h'.2.1 k h.1
    omega

end Go.Proofs.Ytfgabmelmopgdaa
