/-
  The division of two digits by one, as the library reckons it: the plain mathematics. No statement is proved here.
-/
import Derived.Test.YtfgabmelmopgdaaWl
namespace Go.Proofs.Ytfgabmelmopgdaa

/-- the digit sought is what u * B + d holds of y = h * B + l; q is no less, and r is what is left of u -/
structure Est (u d h l q r : Nat) : Prop where
  sum : q * h + r = u
  most : (u * 4294967296 + d) / (h * 4294967296 + l) ≤ q
  le : q ≤ 4294967297

section
variable {u d h l q r : Nat}
set_option maxRecDepth 100000 in
theorem est_cmp (h1 : q * h + r = u) : q * (h * 4294967296 + l) ≤ u * 4294967296 + d ↔ q * l ≤ r * 4294967296 + d := by
  have e1 : q * (h * 4294967296 + l) = q * h * 4294967296 + q * l := by rw [Nat.mul_add, Nat.mul_assoc]
  have e2 : u * 4294967296 = q * h * 4294967296 + r * 4294967296 := by rw [← h1, Nat.add_mul]
  rw [e1, e2]
  omega
set_option maxRecDepth 100000 in
theorem est_init (hh : 2147483648 ≤ h) (hl : l < 4294967296) (hd : d < 4294967296) (hu : u < h * 4294967296 + l) : Est u d h l (u / h) (u % h) := by
  have h0 : 0 < h := by omega
  refine ⟨by rw [Nat.mul_comm]; exact Nat.div_add_mod u h, ?_, ?_⟩
  · rw [Nat.div_le_iff_le_mul_add_pred (by omega)]
    have h1 := Nat.div_add_mod u h
    have h2 := Nat.mod_lt u h0
    have h3 : (h * 4294967296 + l) * (u / h) = h * (u / h) * 4294967296 + l * (u / h) := by rw [Nat.add_mul, Nat.mul_right_comm]
    rw [h3]
    have h4 : u * 4294967296 = h * (u / h) * 4294967296 + u % h * 4294967296 := by rw [← Nat.add_mul, h1]
    rw [h4]
    have h5 : u % h * 4294967296 + 4294967296 ≤ h * 4294967296 := by
      have := Nat.mul_le_mul_right 4294967296 (show u % h + 1 ≤ h by omega)
      omega
    obtain ⟨A, hA⟩ : ∃ A, h * (u / h) * 4294967296 = A := ⟨_, rfl⟩
    obtain ⟨C, hC⟩ : ∃ C, l * (u / h) = C := ⟨_, rfl⟩
    rw [hA, hC]
    clear h1 h3 h4 hA hC
    omega
  · rw [Nat.div_le_iff_le_mul_add_pred h0]
    have : h * 4294967297 = h * 4294967296 + h := by omega
    omega
set_option maxRecDepth 100000 in
theorem est_down (hy : 0 < h * 4294967296 + l) (hl : l < 4294967296) (hd : d < 4294967296) (hu : u < h * 4294967296 + l) (H : Est u d h l q r) (hc : 4294967296 ≤ q ∨ r * 4294967296 + d < q * l) :
    1 ≤ q ∧ q - 1 ≤ 4294967296 ∧ Est u d h l (q - 1) (r + h) ∧ (4294967296 ≤ r + h → q - 1 = (u * 4294967296 + d) / (h * 4294967296 + l)) := by
  obtain ⟨h1, h2, h3⟩ := H
  have hT : (u * 4294967296 + d) / (h * 4294967296 + l) < q := by
    rcases hc with hc | hc
    · rw [Nat.div_lt_iff_lt_mul hy]
      have h4 : 4294967296 * (h * 4294967296 + l) ≤ q * (h * 4294967296 + l) := Nat.mul_le_mul_right _ hc
      have h5 : (u + 1) * 4294967296 ≤ (h * 4294967296 + l) * 4294967296 := Nat.mul_le_mul_right _ hu
      rw [Nat.mul_comm 4294967296] at h4
      rw [Nat.add_mul] at h5
      omega
    · rw [Nat.div_lt_iff_lt_mul hy]
      exact Nat.lt_of_not_le fun hle => absurd ((est_cmp h1).1 hle) (Nat.not_le_of_lt hc)
  have hq : 1 ≤ q := Nat.lt_of_le_of_lt (Nat.zero_le _) hT
  have hs : (q - 1) * h + (r + h) = u := by
    have : q * h = (q - 1) * h + h := by
      conv => lhs; rw [show q = q - 1 + 1 by omega, Nat.add_mul, Nat.one_mul]
    omega
  refine ⟨hq, by omega, ⟨hs, Nat.le_sub_one_of_lt hT, by omega⟩, fun hb => ?_⟩
  apply Nat.le_antisymm
  · rw [Nat.le_div_iff_mul_le hy, est_cmp hs]
    have h6 : (q - 1) * l ≤ 4294967296 * 4294967295 := Nat.mul_le_mul (by omega) (by omega)
    have h7 : 4294967296 * 4294967296 ≤ (r + h) * 4294967296 := Nat.mul_le_mul_right _ hb
    omega
  · exact Nat.le_sub_one_of_lt hT
set_option maxRecDepth 100000 in
theorem est_done (hy : 0 < h * 4294967296 + l) (H : Est u d h l q r) (hc : q * l ≤ r * 4294967296 + d) : q = (u * 4294967296 + d) / (h * 4294967296 + l) := by
  obtain ⟨h1, h2, _⟩ := H
  apply Nat.le_antisymm _ h2
  rw [Nat.le_div_iff_mul_le hy, est_cmp h1]
  exact hc
set_option maxRecDepth 100000 in
theorem digit_lt (hy : 0 < h * 4294967296 + l) (hd : d < 4294967296) (hu : u < h * 4294967296 + l) : (u * 4294967296 + d) / (h * 4294967296 + l) < 4294967296 := by
  rw [Nat.div_lt_iff_lt_mul hy]
  have h5 : (u + 1) * 4294967296 ≤ (h * 4294967296 + l) * 4294967296 := Nat.mul_le_mul_right _ hu
  rw [Nat.add_mul, Nat.mul_comm _ 4294967296] at h5
  omega
end

set_option maxRecDepth 100000 in
/-- two digits, one behind the other -/
theorem two_digits {u d1 d0 y : Nat} (hy : 0 < y) : (u * 18446744073709551616 + (d1 * 4294967296 + d0)) / y = (u * 4294967296 + d1) / y * 4294967296 + ((u * 4294967296 + d1) % y * 4294967296 + d0) / y ∧
    (u * 18446744073709551616 + (d1 * 4294967296 + d0)) % y = ((u * 4294967296 + d1) % y * 4294967296 + d0) % y := by
  have e : u * 18446744073709551616 + (d1 * 4294967296 + d0) = y * ((u * 4294967296 + d1) / y * 4294967296) + ((u * 4294967296 + d1) % y * 4294967296 + d0) := by
    have h := Nat.div_add_mod (u * 4294967296 + d1) y
    generalize (u * 4294967296 + d1) / y = a at *
    generalize (u * 4294967296 + d1) % y = b at *
    have h2 : y * (a * 4294967296) = y * a * 4294967296 := (Nat.mul_assoc _ _ _).symm
    rw [h2]
    omega
  rw [e]
  exact ⟨Nat.mul_add_div hy _ _, Nat.mul_add_mod _ _ _⟩
set_option maxRecDepth 100000 in
/-- shifted up by s and divided, the quotient stays, the rest is shifted -/
theorem scaled_div {N y p : Nat} (hp : 0 < p) : N * p / (y * p) = N / y ∧ N * p % (y * p) / p = N % y := by
  refine ⟨Nat.mul_div_mul_right _ _ hp, ?_⟩
  rw [Nat.mul_mod_mul_right, Nat.mul_div_cancel _ hp]

set_option maxRecDepth 100000 in
/-- the two words of a number that is shifted up -/
theorem shifted {hi lo s : Nat} (hs : s ≤ 63) (hlo : lo < 18446744073709551616) :
    (hi * 18446744073709551616 + lo) * 2 ^ s = (hi * 2 ^ s + lo / 2 ^ (64 - s)) * 18446744073709551616 + lo * 2 ^ s % 18446744073709551616 ∧ lo / 2 ^ (64 - s) < 2 ^ s := by
  have hp : 2 ^ (64 - s) * 2 ^ s = 18446744073709551616 := by rw [← Nat.pow_add, show 64 - s + s = 64 by omega]
  have hk := Nat.two_pow_pos s
  have e : lo * 2 ^ s / 18446744073709551616 = lo / 2 ^ (64 - s) := by rw [← hp, Nat.mul_div_mul_right _ _ hk]
  have h := Nat.div_add_mod (lo * 2 ^ s) 18446744073709551616
  rw [e] at h
  refine ⟨?_, ?_⟩
  · rw [Nat.add_mul, Nat.mul_right_comm]
    generalize lo * 2 ^ s = A at *
    generalize hi * 2 ^ s = C at *
    omega
  · rw [Nat.div_lt_iff_lt_mul (Nat.two_pow_pos _), Nat.mul_comm, hp]
    exact hlo
set_option maxRecDepth 100000 in
theorem shifted_or {hi b s : Nat} (hb : b < 2 ^ s) : hi * 2 ^ s ||| b = hi * 2 ^ s + b := by
  rw [Nat.mul_comm]
  exact (Nat.two_pow_add_eq_or_of_lt hb hi).symm
set_option maxRecDepth 100000 in
theorem shifted_lt {hi lo y s u L Y : Nat} (hhi : hi < y) (hlo : lo < 18446744073709551616) (hY : y * 2 ^ s = Y) (h : (hi * 18446744073709551616 + lo) * 2 ^ s = u * 18446744073709551616 + L) : u < Y := by
  have hk := Nat.two_pow_pos s
  have h1 : (hi * 18446744073709551616 + lo) * 2 ^ s < y * 18446744073709551616 * 2 ^ s := Nat.mul_lt_mul_of_pos_right (by
    have := Nat.mul_le_mul_right 18446744073709551616 (show hi + 1 ≤ y from hhi)
    omega) hk
  rw [h, Nat.mul_right_comm, hY] at h1
  omega
set_option maxRecDepth 100000 in
theorem shifted_div {hi lo y s u L Y : Nat} (hY : y * 2 ^ s = Y) (h : (hi * 18446744073709551616 + lo) * 2 ^ s = u * 18446744073709551616 + L) :
    (u * 18446744073709551616 + L) / Y = (hi * 18446744073709551616 + lo) / y ∧ (u * 18446744073709551616 + L) % Y / 2 ^ s = (hi * 18446744073709551616 + lo) % y := by
  rw [← h, ← hY]
  exact scaled_div (Nat.two_pow_pos s)

end Go.Proofs.Ytfgabmelmopgdaa
