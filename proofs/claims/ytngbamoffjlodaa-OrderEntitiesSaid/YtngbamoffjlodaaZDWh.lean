/-
  Several texts as one.
-/
import Derived.Test.YtngbamoffjlodaaZDWe
import Derived.Lib.Strings
import Derived.Lib.Slices
import Derived.Lib.Small
import Derived.Lib.Walk
import Derived.Lib.BitFns
import Derived.Deep.DeepCutAuto
import Derived.Deep.CutBlock
import Derived.Outline
import Derived.Laws.ShiftsVar
/-
  The contracts of the library's bit lengths. No statement is proved here.
-/
namespace Go.Proofs.Ytngbamoffjlodaa.Dw
open Go.RowKit

/-- n bits are just enough for x -/
def Fits (x n : Nat) : Prop := x < 2 ^ n ∧ (0 < x → 2 ^ n ≤ 2 * x)
set_option maxRecDepth 100000 in
theorem fits8 : ∀ b : Fin 256, Fits b.val (Lib.bitLen b.val) := by unfold Fits; decide +kernel
set_option maxRecDepth 100000 in
theorem fits_byte {b : Nat} (h : b < 256) : Fits b (Lib.bitLen b) := fits8 ⟨b, h⟩
set_option maxRecDepth 100000 in
theorem Fits.shift {x m : Nat} (k : Nat) (h : Fits (x / 2 ^ k) m) (h0 : 0 < x / 2 ^ k) : Fits x (k + m) := by
  obtain ⟨h1, h2⟩ := h
  have h3 := h2 h0
  have hk := Nat.two_pow_pos k
  have hd := Nat.div_add_mod x (2 ^ k)
  have hm := Nat.mod_lt x hk
  refine ⟨?_, fun _ => ?_⟩
  · rw [Nat.pow_add]
    calc x < 2 ^ k * (x / 2 ^ k) + 2 ^ k := by omega
      _ = 2 ^ k * (x / 2 ^ k + 1) := by rw [Nat.mul_add, Nat.mul_one]
      _ ≤ 2 ^ k * 2 ^ m := Nat.mul_le_mul_left _ h1
  · rw [Nat.pow_add]
    calc 2 ^ k * 2 ^ m ≤ 2 ^ k * (2 * (x / 2 ^ k)) := Nat.mul_le_mul_left _ h3
      _ = 2 * (2 ^ k * (x / 2 ^ k)) := Nat.mul_left_comm _ _ _
      _ ≤ 2 * x := by omega
def LenSaid (x : Nat) (w : World) (e : Ending) (w' : World) : Prop := ∃ n : Nat, n ≤ 64 ∧ Fits x n ∧ e = .returned (.int .i64 (n : Int)) ∧ w = w'
set_option maxRecDepth 100000 in
theorem tab_size : Lib.len8tab.size = 256 := by decide +kernel
set_option maxRecDepth 100000 in
theorem tab_len {n : Nat} (h : n < Lib.len8tab.size) : (Lib.len8tab[n]'h).toNat = Lib.bitLen n := by
  have h2 : n < 256 := by rw [← tab_size]; exact h
  have := Lib.len8_of (n : Int) (by omega) (by omega)
  rw [Int.toNat_natCast] at this
  unfold Lib.len8 at this
  rw [Int.toNat_natCast, getElem?_pos Lib.len8tab n h] at this
  have h3 : ((Lib.len8tab[n]'h).toNat : Int) = (Lib.bitLen n : Int) := by simpa using this
  omega
set_option maxRecDepth 100000 in
theorem len_case {x y : Int} (k : Nat) (hk : k ≤ 56) (hy : y.toNat = x.toNat / 2 ^ k) (hb : y < 256) (hp : 0 < y) (h : y.toNat < Lib.len8tab.size) {w w' : World} {e : Ending}
    (he : e = .returned (.int .i64 (wrap64 (k + wrap64 ((Lib.len8tab[y.toNat]'h).toNat : Int))))) (hw : w = w') : LenSaid x.toNat w e w' := by
  have hl : Lib.bitLen y.toNat ≤ 8 := Lib.bitLen_le8' y (by omega) (by omega)
  have hf := (fits_byte (b := y.toNat) (by omega))
  rw [hy] at hf
  refine ⟨k + Lib.bitLen y.toNat, by omega, ?_, ?_, hw⟩
  · rw [hy]; exact hf.shift k (by rw [← hy]; omega)
  · rw [he, tab_len h]
    congr 2
    unfold wrap64
    omega
set_option maxRecDepth 100000 in
theorem len_case0 {x : Int} (hb : x < 256) (hp : 0 < x) (h : x.toNat < Lib.len8tab.size) {w w' : World} {e : Ending}
    (he : e = .returned (.int .i64 (wrap64 (wrap64 ((Lib.len8tab[x.toNat]'h).toNat : Int))))) (hw : w = w') : LenSaid x.toNat w e w' := by
  have hl : Lib.bitLen x.toNat ≤ 8 := Lib.bitLen_le8' x (by omega) (by omega)
  refine ⟨Lib.bitLen x.toNat, by omega, fits_byte (by omega), ?_, hw⟩
  rw [he, tab_len h]
  congr 2
  unfold wrap64
  omega

set_option maxHeartbeats 4000000 in
set_option maxRecDepth 100000 in
theorem len64_int (x : Int) (h0 : 0 ≤ x) (h1 : x ≤ 18446744073709551615) (hp : 0 < x.toNat) (w : World) : Calls Try.prog 90 #[.int .u64 x] w (LenSaid x.toNat w) := by
  have HP := Lib.hid hp
  have hsz := tab_size
  clear hp
  go_enter Try.func90, Try.ntmps90
  go_wp2
  all_goals
    go_ret
    first
      | exact len_case 56 (by omega) (y := x / 4294967296 / 65536 / 256) (by omega) (by omega) (by omega) _ rfl rfl
      | exact len_case 48 (by omega) (y := x / 4294967296 / 65536) (by omega) (by omega) (by omega) _ rfl rfl
      | exact len_case 40 (by omega) (y := x / 4294967296 / 256) (by omega) (by omega) (by omega) _ rfl rfl
      | exact len_case 32 (by omega) (y := x / 4294967296) (by omega) (by omega) (by omega) _ rfl rfl
      | exact len_case 24 (by omega) (y := x / 65536 / 256) (by omega) (by omega) (by omega) _ rfl rfl
      | exact len_case 16 (by omega) (y := x / 65536) (by omega) (by omega) (by omega) _ rfl rfl
      | exact len_case 8 (by omega) (y := x / 256) (by omega) (by omega) (by omega) _ rfl rfl
      | exact len_case0 (by omega) (by have := HP.out; omega) _ rfl rfl

def LeadSaid (y : Nat) (w : World) (e : Ending) (w' : World) : Prop := ∃ s : Nat, s ≤ 63 ∧ 9223372036854775808 ≤ y * 2 ^ s ∧ y * 2 ^ s < 18446744073709551616 ∧ e = .returned (.int .i64 (s : Int)) ∧ w = w'
set_option maxRecDepth 100000 in
theorem lead_of {y n : Nat} (hn : n ≤ 64) (h0 : 0 < y) (h : Fits y n) : 64 - n ≤ 63 ∧ 9223372036854775808 ≤ y * 2 ^ (64 - n) ∧ y * 2 ^ (64 - n) < 18446744073709551616 := by
  obtain ⟨h1, h2⟩ := h
  have h3 := h2 h0
  have hp : 2 ^ n * 2 ^ (64 - n) = 18446744073709551616 := by rw [← Nat.pow_add, show n + (64 - n) = 64 by omega]
  have hk := Nat.two_pow_pos (64 - n)
  have hn1 : 1 ≤ n := by
    rcases Nat.eq_zero_or_pos n with h | h
    · subst h; simp at h1; omega
    · exact h
  refine ⟨by omega, ?_, ?_⟩
  · have := Nat.mul_le_mul_right (2 ^ (64 - n)) h3
    rw [hp, Nat.mul_assoc] at this
    omega
  · have := Nat.mul_lt_mul_of_pos_right h1 hk
    rw [hp] at this
    exact this
set_option maxRecDepth 100000 in
theorem lead_any (y : Nat) (hy : y < 18446744073709551616) (h0 : 0 < y) (w : World) : Calls Try.prog 116 #[.int .u64 (y : Int)] w (LeadSaid y w) := by
  have HL := Lib.hid (fun u => len64_int (y : Int) (by omega) (by omega) (by omega) u)
  rw [Int.toNat_natCast] at HL
  have H0 := Lib.hid h0
  clear hy h0
  go_enter Try.func116, Try.ntmps116
  go_wp2_with fail
  refine (HL.out _).mono ?_
  rintro e w' ⟨n, hn, hf, rfl, rfl⟩
  have HF := Lib.hid (lead_of hn H0.out hf)
  have hs : IntKind.i64.wrap (64 - (n : Int)) = ((64 - n : Nat) : Int) := by rw [IntKind.wrap_i64]; omega
  clear hf
  go_wp2
  go_ret
  exact ⟨64 - n, HF.out.1, HF.out.2.1, HF.out.2.2, by simp, rfl⟩

end Go.Proofs.Ytngbamoffjlodaa.Dw
/-
  The division of two digits by one, as the library reckons it: the plain mathematics. No statement is proved here.
-/
namespace Go.Proofs.Ytngbamoffjlodaa.Dw

/-- the digit sought is what u * B + d holds of y = h * B + l; q is no less, and r is what is left of u -/
structure Est (u d h l q r : Nat) : Prop where
  sum : q * h + r = u
  most : (u * 4294967296 + d) / (h * 4294967296 + l) ≤ q
  le : q ≤ 4294967297

section
variable {u d h l q r : Nat}
set_option maxRecDepth 100000 in
theorem est_cmp (h1 : q * h + r = u) : q * (h * 4294967296 + l) ≤ u * 4294967296 + d ↔ q * l ≤ r * 4294967296 + d := by
  have e1 : q * (h * 4294967296 + l) = q * h * 4294967296 + q * l := by rw [Nat.mul_add, Nat.mul_assoc]
  have e2 : u * 4294967296 = q * h * 4294967296 + r * 4294967296 := by rw [← h1, Nat.add_mul]
  rw [e1, e2]
  omega
set_option maxRecDepth 100000 in
theorem est_init (hh : 2147483648 ≤ h) (hl : l < 4294967296) (hd : d < 4294967296) (hu : u < h * 4294967296 + l) : Est u d h l (u / h) (u % h) := by
  have h0 : 0 < h := by omega
  refine ⟨by rw [Nat.mul_comm]; exact Nat.div_add_mod u h, ?_, ?_⟩
  · rw [Nat.div_le_iff_le_mul_add_pred (by omega)]
    have h1 := Nat.div_add_mod u h
    have h2 := Nat.mod_lt u h0
    have h3 : (h * 4294967296 + l) * (u / h) = h * (u / h) * 4294967296 + l * (u / h) := by rw [Nat.add_mul, Nat.mul_right_comm]
    rw [h3]
    have h4 : u * 4294967296 = h * (u / h) * 4294967296 + u % h * 4294967296 := by rw [← Nat.add_mul, h1]
    rw [h4]
    have h5 : u % h * 4294967296 + 4294967296 ≤ h * 4294967296 := by
      have := Nat.mul_le_mul_right 4294967296 (show u % h + 1 ≤ h by omega)
      omega
    obtain ⟨A, hA⟩ : ∃ A, h * (u / h) * 4294967296 = A := ⟨_, rfl⟩
    obtain ⟨C, hC⟩ : ∃ C, l * (u / h) = C := ⟨_, rfl⟩
    rw [hA, hC]
    clear h1 h3 h4 hA hC
    omega
  · rw [Nat.div_le_iff_le_mul_add_pred h0]
    have : h * 4294967297 = h * 4294967296 + h := by omega
    omega
set_option maxRecDepth 100000 in
theorem est_down (hy : 0 < h * 4294967296 + l) (hl : l < 4294967296) (hd : d < 4294967296) (hu : u < h * 4294967296 + l) (H : Est u d h l q r) (hc : 4294967296 ≤ q ∨ r * 4294967296 + d < q * l) :
    1 ≤ q ∧ q - 1 ≤ 4294967296 ∧ Est u d h l (q - 1) (r + h) ∧ (4294967296 ≤ r + h → q - 1 = (u * 4294967296 + d) / (h * 4294967296 + l)) := by
  obtain ⟨h1, h2, h3⟩ := H
  have hT : (u * 4294967296 + d) / (h * 4294967296 + l) < q := by
    rcases hc with hc | hc
    · rw [Nat.div_lt_iff_lt_mul hy]
      have h4 : 4294967296 * (h * 4294967296 + l) ≤ q * (h * 4294967296 + l) := Nat.mul_le_mul_right _ hc
      have h5 : (u + 1) * 4294967296 ≤ (h * 4294967296 + l) * 4294967296 := Nat.mul_le_mul_right _ hu
      rw [Nat.mul_comm 4294967296] at h4
      rw [Nat.add_mul] at h5
      omega
    · rw [Nat.div_lt_iff_lt_mul hy]
      exact Nat.lt_of_not_le fun hle => absurd ((est_cmp h1).1 hle) (Nat.not_le_of_lt hc)
  have hq : 1 ≤ q := Nat.lt_of_le_of_lt (Nat.zero_le _) hT
  have hs : (q - 1) * h + (r + h) = u := by
    have : q * h = (q - 1) * h + h := by
      conv => lhs; rw [show q = q - 1 + 1 by omega, Nat.add_mul, Nat.one_mul]
    omega
  refine ⟨hq, by omega, ⟨hs, Nat.le_sub_one_of_lt hT, by omega⟩, fun hb => ?_⟩
  apply Nat.le_antisymm
  · rw [Nat.le_div_iff_mul_le hy, est_cmp hs]
    have h6 : (q - 1) * l ≤ 4294967296 * 4294967295 := Nat.mul_le_mul (by omega) (by omega)
    have h7 : 4294967296 * 4294967296 ≤ (r + h) * 4294967296 := Nat.mul_le_mul_right _ hb
    omega
  · exact Nat.le_sub_one_of_lt hT
set_option maxRecDepth 100000 in
theorem est_done (hy : 0 < h * 4294967296 + l) (H : Est u d h l q r) (hc : q * l ≤ r * 4294967296 + d) : q = (u * 4294967296 + d) / (h * 4294967296 + l) := by
  obtain ⟨h1, h2, _⟩ := H
  apply Nat.le_antisymm _ h2
  rw [Nat.le_div_iff_mul_le hy, est_cmp h1]
  exact hc
set_option maxRecDepth 100000 in
theorem digit_lt (hy : 0 < h * 4294967296 + l) (hd : d < 4294967296) (hu : u < h * 4294967296 + l) : (u * 4294967296 + d) / (h * 4294967296 + l) < 4294967296 := by
  rw [Nat.div_lt_iff_lt_mul hy]
  have h5 : (u + 1) * 4294967296 ≤ (h * 4294967296 + l) * 4294967296 := Nat.mul_le_mul_right _ hu
  rw [Nat.add_mul, Nat.mul_comm _ 4294967296] at h5
  omega
end

set_option maxRecDepth 100000 in
/-- two digits, one behind the other -/
theorem two_digits {u d1 d0 y : Nat} (hy : 0 < y) : (u * 18446744073709551616 + (d1 * 4294967296 + d0)) / y = (u * 4294967296 + d1) / y * 4294967296 + ((u * 4294967296 + d1) % y * 4294967296 + d0) / y ∧
    (u * 18446744073709551616 + (d1 * 4294967296 + d0)) % y = ((u * 4294967296 + d1) % y * 4294967296 + d0) % y := by
  have e : u * 18446744073709551616 + (d1 * 4294967296 + d0) = y * ((u * 4294967296 + d1) / y * 4294967296) + ((u * 4294967296 + d1) % y * 4294967296 + d0) := by
    have h := Nat.div_add_mod (u * 4294967296 + d1) y
    generalize (u * 4294967296 + d1) / y = a at *
    generalize (u * 4294967296 + d1) % y = b at *
    have h2 : y * (a * 4294967296) = y * a * 4294967296 := (Nat.mul_assoc _ _ _).symm
    rw [h2]
    omega
  rw [e]
  exact ⟨Nat.mul_add_div hy _ _, Nat.mul_add_mod _ _ _⟩
set_option maxRecDepth 100000 in
/-- shifted up by s and divided, the quotient stays, the rest is shifted -/
theorem scaled_div {N y p : Nat} (hp : 0 < p) : N * p / (y * p) = N / y ∧ N * p % (y * p) / p = N % y := by
  refine ⟨Nat.mul_div_mul_right _ _ hp, ?_⟩
  rw [Nat.mul_mod_mul_right, Nat.mul_div_cancel _ hp]

set_option maxRecDepth 100000 in
/-- the two words of a number that is shifted up -/
theorem shifted {hi lo s : Nat} (hs : s ≤ 63) (hlo : lo < 18446744073709551616) :
    (hi * 18446744073709551616 + lo) * 2 ^ s = (hi * 2 ^ s + lo / 2 ^ (64 - s)) * 18446744073709551616 + lo * 2 ^ s % 18446744073709551616 ∧ lo / 2 ^ (64 - s) < 2 ^ s := by
  have hp : 2 ^ (64 - s) * 2 ^ s = 18446744073709551616 := by rw [← Nat.pow_add, show 64 - s + s = 64 by omega]
  have hk := Nat.two_pow_pos s
  have e : lo * 2 ^ s / 18446744073709551616 = lo / 2 ^ (64 - s) := by rw [← hp, Nat.mul_div_mul_right _ _ hk]
  have h := Nat.div_add_mod (lo * 2 ^ s) 18446744073709551616
  rw [e] at h
  refine ⟨?_, ?_⟩
  · rw [Nat.add_mul, Nat.mul_right_comm]
    generalize lo * 2 ^ s = A at *
    generalize hi * 2 ^ s = C at *
    omega
  · rw [Nat.div_lt_iff_lt_mul (Nat.two_pow_pos _), Nat.mul_comm, hp]
    exact hlo
set_option maxRecDepth 100000 in
theorem shifted_or {hi b s : Nat} (hb : b < 2 ^ s) : hi * 2 ^ s ||| b = hi * 2 ^ s + b := by
  rw [Nat.mul_comm]
  exact (Nat.two_pow_add_eq_or_of_lt hb hi).symm
set_option maxRecDepth 100000 in
theorem shifted_lt {hi lo y s u L Y : Nat} (hhi : hi < y) (hlo : lo < 18446744073709551616) (hY : y * 2 ^ s = Y) (h : (hi * 18446744073709551616 + lo) * 2 ^ s = u * 18446744073709551616 + L) : u < Y := by
  have hk := Nat.two_pow_pos s
  have h1 : (hi * 18446744073709551616 + lo) * 2 ^ s < y * 18446744073709551616 * 2 ^ s := Nat.mul_lt_mul_of_pos_right (by
    have := Nat.mul_le_mul_right 18446744073709551616 (show hi + 1 ≤ y from hhi)
    omega) hk
  rw [h, Nat.mul_right_comm, hY] at h1
  omega
set_option maxRecDepth 100000 in
theorem shifted_div {hi lo y s u L Y : Nat} (hY : y * 2 ^ s = Y) (h : (hi * 18446744073709551616 + lo) * 2 ^ s = u * 18446744073709551616 + L) :
    (u * 18446744073709551616 + L) / Y = (hi * 18446744073709551616 + lo) / y ∧ (u * 18446744073709551616 + L) % Y / 2 ^ s = (hi * 18446744073709551616 + lo) % y := by
  rw [← h, ← hY]
  exact scaled_div (Nat.two_pow_pos s)

end Go.Proofs.Ytngbamoffjlodaa.Dw
/-
  The contract of the library's division of two words by one. No statement is proved here.
-/
namespace Go.Proofs.Ytngbamoffjlodaa.Dw
open Go.RowKit

set_option maxHeartbeats 2000000 in
set_option maxRecDepth 100000 in
theorem div64_zero (lo y q r : Nat) (hlo : lo < 18446744073709551616) (hy0 : 0 < y) (hy : y < 18446744073709551616) (hq : lo / y = q) (hr : lo % y = r) (w : World) :
    Calls Try.prog 102 #[.int .u64 0, .int .u64 (lo : Int), .int .u64 (y : Int)] w (Ans (.tuple #[.int .u64 (q : Int), .int .u64 (r : Int)]) w) := by
  have e0 : ((y : Int) == 0) = false := by simp; omega
  have e1 : ¬ y = 0 := by omega
  have e2 : (lo : Int).tdiv (y : Int) = (q : Int) := by rw [← hq]; rfl
  have e3 : (lo : Int).tmod (y : Int) = (r : Int) := by rw [← hr]; rfl
  have e4 : IntKind.u64.wrap (q : Int) = (q : Int) := by rw [IntKind.wrap_u64]; have : lo / y ≤ lo := Nat.div_le_self _ _; omega
  have H := Lib.hid (And.intro hlo hy0)
  clear hq hr hlo hy0 hy
  go_enter Try.func102, Try.ntmps102
  go_wp2
  go_quiet (fail)
  go_wp2
  go_ret2
  exact ⟨rfl, below_drewN (Below.refl _ _) _⟩

set_option maxHeartbeats 4000000 in
set_option maxRecDepth 100000 in
theorem div64_big (hi lo y q r : Nat) (hlo : lo < 18446744073709551616) (hy0 : 0 < y) (hy : y < 18446744073709551616) (h0 : 0 < hi) (hhi : hi < y)
    (hq : (hi * 18446744073709551616 + lo) / y = q) (hr : (hi * 18446744073709551616 + lo) % y = r) (w : World) :
    Calls Try.prog 102 #[.int .u64 (hi : Int), .int .u64 (lo : Int), .int .u64 (y : Int)] w (Ans (.tuple #[.int .u64 (q : Int), .int .u64 (r : Int)]) w) := by
  have HL := Lib.hid (fun u => lead_any y hy hy0 u)
  have HQR := Lib.hid (And.intro hq hr)
  have e0 : ((y : Int) == 0) = false := by simp; omega
  have e1 : decide (y ≤ hi) = false := by simp; omega
  have e2 : ((hi : Int) == 0) = false := by simp; omega
  clear hy hy0 h0 hq hr
  go_enter Try.func102, Try.ntmps102
  go_wp2_with fail
  refine (HL.out _).mono ?_
  rintro e w' ⟨s, hs, hl1, hl2, rfl, rfl⟩
  have hs' : (s : Int) ≤ 63 := by omega
  obtain ⟨Y, hYe⟩ : ∃ Y, y * 2 ^ s = Y := ⟨_, rfl⟩
  rw [hYe] at hl1 hl2
  have hY : IntKind.u64.wrap ((y : Int) * 2 ^ s) = (Y : Int) := by
    rw [show (y : Int) * 2 ^ s = ((y * 2 ^ s : Nat) : Int) by simp, hYe, IntKind.wrap_u64]
    omega
  have HY := Lib.hid hYe
  clear hYe
  have hYh : (Y : Int) / 4294967296 = ((Y / 4294967296 : Nat) : Int) := by omega
  have hYl := lowN Y hl2
  obtain ⟨h, hh⟩ : ∃ h, Y / 4294967296 = h := ⟨_, rfl⟩
  obtain ⟨l, hl⟩ : ∃ l, Y % 4294967296 = l := ⟨_, rfl⟩
  rw [hh] at hYh
  rw [hl] at hYl
  have hh0 : 2147483648 ≤ h := by omega
  have hh1 : h < 4294967296 := by omega
  have hl0 : l < 4294967296 := by omega
  have hYhl : Y = h * 4294967296 + l := by omega
  -- the number, shifted
  obtain ⟨hsh, hbl⟩ := shifted (hi := hi) hs hlo
  obtain ⟨b, hb⟩ : ∃ b, lo / 2 ^ (64 - s) = b := ⟨_, rfl⟩
  obtain ⟨L, hL⟩ : ∃ L, lo * 2 ^ s % 18446744073709551616 = L := ⟨_, rfl⟩
  obtain ⟨A, hA⟩ : ∃ A, hi * 2 ^ s = A := ⟨_, rfl⟩
  have hor := shifted_or (hi := hi) hbl
  rw [hb, hA] at hor
  rw [hb, hL, hA] at hsh
  obtain ⟨u, hu⟩ : ∃ u, A + b = u := ⟨_, rfl⟩
  rw [hu] at hor hsh
  have huY := shifted_lt hhi hlo HY.out hsh
  have hdiv := shifted_div HY.out hsh
  rw [HQR.out.1, HQR.out.2] at hdiv
  have hwA : IntKind.u64.wrap ((hi : Int) * 2 ^ s) = (A : Int) := by
    rw [show (hi : Int) * 2 ^ s = ((hi * 2 ^ s : Nat) : Int) by simp, hA, IntKind.wrap_u64]
    omega
  have hwb : (lo : Int) / 2 ^ (64 - s) = (b : Int) := by rw [← hb]; simp
  have hwo : bits .or .u64 (A : Int) (b : Int) = (u : Int) := by rw [bits_or_u64_nat A b (by omega) (by omega), hor]
  have hwL : IntKind.u64.wrap ((lo : Int) * 2 ^ s) = (L : Int) := by
    rw [show (lo : Int) * 2 ^ s = ((lo * 2 ^ s : Nat) : Int) by simp, IntKind.wrap_u64, ← hL]
    simp
  have hL64 : L < 18446744073709551616 := by rw [← hL]; exact Nat.mod_lt _ (by decide)
  obtain ⟨d1, hd1⟩ : ∃ d, L / 4294967296 = d := ⟨_, rfl⟩
  obtain ⟨d0, hd0⟩ : ∃ d, L % 4294967296 = d := ⟨_, rfl⟩
  have hwd1 : (L : Int) / 4294967296 = (d1 : Int) := by omega
  have hwd0 := lowN L hL64
  rw [hd0] at hwd0
  have hd1b : d1 < 4294967296 := by omega
  have hd0b : d0 < 4294967296 := by omega
  have hLd : L = d1 * 4294967296 + d0 := by omega
  -- the first digit's guess
  have hEi := est_init hh0 hl0 hd1b (by rw [← hYhl]; exact huY)
  obtain ⟨qi, hqi⟩ : ∃ q, u / h = q := ⟨_, rfl⟩
  obtain ⟨ri, hri⟩ : ∃ r, u % h = r := ⟨_, rfl⟩
  rw [hqi, hri] at hEi
  have hwq : (u : Int).tdiv (h : Int) = (qi : Int) := by rw [← hqi]; rfl
  have hwq2 : IntKind.u64.wrap (qi : Int) = (qi : Int) := by rw [IntKind.wrap_u64]; have := hEi.le; omega
  have hrib : ri < 4294967296 := by have := Nat.mod_lt u (show 0 < h by omega); omega
  have hqh : (qi : Int) * (h : Int) = ((qi * h : Nat) : Int) := by simp
  have hwqh : IntKind.u64.wrap ((qi : Int) * (h : Int)) = (qi : Int) * (h : Int) := by
    rw [hqh, IntKind.wrap_u64]
    have := hEi.sum
    omega
  have hwri : IntKind.u64.wrap ((u : Int) - (qi : Int) * (h : Int)) = (ri : Int) := by
    rw [hqh, IntKind.wrap_u64]
    have := hEi.sum
    omega
  have hne : ¬ h = 0 := by omega
  have HF := Lib.hid (And.intro (And.intro hh0 hh1) (And.intro hl0 (And.intro (show 0 < h * 4294967296 + l by omega) hYhl)))
  have HDd1 := Lib.hid hd1b
  have HDd0 := Lib.hid hd0b
  have HUu := Lib.hid (show u < h * 4294967296 + l by rw [← hYhl]; exact huY)
  have HI := Lib.hid (And.intro hEi hrib)
  have HDIV := Lib.hid hdiv
  have HLd := Lib.hid hLd
  have HYL := Lib.hid hl2
  clear hqh hh hl hb hL hA hor hu hsh hbl hd1 hd0 hqi hri hhi huY hdiv hlo hl1 hl2 hh0 hh1 hl0 hYhl hL64 hd1b hd0b hLd hEi hrib
  obtain ⟨T1, hT1⟩ : ∃ T, (u * 4294967296 + d1) / (h * 4294967296 + l) = T := ⟨_, rfl⟩
  have HT1 := Lib.hid hT1
  clear hT1
  go_upto_block 0 with fail
  go_cut [15] (fun s15 wx => s15 = .int .u64 (T1 : Int) ∧ w = wx)
  case first =>
    go_wp2
    go_loop [15, 16] (fun a b => ∃ q r : Nat, a = .int .u64 (q : Int) ∧ b = .int .u64 (r : Int) ∧ Est u d1 h l q r ∧ r < 4294967296) (fun a _ => (intOf a).toNat)
    case atStart => exact ⟨qi, ri, rfl, rfl, HI.out.1, HI.out.2⟩
    case round =>
      obtain ⟨q, r, rfl, rfl, hE, hrB⟩ := hrel
      by_cases hc : 4294967296 ≤ q ∨ r * 4294967296 + d1 < q * l
      · obtain ⟨hq1, hqb, hE', hT⟩ := est_down HF.out.2.2.1 HF.out.2.1 HDd1.out HUu.out hE hc
        obtain ⟨q', hq'⟩ : ∃ q', q - 1 = q' := ⟨_, rfl⟩
        obtain ⟨r', hr'⟩ : ∃ r', r + h = r' := ⟨_, rfl⟩
        have hql := hE.le
        have hw1 : IntKind.u64.wrap ((q : Int) - 1) = (q' : Int) := by rw [IntKind.wrap_u64]; omega
        have hw2 : IntKind.u64.wrap ((r : Int) + (h : Int)) = (r' : Int) := by rw [IntKind.wrap_u64]; have := HF.out.1.2; omega
        rw [hq', hr'] at hE' hT
        rw [hq'] at hqb
        have HE := Lib.hid hE'
        have HTT := Lib.hid hT
        have HQ := Lib.hid (And.intro hq1 hq')
        have HRR := Lib.hid (show r' < 4294967296 ∨ 4294967296 ≤ r' by omega)
        clear hE hE' hT hq' hr' hql hqb hq1
        by_cases hqB : 4294967296 ≤ q
        · have hqI : (4294967296 : Int) ≤ (q : Int) := by omega
          clear hc
          by_cases hrr : 4294967296 ≤ r'
          · have hrI : (4294967296 : Int) ≤ (r' : Int) := by omega
            have HX := Lib.hid (HTT.out hrr)
            clear hqB hrr
            go_wp2
            go_meet
            exact ⟨by rw [HX.out, HT1.out], rfl⟩
          · have hrI : decide ((4294967296 : Int) ≤ (r' : Int)) = false := decide_eq_false (by omega)
            have HX := Lib.hid hrr
            clear hqB hrr
            go_wp2
            go_round
            case rel => exact ⟨q', r', rfl, rfl, HE.out, by have := HX.out; omega⟩
            case measure => have := HQ.out; simp [intOf]; omega
        · have hqI : decide ((4294967296 : Int) ≤ (q : Int)) = false := decide_eq_false (by omega)
          have hcc : r * 4294967296 + d1 < q * l := by omega
          obtain ⟨A, hA⟩ : ∃ A, q * l = A := ⟨_, rfl⟩
          obtain ⟨C, hC⟩ : ∃ C, r * 4294967296 + d1 = C := ⟨_, rfl⟩
          have hw3 : IntKind.u64.wrap ((q : Int) * (l : Int)) = (A : Int) := by
            have h5 : q * l ≤ 4294967295 * 4294967295 := Nat.mul_le_mul (by omega) (by have := HF.out.2.1; omega)
            rw [show (q : Int) * (l : Int) = ((q * l : Nat) : Int) by simp, hA, IntKind.wrap_u64]
            omega
          have hw4 : IntKind.u64.wrap (4294967296 * (r : Int)) = 4294967296 * (r : Int) := by rw [IntKind.wrap_u64]; omega
          have hw5 : IntKind.u64.wrap (4294967296 * (r : Int) + (d1 : Int)) = (C : Int) := by rw [IntKind.wrap_u64]; have := HDd1.out; omega
          have hw6 : decide (C < A) = true := by simp; omega
          clear hA hC hc hcc hqB hrB
          by_cases hrr : 4294967296 ≤ r'
          · have hrI : (4294967296 : Int) ≤ (r' : Int) := by omega
            have HX := Lib.hid (HTT.out hrr)
            clear hrr
            go_wp2
            go_meet
            exact ⟨by rw [HX.out, HT1.out], rfl⟩
          · have hrI : decide ((4294967296 : Int) ≤ (r' : Int)) = false := decide_eq_false (by omega)
            have HX := Lib.hid hrr
            clear hrr
            go_wp2
            go_round
            case rel => exact ⟨q', r', rfl, rfl, HE.out, by have := HX.out; omega⟩
            case measure => have := HQ.out; simp [intOf]; omega
      · have hqI : decide ((4294967296 : Int) ≤ (q : Int)) = false := decide_eq_false (by omega)
        have hcc : q * l ≤ r * 4294967296 + d1 := by omega
        have HX := Lib.hid (est_done HF.out.2.2.1 hE hcc)
        obtain ⟨A, hA⟩ : ∃ A, q * l = A := ⟨_, rfl⟩
        obtain ⟨C, hC⟩ : ∃ C, r * 4294967296 + d1 = C := ⟨_, rfl⟩
        have hw3 : IntKind.u64.wrap ((q : Int) * (l : Int)) = (A : Int) := by
          have h5 : q * l ≤ 4294967295 * 4294967295 := Nat.mul_le_mul (by omega) (by have := HF.out.2.1; omega)
          rw [show (q : Int) * (l : Int) = ((q * l : Nat) : Int) by simp, hA, IntKind.wrap_u64]
          omega
        have hw4 : IntKind.u64.wrap (4294967296 * (r : Int)) = 4294967296 * (r : Int) := by rw [IntKind.wrap_u64]; omega
        have hw5 : IntKind.u64.wrap (4294967296 * (r : Int) + (d1 : Int)) = (C : Int) := by rw [IntKind.wrap_u64]; have := HDd1.out; omega
        have hw6 : decide (C < A) = false := by simp; omega
        clear hA hC hc hcc hE hrB
        go_wp2
        go_meet
        exact ⟨by rw [HX.out, HT1.out], rfl⟩

  case rest =>
    obtain ⟨rfl, rfl⟩ := hcut
    clear hwq hwq2 hwqh hwri HI
    have hYe := HF.out.2.2.2
    have hY0 : 0 < Y := by rw [hYe]; exact HF.out.2.2.1
    have hT1e := HT1.out
    rw [← hYe] at hT1e
    obtain ⟨V, hV⟩ : ∃ V, (u * 4294967296 + d1) % Y = V := ⟨_, rfl⟩
    have hVY : V < Y := by rw [← hV]; exact Nat.mod_lt _ hY0
    have hdm := Nat.div_add_mod (u * 4294967296 + d1) Y
    rw [hT1e, hV, Nat.mul_comm] at hdm
    obtain ⟨P1, hP1⟩ : ∃ P, T1 * Y = P := ⟨_, rfl⟩
    rw [hP1] at hdm
    have hwV : IntKind.u64.wrap (IntKind.u64.wrap (IntKind.u64.wrap ((u : Int) * 4294967296) + (d1 : Int)) - IntKind.u64.wrap ((T1 : Int) * (Y : Int))) = (V : Int) := by
      rw [show (T1 : Int) * (Y : Int) = ((T1 * Y : Nat) : Int) by simp, hP1]
      simp only [IntKind.wrap_u64]
      have := HYL.out
      omega
    have hEi := est_init HF.out.1.1 HF.out.2.1 HDd0.out (show V < h * 4294967296 + l by rw [← hYe]; exact hVY)
    obtain ⟨qj, hqj⟩ : ∃ q, V / h = q := ⟨_, rfl⟩
    obtain ⟨rj, hrj⟩ : ∃ r, V % h = r := ⟨_, rfl⟩
    rw [hqj, hrj] at hEi
    have hwq : (V : Int).tdiv (h : Int) = (qj : Int) := by rw [← hqj]; rfl
    have hwq2 : IntKind.u64.wrap (qj : Int) = (qj : Int) := by rw [IntKind.wrap_u64]; have := hEi.le; omega
    have hrjb : rj < 4294967296 := by have := Nat.mod_lt V (show 0 < h by have := HF.out.1.1; omega); have := HF.out.1.2; omega
    have hqh : (qj : Int) * (h : Int) = ((qj * h : Nat) : Int) := by simp
    have hV64 : V < 18446744073709551616 := by have := HYL.out; omega
    have hwqh : IntKind.u64.wrap ((qj : Int) * (h : Int)) = (qj : Int) * (h : Int) := by
      rw [hqh, IntKind.wrap_u64]
      have := hEi.sum
      omega
    have hwri : IntKind.u64.wrap ((V : Int) - (qj : Int) * (h : Int)) = (rj : Int) := by
      rw [hqh, IntKind.wrap_u64]
      have := hEi.sum
      omega
    have HUV := Lib.hid (show V < h * 4294967296 + l by rw [← hYe]; exact hVY)
    have HJ := Lib.hid (And.intro hEi hrjb)
    obtain ⟨T0, hT0⟩ : ∃ T, (V * 4294967296 + d0) / (h * 4294967296 + l) = T := ⟨_, rfl⟩
    have HT0 := Lib.hid hT0
    have HT1b := Lib.hid (digit_lt HF.out.2.2.1 HDd1.out HUu.out)
    have HT0b := Lib.hid (digit_lt HF.out.2.2.1 HDd0.out HUV.out)
    rw [HT1.out] at HT1b
    rw [hT0] at HT0b
    have htd := two_digits (u := u) (d1 := d1) (d0 := d0) hY0
    rw [hT1e, hV, ← HLd.out, HDIV.out.1] at htd
    have hT0e := hT0
    rw [← hYe] at hT0e
    rw [hT0e] at htd
    have HTD := Lib.hid htd
    have HP := Lib.hid (And.intro hY0 hT0e)
    clear hqh hEi hrjb hV hVY hdm hP1 hT1e hYe hY0 hqj hrj hT0 htd hT0e hV64
    go_upto_block 2 with fail
    go_cut [18] (fun s18 wx => s18 = .int .u64 (T0 : Int) ∧ w = wx)
    case first =>
      go_wp2
      go_loop [18, 16] (fun a b => ∃ q r : Nat, a = .int .u64 (q : Int) ∧ b = .int .u64 (r : Int) ∧ Est V d0 h l q r ∧ r < 4294967296) (fun a _ => (intOf a).toNat)
      case atStart => exact ⟨qj, rj, rfl, rfl, HJ.out.1, HJ.out.2⟩
      case round =>
        obtain ⟨q, r, rfl, rfl, hE, hrB⟩ := hrel
        by_cases hc : 4294967296 ≤ q ∨ r * 4294967296 + d0 < q * l
        · obtain ⟨hq1, hqb, hE', hT⟩ := est_down HF.out.2.2.1 HF.out.2.1 HDd0.out HUV.out hE hc
          obtain ⟨q', hq'⟩ : ∃ q', q - 1 = q' := ⟨_, rfl⟩
          obtain ⟨r', hr'⟩ : ∃ r', r + h = r' := ⟨_, rfl⟩
          have hql := hE.le
          have hw1 : IntKind.u64.wrap ((q : Int) - 1) = (q' : Int) := by rw [IntKind.wrap_u64]; omega
          have hw2 : IntKind.u64.wrap ((r : Int) + (h : Int)) = (r' : Int) := by rw [IntKind.wrap_u64]; have := HF.out.1.2; omega
          rw [hq', hr'] at hE' hT
          rw [hq'] at hqb
          have HE := Lib.hid hE'
          have HTT := Lib.hid hT
          have HQ := Lib.hid (And.intro hq1 hq')
          have HRR := Lib.hid (show r' < 4294967296 ∨ 4294967296 ≤ r' by omega)
          clear hE hE' hT hq' hr' hql hqb hq1
          by_cases hqB : 4294967296 ≤ q
          · have hqI : (4294967296 : Int) ≤ (q : Int) := by omega
            clear hc
            by_cases hrr : 4294967296 ≤ r'
            · have hrI : (4294967296 : Int) ≤ (r' : Int) := by omega
              have HX := Lib.hid (HTT.out hrr)
              clear hqB hrr
              go_wp2
              go_meet
              exact ⟨by rw [HX.out, HT0.out], rfl⟩
            · have hrI : decide ((4294967296 : Int) ≤ (r' : Int)) = false := decide_eq_false (by omega)
              have HX := Lib.hid hrr
              clear hqB hrr
              go_wp2
              go_round
              case rel => exact ⟨q', r', rfl, rfl, HE.out, by have := HX.out; omega⟩
              case measure => have := HQ.out; simp [intOf]; omega
          · have hqI : decide ((4294967296 : Int) ≤ (q : Int)) = false := decide_eq_false (by omega)
            have hcc : r * 4294967296 + d0 < q * l := by omega
            obtain ⟨A, hA⟩ : ∃ A, q * l = A := ⟨_, rfl⟩
            obtain ⟨C, hC⟩ : ∃ C, r * 4294967296 + d0 = C := ⟨_, rfl⟩
            have hw3 : IntKind.u64.wrap ((q : Int) * (l : Int)) = (A : Int) := by
              have h5 : q * l ≤ 4294967295 * 4294967295 := Nat.mul_le_mul (by omega) (by have := HF.out.2.1; omega)
              rw [show (q : Int) * (l : Int) = ((q * l : Nat) : Int) by simp, hA, IntKind.wrap_u64]
              omega
            have hw4 : IntKind.u64.wrap (4294967296 * (r : Int)) = 4294967296 * (r : Int) := by rw [IntKind.wrap_u64]; omega
            have hw5 : IntKind.u64.wrap (4294967296 * (r : Int) + (d0 : Int)) = (C : Int) := by rw [IntKind.wrap_u64]; have := HDd0.out; omega
            have hw6 : decide (C < A) = true := by simp; omega
            clear hA hC hc hcc hqB hrB
            by_cases hrr : 4294967296 ≤ r'
            · have hrI : (4294967296 : Int) ≤ (r' : Int) := by omega
              have HX := Lib.hid (HTT.out hrr)
              clear hrr
              go_wp2
              go_meet
              exact ⟨by rw [HX.out, HT0.out], rfl⟩
            · have hrI : decide ((4294967296 : Int) ≤ (r' : Int)) = false := decide_eq_false (by omega)
              have HX := Lib.hid hrr
              clear hrr
              go_wp2
              go_round
              case rel => exact ⟨q', r', rfl, rfl, HE.out, by have := HX.out; omega⟩
              case measure => have := HQ.out; simp [intOf]; omega
        · have hqI : decide ((4294967296 : Int) ≤ (q : Int)) = false := decide_eq_false (by omega)
          have hcc : q * l ≤ r * 4294967296 + d0 := by omega
          have HX := Lib.hid (est_done HF.out.2.2.1 hE hcc)
          obtain ⟨A, hA⟩ : ∃ A, q * l = A := ⟨_, rfl⟩
          obtain ⟨C, hC⟩ : ∃ C, r * 4294967296 + d0 = C := ⟨_, rfl⟩
          have hw3 : IntKind.u64.wrap ((q : Int) * (l : Int)) = (A : Int) := by
            have h5 : q * l ≤ 4294967295 * 4294967295 := Nat.mul_le_mul (by omega) (by have := HF.out.2.1; omega)
            rw [show (q : Int) * (l : Int) = ((q * l : Nat) : Int) by simp, hA, IntKind.wrap_u64]
            omega
          have hw4 : IntKind.u64.wrap (4294967296 * (r : Int)) = 4294967296 * (r : Int) := by rw [IntKind.wrap_u64]; omega
          have hw5 : IntKind.u64.wrap (4294967296 * (r : Int) + (d0 : Int)) = (C : Int) := by rw [IntKind.wrap_u64]; have := HDd0.out; omega
          have hw6 : decide (C < A) = false := by simp; omega
          clear hA hC hc hcc hE hrB
          go_wp2
          go_meet
          exact ⟨by rw [HX.out, HT0.out], rfl⟩

    case rest =>
      obtain ⟨rfl, rfl⟩ := hcut
      clear hwq hwq2 hwqh hwri hwV
      obtain ⟨R, hR⟩ : ∃ R, (V * 4294967296 + d0) % Y = R := ⟨_, rfl⟩
      have hRY : R < Y := by rw [← hR]; exact Nat.mod_lt _ HP.out.1
      have hdm := Nat.div_add_mod (V * 4294967296 + d0) Y
      rw [HP.out.2, hR, Nat.mul_comm] at hdm
      obtain ⟨P0, hP0⟩ : ∃ P, T0 * Y = P := ⟨_, rfl⟩
      rw [hP0] at hdm
      have hwR : IntKind.u64.wrap (IntKind.u64.wrap (IntKind.u64.wrap ((V : Int) * 4294967296) + (d0 : Int)) - IntKind.u64.wrap ((T0 : Int) * (Y : Int))) = (R : Int) := by
        rw [show (T0 : Int) * (Y : Int) = ((T0 * Y : Nat) : Int) by simp, hP0]
        simp only [IntKind.wrap_u64]
        have := HYL.out
        omega
      have htd := HTD.out
      rw [hR] at htd
      have hrr := HDIV.out.2
      rw [htd.2] at hrr
      have hwr : (R : Int) / 2 ^ s = (r : Int) := by rw [← hrr]; simp
      have hwT : IntKind.u64.wrap (IntKind.u64.wrap ((T1 : Int) * 4294967296) + (T0 : Int)) = (q : Int) := by
        simp only [IntKind.wrap_u64]
        have := HT1b.out
        have := HT0b.out
        omega
      clear hR hRY hdm hP0 htd hrr
      go_wp2
      go_ret2
      exact ⟨rfl, Below.refl _ _⟩

end Go.Proofs.Ytngbamoffjlodaa.Dw
/-
  The contracts of the landed wide's quotient and rounding. No statement is proved here.
-/
namespace Go.Proofs.Ytngbamoffjlodaa.Dw
open Go.RowKit

/-- n as two words, or refused -/
def Num (n h l : Nat) (c : Int) : Prop := (c = 0 ∧ n = h * 18446744073709551616 + l ∧ h < 18446744073709551616 ∧ l < 18446744073709551616) ∨ (c = 131 ∧ h = 0 ∧ l = 0 ∧ 340282366920938463463374607431768211456 ≤ n)
set_option maxRecDepth 100000 in
theorem Num.some (n : Nat) : ∃ h l c, Num n h l c := by
  by_cases hn : n < 340282366920938463463374607431768211456
  · exact ⟨n / 18446744073709551616, n % 18446744073709551616, 0, .inl ⟨rfl, by omega, by omega, by omega⟩⟩
  · exact ⟨0, 0, 131, .inr ⟨rfl, rfl, rfl, by omega⟩⟩
set_option maxRecDepth 100000 in
theorem Num.lo {n h l : Nat} {c : Int} (hn : Num n h l c) : l < 18446744073709551616 := by rcases hn with ⟨_, _, _, h4⟩ | ⟨_, _, h3, _⟩ <;> omega
set_option maxRecDepth 100000 in
theorem Num.hi {n h l : Nat} {c : Int} (hn : Num n h l c) : h < 18446744073709551616 := by rcases hn with ⟨_, _, h3, _⟩ | ⟨_, h2, _, _⟩ <;> omega
set_option maxRecDepth 100000 in
theorem add_num (ah al bh bl rh rl : Nat) (c : Int) (hal : al < 18446744073709551616) (hbl : bl < 18446744073709551616) (hah : ah < 18446744073709551616) (hbh : bh < 18446744073709551616)
    (h : Num (ah * 18446744073709551616 + al + (bh * 18446744073709551616 + bl)) rh rl c) (w : World) :
    Calls Try.prog 100 #[.agg #[.int .u64 (ah : Int), .int .u64 (al : Int)], .agg #[.int .u64 (bh : Int), .int .u64 (bl : Int)]] w (Ans (.tuple #[.agg #[.int .u64 (rh : Int), .int .u64 (rl : Int)], .int .i64 c]) w) := by
  rcases h with ⟨rfl, h1, h2, h3⟩ | ⟨rfl, rfl, rfl, h1⟩
  · exact add_fits ah al bh bl rh rl hal hbl h3 h2 h1 w
  · exact add_over ah al bh bl hal hbl hah hbh h1 w

set_option maxRecDepth 100000 in
/-- the library's division, hi zero or not -/
theorem div64_any (hi lo y q r : Nat) (hlo : lo < 18446744073709551616) (hy : y < 18446744073709551616) (hhi : hi < y)
    (hq : (hi * 18446744073709551616 + lo) / y = q) (hr : (hi * 18446744073709551616 + lo) % y = r) (w : World) :
    Calls Try.prog 102 #[.int .u64 (hi : Int), .int .u64 (lo : Int), .int .u64 (y : Int)] w (Ans (.tuple #[.int .u64 (q : Int), .int .u64 (r : Int)]) w) := by
  rcases Nat.eq_zero_or_pos hi with rfl | h0
  · rw [Nat.zero_mul, Nat.zero_add] at hq hr
    exact div64_zero lo y q r hlo hhi hy hq hr w
  · exact div64_big hi lo y q r hlo (by omega) hy h0 hhi hq hr w

set_option maxRecDepth 100000 in
/-- divided word by word -/
theorem div_words {hi lo d : Nat} (hd : 0 < d) : (hi * 18446744073709551616 + lo) / d = hi / d * 18446744073709551616 + (hi % d * 18446744073709551616 + lo) / d ∧ (hi * 18446744073709551616 + lo) % d = (hi % d * 18446744073709551616 + lo) % d := by
  have e : hi * 18446744073709551616 + lo = d * (hi / d * 18446744073709551616) + (hi % d * 18446744073709551616 + lo) := by
    have h := Nat.div_add_mod hi d
    generalize hi / d = a at *
    generalize hi % d = b at *
    have h2 : d * (a * 18446744073709551616) = d * a * 18446744073709551616 := (Nat.mul_assoc _ _ _).symm
    rw [h2]
    omega
  rw [e]
  exact ⟨Nat.mul_add_div hd _ _, Nat.mul_add_mod _ _ _⟩
set_option maxRecDepth 100000 in
theorem word_lt {x lo d : Nat} (hx : x < d) (hlo : lo < 18446744073709551616) : (x * 18446744073709551616 + lo) / d < 18446744073709551616 := by
  rw [Nat.div_lt_iff_lt_mul (by omega)]
  have h5 : (x + 1) * 18446744073709551616 ≤ d * 18446744073709551616 := Nat.mul_le_mul_right _ hx
  rw [Nat.add_mul, Nat.mul_comm d] at h5
  omega



set_option maxRecDepth 100000 in
theorem round_none (qh ql : Nat) (w : World) :
    Calls Try.prog 103 #[.agg #[.int .u64 (qh : Int), .int .u64 (ql : Int)], .int .u64 0] w (Ans (.tuple #[.agg #[.int .u64 (qh : Int), .int .u64 (ql : Int)], .int .i64 0]) w) := by
  go_enter Try.func103, Try.ntmps103
  go_wp2
  exact bodyPost_ret (v := .tuple #[.agg #[.int .u64 (qh : Int), .int .u64 (ql : Int)], .int .i64 0]) (by simp [results, Try.results103, go_sem]) rfl ⟨rfl, (blks2 w _ _ _ _).2.2⟩

set_option maxRecDepth 100000 in
set_option maxHeartbeats 1000000 in
theorem round_some (qh ql r zh zl : Nat) (c : Int) (hqh : qh < 18446744073709551616) (hql : ql < 18446744073709551616) (hr : 0 < r) (hN : Num (qh * 18446744073709551616 + ql + 1) zh zl c) (w : World) :
    Calls Try.prog 103 #[.agg #[.int .u64 (qh : Int), .int .u64 (ql : Int)], .int .u64 (r : Int)] w (Ans (.tuple #[.agg #[.int .u64 (zh : Int), .int .u64 (zl : Int)], .int .i64 c]) w) := by
  have HO : Hid (∀ u, Calls Try.prog 101 #[.int .u64 1] u (Ans (.agg #[.int .u64 0, .int .u64 1]) u)) := Lib.hid (fun u => of_wide 1 u)
  have HA : Hid (∀ u, Calls Try.prog 100 #[.agg #[.int .u64 (qh : Int), .int .u64 (ql : Int)], .agg #[.int .u64 0, .int .u64 1]] u (Ans (.tuple #[.agg #[.int .u64 (zh : Int), .int .u64 (zl : Int)], .int .i64 c]) u)) :=
    Lib.hid (fun u => add_num qh ql 0 1 zh zl c hql (by omega) hqh (by omega) (by rw [Nat.zero_mul, Nat.zero_add]; exact hN) u)
  have e0 : ((r : Int) == 0) = false := by simp; omega
  obtain ⟨b1, b2, bb⟩ := blks2 w 43 43 #[.int .u64 (qh : Int), .int .u64 (ql : Int)] #[.int .u64 0, .int .u64 0]
  clear hqh hql hr hN
  go_enter Try.func103, Try.ntmps103
  go_upto_region 3 with fail
  have FA : Blk (World.drew ((w.alloc (.cells #[.int .u64 (qh : Int), .int .u64 (ql : Int)] 43)).alloc (.cells #[.int .u64 0, .int .u64 0] 43))) _ _ _ := b1
  have FO : Blk (World.drew ((w.alloc (.cells #[.int .u64 (qh : Int), .int .u64 (ql : Int)] 43)).alloc (.cells #[.int .u64 0, .int .u64 0] 43))) _ _ _ := b2
  have GB : Below w.heap.size w (World.drew ((w.alloc (.cells #[.int .u64 (qh : Int), .int .u64 (ql : Int)] 43)).alloc (.cells #[.int .u64 0, .int .u64 0] 43))) := bb.drew
  clear b1 b2 bb
  refine wp_region_held_drew (S := fun W => Blk W w.heap.size 43 #[.int .u64 (qh : Int), .int .u64 (ql : Int)]) (by kernel_rfl) FA (fun hS => ?_)
  generalize World.drew ((w.alloc (.cells #[.int .u64 (qh : Int), .int .u64 (ql : Int)] 43)).alloc (.cells #[.int .u64 0, .int .u64 0] 43)) = V at FA FO GB hS ⊢
  refine wpAnyH_take (i := 0) (v := .agg (#[.int .u64 (qh : Int), .int .u64 (ql : Int)])) rfl (by kernel_rfl) (by kernel_rfl) (by kernel_rfl) (fun _ _ _ h => h) (yields_row (by rfl) 43 (.tmp 2) rfl (w.heap.size) rfl _ _ _ (fun _ h => h) Try.underlying43 rfl (by kernel_rfl)) hS ?_
  refine wpAnyH_ready (rs := [1]) (by kernel_rfl) (by simp) ?_
  refine AllReadyH.cons rfl (fun K hK => ?_) (AllReadyH.nil)
  go_simp
  refine (HO.out _).mono ?_
  rintro e w1 ⟨rfl, h1⟩
  replace FA := FA.below h1 FA.lt
  replace FO := FO.below h1 FO.lt
  replace GB := GB.trans (h1.mono GB.size)
  clear h1
  refine hK.out _ _ FA (fun hS => ?_)
  clear hK K
  refine wpAnyH_ready (rs := [2]) (by kernel_rfl) (by simp) ?_
  refine AllReadyH.cons rfl (fun K hK => ?_) (AllReadyH.nil)
  go_simp
  refine (HA.out _).mono ?_
  rintro e w2 ⟨rfl, h2⟩
  replace FA := FA.below h2 FA.lt
  replace FO := FO.below h2 FO.lt
  replace GB := GB.trans (h2.mono GB.size)
  clear h2
  refine hK.out _ _ FA (fun hS => ?_)
  clear hK K
  refine wpAnyH_take (i := 3) (v := .agg #[.int .u64 (zh : Int), .int .u64 (zl : Int)]) rfl (by kernel_rfl) (by kernel_rfl) (by kernel_rfl) (fun _ _ _ h => h) (Or.inl ⟨by rfl, fun w hSw => by rfl⟩) hS ?_
  refine wpAnyH_take (i := 4) (v := .int .i64 c) rfl (by kernel_rfl) (by kernel_rfl) (by kernel_rfl) (fun _ _ _ h => h) (Or.inl ⟨by rfl, fun w hSw => by rfl⟩) hS ?_
  refine wpAnyH_ready (rs := [5]) (by kernel_rfl) (by simp) ?_
  refine AllReadyH.cons rfl (fun K hK => ?_) (AllReadyH.nil)
  have O3 := FO
  replace FA := FA.other (g' := w.heap.size + 1) (cs' := #[.int .u64 (zh : Int), .int .u64 (zl : Int)]) (by omega)
  replace FO := FO.row (cs' := #[.int .u64 (zh : Int), .int .u64 (zl : Int)])
  replace GB := below_row (g' := w.heap.size + 1) (cs' := #[.int .u64 (zh : Int), .int .u64 (zl : Int)]) GB (by omega)
  refine keep_row rfl 43 (.tmp 4) (.tmp 12) rfl _ _ rfl rfl _ _ O3 (by kernel_rfl) rfl (by simp [Value.oneCell']) (hK.out _ _ FA (fun hS => ?_))
  clear hK K O3
  generalize w2.setRow (w.heap.size + 1) (#[.int .u64 (zh : Int), .int .u64 (zl : Int)]) = U3 at FA FO GB hS ⊢
  refine wpAnyH_ready (rs := [6]) (by kernel_rfl) (by simp) ?_
  refine AllReadyH.cons rfl (fun K hK => ?_) (AllReadyH.nil)
  go_simp
  refine hK.out _ _ FA (fun hS => ?_)
  clear hK K
  refine wpAnyH_done (by kernel_rfl) ?_ _
  go_wp2_with fail
  exact bodyPost_ret (v := .tuple #[.agg #[.int .u64 (zh : Int), .int .u64 (zl : Int)], .int .i64 c]) (results_row2 Try.results103 _ _ _ _ _ _ rfl FO Try.underlying43 rfl (by kernel_rfl)) rfl ⟨rfl, GB⟩

end Go.Proofs.Ytngbamoffjlodaa.Dw
/-
  The contracts of the landed wide's scaling. No statement is proved here.
-/
namespace Go.Proofs.Ytngbamoffjlodaa.Dw
open Go.RowKit

/-- a times m over d, rounded down, or up -/
def scaleN (a m d : Nat) (up : Bool) : Nat := a * m / d + (if up = true ∧ a * m % d ≠ 0 then 1 else 0)
set_option maxRecDepth 100000 in
theorem scaleN_even {a m d : Nat} (up : Bool) (h : a * m % d = 0) : scaleN a m d up = a * m / d := by unfold scaleN; rw [if_neg (fun h2 => h2.2 h), Nat.add_zero]
set_option maxRecDepth 100000 in
theorem scaleN_up {a m d : Nat} (h : a * m % d ≠ 0) : scaleN a m d true = a * m / d + 1 := by unfold scaleN; rw [if_pos ⟨rfl, h⟩]
set_option maxRecDepth 100000 in
theorem scaleN_ge (a m d : Nat) (up : Bool) : a * m / d ≤ scaleN a m d up := Nat.le_add_right _ _

set_option maxRecDepth 100000 in
/-- a product of 128 and 64 bits, in words -/
theorem product_words {ah al m : Nat} (hah : ah < 18446744073709551616) (hal : al < 18446744073709551616) (hm : m < 18446744073709551616) :
    ∃ lh ll ph pl uh ul : Nat, al * m = lh * 18446744073709551616 + ll ∧ ll < 18446744073709551616 ∧ lh < 18446744073709551616 ∧ ah * m = ph * 18446744073709551616 + pl ∧ pl < 18446744073709551616 ∧ ph < 18446744073709551616 ∧
      ph * 18446744073709551616 + pl + (0 * 18446744073709551616 + lh) = uh * 18446744073709551616 + ul ∧ ul < 18446744073709551616 ∧ uh < 18446744073709551616 ∧
      (ah * 18446744073709551616 + al) * m = (uh * 18446744073709551616 + ul) * 18446744073709551616 + ll := by
  have h1 : al * m ≤ 18446744073709551615 * 18446744073709551615 := Nat.mul_le_mul (by omega) (by omega)
  have h2 : ah * m ≤ 18446744073709551615 * 18446744073709551615 := Nat.mul_le_mul (by omega) (by omega)
  have h3 : (ah * 18446744073709551616 + al) * m = ah * m * 18446744073709551616 + al * m := by rw [Nat.add_mul, Nat.mul_right_comm]
  rw [h3]
  obtain ⟨L, hL⟩ : ∃ L, al * m = L := ⟨_, rfl⟩
  obtain ⟨H, hH⟩ : ∃ H, ah * m = H := ⟨_, rfl⟩
  rw [hL] at h1 ⊢
  rw [hH] at h2 ⊢
  clear h3 hL hH hah hal hm
  refine ⟨L / 18446744073709551616, L % 18446744073709551616, H / 18446744073709551616, H % 18446744073709551616, (H + L / 18446744073709551616) / 18446744073709551616, (H + L / 18446744073709551616) % 18446744073709551616, ?_⟩
  omega

set_option maxRecDepth 100000 in
theorem scale_big {N uh ul ll d : Nat} (hd : 0 < d) (h : d ≤ uh) (e : N = (uh * 18446744073709551616 + ul) * 18446744073709551616 + ll) : 340282366920938463463374607431768211456 ≤ N / d := by
  rw [Nat.le_div_iff_mul_le hd, e]
  omega

set_option maxHeartbeats 2000000 in
set_option maxRecDepth 100000 in
theorem scale_any (ah al m d zh zl : Nat) (c : Int) (hah : ah < 18446744073709551616) (hal : al < 18446744073709551616) (hm : m < 18446744073709551616) (hd0 : 0 < d) (hd : d < 18446744073709551616)
    (hN : Num (scaleN (ah * 18446744073709551616 + al) m d true) zh zl c) (w : World) :
    Calls Try.prog 77 #[.agg #[.int .u64 (ah : Int), .int .u64 (al : Int)], .int .u64 (m : Int), .int .u64 (d : Int)] w (Ans (.tuple #[.agg #[.int .u64 (zh : Int), .int .u64 (zl : Int)], .int .i64 c]) w) := by
  obtain ⟨lh, ll, ph, pl, uh, ul, e1, hll, hlh, e2, hpl, hph, e3, hul, huh, e4⟩ := product_words hah hal hm
  have HL := Lib.hid (fun u => mul_any al m lh ll hal hm hll e1 u)
  have HP := Lib.hid (fun u => mul_any ah m ph pl hah hm hpl e2 u)
  have HO := Lib.hid (fun u => of_wide lh u)
  have HA : Hid (∀ u, Calls Try.prog 100 #[.agg #[.int .u64 (ph : Int), .int .u64 (pl : Int)], .agg #[.int .u64 0, .int .u64 (lh : Int)]] u (Ans (.tuple #[.agg #[.int .u64 (uh : Int), .int .u64 (ul : Int)], .int .i64 0]) u)) :=
    Lib.hid (fun u => add_fits ph pl 0 lh uh ul hpl hlh hul huh e3 u)
  have hw := div_words (hi := uh * 18446744073709551616 + ul) (lo := ll) hd0
  rw [← e4] at hw
  obtain ⟨U, hU⟩ : ∃ U, uh * 18446744073709551616 + ul = U := ⟨_, rfl⟩
  have e0 : ((d : Int) == 0) = false := by simp; omega
  obtain ⟨b1, b2, bb⟩ := blks2 w 43 43 #[.int .u64 (ah : Int), .int .u64 (al : Int)] #[.int .u64 0, .int .u64 0]
  have HB := Lib.hid (And.intro b1 (And.intro b2 bb))
  have HM := Lib.hid (And.intro hw (And.intro hU (And.intro hll (And.intro hd0 (And.intro hd hN)))))
  have HV := Lib.hid (And.intro hul (And.intro huh e4))
  clear hah hal hm hd0 hd hN e1 e2 e3 e4 hll hlh hpl hph hul huh b1 b2 bb hw hU
  go_enter Try.func77, Try.ntmps77
  go_wp2_with fail
  refine (HL.out _).mono ?_
  rintro e w1 ⟨rfl, h1⟩
  have FA := HB.out.1.below h1 HB.out.1.lt
  have FO := HB.out.2.1.below h1 HB.out.2.1.lt
  have GB := HB.out.2.2.trans (h1.mono HB.out.2.2.size)
  clear h1
  go_upto_region 4 with fail
  have FL := Blk.new w1 43 #[.int .u64 (lh : Int), .int .u64 (ll : Int)]
  have l1 := FA.lt
  have l2 := FO.lt
  replace FA := FA.alloc (.cells #[.int .u64 (lh : Int), .int .u64 (ll : Int)] 43)
  replace FO := FO.alloc (.cells #[.int .u64 (lh : Int), .int .u64 (ll : Int)] 43)
  replace GB := GB.alloc GB.size (.cells #[.int .u64 (lh : Int), .int .u64 (ll : Int)] 43)
  generalize w1.alloc (.cells #[.int .u64 (lh : Int), .int .u64 (ll : Int)] 43) = V0 at FA FO FL GB ⊢
  generalize w1.heap.size = gL at FL l1 l2 ⊢
  replace FA : Blk V0.drew _ _ _ := FA
  replace FO : Blk V0.drew _ _ _ := FO
  replace FL : Blk V0.drew _ _ _ := FL
  replace GB := GB.drew
  go_cut [9] (fun s9 wx => ∃ g9 : Nat, s9 = .pointer (some ⟨g9, 0, none⟩) ∧ gL < g9 ∧ Blk wx g9 43 #[.int .u64 (uh : Int), .int .u64 (ul : Int)] ∧ Blk wx gL 43 #[.int .u64 (lh : Int), .int .u64 (ll : Int)] ∧ Blk wx (w.heap.size + 1) 43 #[.int .u64 0, .int .u64 0] ∧ Below w.heap.size w wx)
  case first =>
    refine wp_region_held_drew (S := fun W => Blk W w.heap.size 43 #[.int .u64 (ah : Int), .int .u64 (al : Int)] ∧ Blk W gL 43 #[.int .u64 (lh : Int), .int .u64 (ll : Int)]) (by kernel_rfl) ⟨FA, FL⟩ (fun hS => ?_)
    generalize V0.drew = V at FA FO FL GB hS ⊢
    refine wpAnyH_take (i := 0) (v := .pointer (some ⟨w.heap.size, 0, none⟩)) rfl (by kernel_rfl) (by kernel_rfl) (by kernel_rfl) (fun _ _ _ h => h) (Or.inl ⟨by rfl, fun u hSw => (by go_simp)⟩) hS ?_
    refine wpAnyH_take (i := 1) (v := .int .u64 (ah : Int)) rfl (by kernel_rfl) (by kernel_rfl) (by kernel_rfl) (fun _ _ _ h => h) (Or.inl ⟨by rfl, fun u hSw => (by have c : u.cell? ⟨w.heap.size, 0, none⟩ = some (.int .u64 (ah : Int)) := hSw.1.cell 0; go_simp)⟩) hS ?_
    refine wpAnyH_take (i := 2) (v := .int .u64 (m : Int)) rfl (by kernel_rfl) (by kernel_rfl) (by kernel_rfl) (fun _ _ _ h => h) (Or.inl ⟨by rfl, fun u hSw => (by go_simp)⟩) hS ?_
    refine wpAnyH_take (i := 4) (v := .pointer (some ⟨gL, 0, none⟩)) rfl (by kernel_rfl) (by kernel_rfl) (by kernel_rfl) (fun _ _ _ h => h) (Or.inl ⟨by rfl, fun u hSw => (by go_simp)⟩) hS ?_
    refine wpAnyH_take (i := 5) (v := .int .u64 (lh : Int)) rfl (by kernel_rfl) (by kernel_rfl) (by kernel_rfl) (fun _ _ _ h => h) (Or.inl ⟨by rfl, fun u hSw => (by have c : u.cell? ⟨gL, 0, none⟩ = some (.int .u64 (lh : Int)) := hSw.2.cell 0; go_simp)⟩) hS ?_
    refine wpAnyH_ready (rs := [3, 11]) (by kernel_rfl) (by simp) ?_
    refine AllReadyH.cons rfl (fun K hK => ?_) (AllReadyH.cons rfl (fun K hK => ?_) (AllReadyH.nil))
    · skip
      go_simp
      refine (HP.out _).mono ?_
      rintro e w1 ⟨rfl, h1⟩
      replace FA := FA.below h1 FA.lt
      replace FL := FL.below h1 FL.lt
      replace FO := FO.below h1 FO.lt
      replace GB := GB.trans (h1.mono GB.size)
      clear h1
      refine hK.out _ _ ⟨FA, FL⟩ (fun hS => ?_)
      clear hK K
      refine wpAnyH_ready (rs := [6, 11]) (by kernel_rfl) (by simp) ?_
      refine AllReadyH.cons rfl (fun K hK => ?_) (AllReadyH.cons rfl (fun K hK => ?_) (AllReadyH.nil))
      · skip
        go_simp
        refine (HO.out _).mono ?_
        rintro e w2 ⟨rfl, h2⟩
        replace FA := FA.below h2 FA.lt
        replace FL := FL.below h2 FL.lt
        replace FO := FO.below h2 FO.lt
        replace GB := GB.trans (h2.mono GB.size)
        clear h2
        refine hK.out _ _ ⟨FA, FL⟩ (fun hS => ?_)
        clear hK K
        refine wpAnyH_ready (rs := [7, 11]) (by kernel_rfl) (by simp) ?_
        refine AllReadyH.cons rfl (fun K hK => ?_) (AllReadyH.cons rfl (fun K hK => ?_) (AllReadyH.nil))
        · skip
          go_simp
          refine (HA.out _).mono ?_
          rintro e w3 ⟨rfl, h3⟩
          replace FA := FA.below h3 FA.lt
          replace FL := FL.below h3 FL.lt
          replace FO := FO.below h3 FO.lt
          replace GB := GB.trans (h3.mono GB.size)
          clear h3
          refine hK.out _ _ ⟨FA, FL⟩ (fun hS => ?_)
          clear hK K
          refine wpAnyH_take (i := 8) (v := .tuple #[.agg #[.int .u64 (uh : Int), .int .u64 (ul : Int)], .int .i64 0]) rfl (by kernel_rfl) (by kernel_rfl) (by kernel_rfl) (fun _ _ _ h => h) (Or.inl ⟨by rfl, fun u hSw => (by go_simp)⟩) hS ?_
          refine wpAnyH_take (i := 9) (v := .agg #[.int .u64 (uh : Int), .int .u64 (ul : Int)]) rfl (by kernel_rfl) (by kernel_rfl) (by kernel_rfl) (fun _ _ _ h => h) (Or.inl ⟨by rfl, fun u hSw => (by go_simp)⟩) hS ?_
          refine wpAnyH_take (i := 10) (v := .int .i64 0) rfl (by kernel_rfl) (by kernel_rfl) (by kernel_rfl) (fun _ _ _ h => h) (Or.inl ⟨by rfl, fun u hSw => (by go_simp)⟩) hS ?_
          refine wpAnyH_ready (rs := [11]) (by kernel_rfl) (by simp) ?_
          refine AllReadyH.cons rfl (fun K hK => ?_) (AllReadyH.nil)
          go_simp
          have F9 := Blk.new w3 43 (#[.int .u64 0, .int .u64 0])
          have l9A : w.heap.size < w3.heap.size := FA.lt
          replace FA := FA.alloc (.cells (#[.int .u64 0, .int .u64 0]) 43)
          have l9L : gL < w3.heap.size := FL.lt
          replace FL := FL.alloc (.cells (#[.int .u64 0, .int .u64 0]) 43)
          have l9O : w.heap.size + 1 < w3.heap.size := FO.lt
          replace FO := FO.alloc (.cells (#[.int .u64 0, .int .u64 0]) 43)
          have L9 := GB.size
          replace GB := GB.alloc GB.size (.cells (#[.int .u64 0, .int .u64 0]) 43)
          refine hK.out _ _ ⟨FA, FL⟩ (fun hS => ?_)
          clear hK K
          generalize w3.alloc (.cells (#[.int .u64 0, .int .u64 0]) 43) = U4 at F9 FA FL FO GB hS ⊢
          generalize w3.heap.size = g9 at F9 l9A l9L l9O L9 ⊢
          refine wpAnyH_ready (rs := [12]) (by kernel_rfl) (by simp) ?_
          refine AllReadyH.cons rfl (fun K hK => ?_) (AllReadyH.nil)
          have O5 := F9
          replace FA := FA.other (g' := g9) (cs' := #[.int .u64 (uh : Int), .int .u64 (ul : Int)]) (by omega)
          replace FL := FL.other (g' := g9) (cs' := #[.int .u64 (uh : Int), .int .u64 (ul : Int)]) (by omega)
          replace FO := FO.other (g' := g9) (cs' := #[.int .u64 (uh : Int), .int .u64 (ul : Int)]) (by omega)
          replace F9 := F9.row (cs' := #[.int .u64 (uh : Int), .int .u64 (ul : Int)])
          replace GB := below_row (g' := g9) (cs' := #[.int .u64 (uh : Int), .int .u64 (ul : Int)]) GB (by omega)
          refine keep_row rfl 43 (.tmp 9) (.tmp 31) rfl _ _ rfl rfl _ _ O5 (by kernel_rfl) rfl (by simp [Value.oneCell']) (hK.out _ _ ⟨FA, FL⟩ (fun hS => ?_))
          clear hK K O5
          generalize U4.setRow (g9) (#[.int .u64 (uh : Int), .int .u64 (ul : Int)]) = U5 at FA FL FO F9 GB hS ⊢
          refine wpAnyH_ready (rs := [13]) (by kernel_rfl) (by simp) ?_
          refine AllReadyH.cons rfl (fun K hK => ?_) (AllReadyH.nil)
          go_simp
          refine hK.out _ _ ⟨FA, FL⟩ (fun hS => ?_)
          clear hK K
          refine wpAnyH_done (by kernel_rfl) ?_ _
          go_wp2_with fail
          go_meet
          exact ⟨g9, rfl, by omega, F9, FL, FO, GB⟩
        · skip
          go_simp
          have F9 := Blk.new w2 43 (#[.int .u64 0, .int .u64 0])
          have l9A : w.heap.size < w2.heap.size := FA.lt
          replace FA := FA.alloc (.cells (#[.int .u64 0, .int .u64 0]) 43)
          have l9L : gL < w2.heap.size := FL.lt
          replace FL := FL.alloc (.cells (#[.int .u64 0, .int .u64 0]) 43)
          have l9O : w.heap.size + 1 < w2.heap.size := FO.lt
          replace FO := FO.alloc (.cells (#[.int .u64 0, .int .u64 0]) 43)
          have L9 := GB.size
          replace GB := GB.alloc GB.size (.cells (#[.int .u64 0, .int .u64 0]) 43)
          refine hK.out _ _ ⟨FA, FL⟩ (fun hS => ?_)
          clear hK K
          generalize w2.alloc (.cells (#[.int .u64 0, .int .u64 0]) 43) = U7 at F9 FA FL FO GB hS ⊢
          generalize w2.heap.size = g9 at F9 l9A l9L l9O L9 ⊢
          refine wpAnyH_ready (rs := [7]) (by kernel_rfl) (by simp) ?_
          refine AllReadyH.cons rfl (fun K hK => ?_) (AllReadyH.nil)
          go_simp
          refine (HA.out _).mono ?_
          rintro e w8 ⟨rfl, h8⟩
          replace FA := FA.below h8 FA.lt
          replace FL := FL.below h8 FL.lt
          replace FO := FO.below h8 FO.lt
          replace F9 := F9.below h8 F9.lt
          replace GB := GB.trans (h8.mono GB.size)
          clear h8
          refine hK.out _ _ ⟨FA, FL⟩ (fun hS => ?_)
          clear hK K
          refine wpAnyH_take (i := 8) (v := .tuple #[.agg #[.int .u64 (uh : Int), .int .u64 (ul : Int)], .int .i64 0]) rfl (by kernel_rfl) (by kernel_rfl) (by kernel_rfl) (fun _ _ _ h => h) (Or.inl ⟨by rfl, fun u hSw => (by go_simp)⟩) hS ?_
          refine wpAnyH_take (i := 9) (v := .agg #[.int .u64 (uh : Int), .int .u64 (ul : Int)]) rfl (by kernel_rfl) (by kernel_rfl) (by kernel_rfl) (fun _ _ _ h => h) (Or.inl ⟨by rfl, fun u hSw => (by go_simp)⟩) hS ?_
          refine wpAnyH_take (i := 10) (v := .int .i64 0) rfl (by kernel_rfl) (by kernel_rfl) (by kernel_rfl) (fun _ _ _ h => h) (Or.inl ⟨by rfl, fun u hSw => (by go_simp)⟩) hS ?_
          refine wpAnyH_ready (rs := [12]) (by kernel_rfl) (by simp) ?_
          refine AllReadyH.cons rfl (fun K hK => ?_) (AllReadyH.nil)
          have O9 := F9
          replace FA := FA.other (g' := g9) (cs' := #[.int .u64 (uh : Int), .int .u64 (ul : Int)]) (by omega)
          replace FL := FL.other (g' := g9) (cs' := #[.int .u64 (uh : Int), .int .u64 (ul : Int)]) (by omega)
          replace FO := FO.other (g' := g9) (cs' := #[.int .u64 (uh : Int), .int .u64 (ul : Int)]) (by omega)
          replace F9 := F9.row (cs' := #[.int .u64 (uh : Int), .int .u64 (ul : Int)])
          replace GB := below_row (g' := g9) (cs' := #[.int .u64 (uh : Int), .int .u64 (ul : Int)]) GB (by omega)
          refine keep_row rfl 43 (.tmp 9) (.tmp 31) rfl _ _ rfl rfl _ _ O9 (by kernel_rfl) rfl (by simp [Value.oneCell']) (hK.out _ _ ⟨FA, FL⟩ (fun hS => ?_))
          clear hK K O9
          generalize w8.setRow (g9) (#[.int .u64 (uh : Int), .int .u64 (ul : Int)]) = U9 at FA FL FO F9 GB hS ⊢
          refine wpAnyH_ready (rs := [13]) (by kernel_rfl) (by simp) ?_
          refine AllReadyH.cons rfl (fun K hK => ?_) (AllReadyH.nil)
          go_simp
          refine hK.out _ _ ⟨FA, FL⟩ (fun hS => ?_)
          clear hK K
          refine wpAnyH_done (by kernel_rfl) ?_ _
          go_wp2_with fail
          go_meet
          exact ⟨g9, rfl, by omega, F9, FL, FO, GB⟩
      · skip
        go_simp
        have F9 := Blk.new w1 43 (#[.int .u64 0, .int .u64 0])
        have l9A : w.heap.size < w1.heap.size := FA.lt
        replace FA := FA.alloc (.cells (#[.int .u64 0, .int .u64 0]) 43)
        have l9L : gL < w1.heap.size := FL.lt
        replace FL := FL.alloc (.cells (#[.int .u64 0, .int .u64 0]) 43)
        have l9O : w.heap.size + 1 < w1.heap.size := FO.lt
        replace FO := FO.alloc (.cells (#[.int .u64 0, .int .u64 0]) 43)
        have L9 := GB.size
        replace GB := GB.alloc GB.size (.cells (#[.int .u64 0, .int .u64 0]) 43)
        refine hK.out _ _ ⟨FA, FL⟩ (fun hS => ?_)
        clear hK K
        generalize w1.alloc (.cells (#[.int .u64 0, .int .u64 0]) 43) = U11 at F9 FA FL FO GB hS ⊢
        generalize w1.heap.size = g9 at F9 l9A l9L l9O L9 ⊢
        refine wpAnyH_ready (rs := [6]) (by kernel_rfl) (by simp) ?_
        refine AllReadyH.cons rfl (fun K hK => ?_) (AllReadyH.nil)
        go_simp
        refine (HO.out _).mono ?_
        rintro e w12 ⟨rfl, h12⟩
        replace FA := FA.below h12 FA.lt
        replace FL := FL.below h12 FL.lt
        replace FO := FO.below h12 FO.lt
        replace F9 := F9.below h12 F9.lt
        replace GB := GB.trans (h12.mono GB.size)
        clear h12
        refine hK.out _ _ ⟨FA, FL⟩ (fun hS => ?_)
        clear hK K
        refine wpAnyH_ready (rs := [7]) (by kernel_rfl) (by simp) ?_
        refine AllReadyH.cons rfl (fun K hK => ?_) (AllReadyH.nil)
        go_simp
        refine (HA.out _).mono ?_
        rintro e w13 ⟨rfl, h13⟩
        replace FA := FA.below h13 FA.lt
        replace FL := FL.below h13 FL.lt
        replace FO := FO.below h13 FO.lt
        replace F9 := F9.below h13 F9.lt
        replace GB := GB.trans (h13.mono GB.size)
        clear h13
        refine hK.out _ _ ⟨FA, FL⟩ (fun hS => ?_)
        clear hK K
        refine wpAnyH_take (i := 8) (v := .tuple #[.agg #[.int .u64 (uh : Int), .int .u64 (ul : Int)], .int .i64 0]) rfl (by kernel_rfl) (by kernel_rfl) (by kernel_rfl) (fun _ _ _ h => h) (Or.inl ⟨by rfl, fun u hSw => (by go_simp)⟩) hS ?_
        refine wpAnyH_take (i := 9) (v := .agg #[.int .u64 (uh : Int), .int .u64 (ul : Int)]) rfl (by kernel_rfl) (by kernel_rfl) (by kernel_rfl) (fun _ _ _ h => h) (Or.inl ⟨by rfl, fun u hSw => (by go_simp)⟩) hS ?_
        refine wpAnyH_take (i := 10) (v := .int .i64 0) rfl (by kernel_rfl) (by kernel_rfl) (by kernel_rfl) (fun _ _ _ h => h) (Or.inl ⟨by rfl, fun u hSw => (by go_simp)⟩) hS ?_
        refine wpAnyH_ready (rs := [12]) (by kernel_rfl) (by simp) ?_
        refine AllReadyH.cons rfl (fun K hK => ?_) (AllReadyH.nil)
        have O14 := F9
        replace FA := FA.other (g' := g9) (cs' := #[.int .u64 (uh : Int), .int .u64 (ul : Int)]) (by omega)
        replace FL := FL.other (g' := g9) (cs' := #[.int .u64 (uh : Int), .int .u64 (ul : Int)]) (by omega)
        replace FO := FO.other (g' := g9) (cs' := #[.int .u64 (uh : Int), .int .u64 (ul : Int)]) (by omega)
        replace F9 := F9.row (cs' := #[.int .u64 (uh : Int), .int .u64 (ul : Int)])
        replace GB := below_row (g' := g9) (cs' := #[.int .u64 (uh : Int), .int .u64 (ul : Int)]) GB (by omega)
        refine keep_row rfl 43 (.tmp 9) (.tmp 31) rfl _ _ rfl rfl _ _ O14 (by kernel_rfl) rfl (by simp [Value.oneCell']) (hK.out _ _ ⟨FA, FL⟩ (fun hS => ?_))
        clear hK K O14
        generalize w13.setRow (g9) (#[.int .u64 (uh : Int), .int .u64 (ul : Int)]) = U14 at FA FL FO F9 GB hS ⊢
        refine wpAnyH_ready (rs := [13]) (by kernel_rfl) (by simp) ?_
        refine AllReadyH.cons rfl (fun K hK => ?_) (AllReadyH.nil)
        go_simp
        refine hK.out _ _ ⟨FA, FL⟩ (fun hS => ?_)
        clear hK K
        refine wpAnyH_done (by kernel_rfl) ?_ _
        go_wp2_with fail
        go_meet
        exact ⟨g9, rfl, by omega, F9, FL, FO, GB⟩
    · skip
      go_simp
      have F9 := Blk.new V 43 (#[.int .u64 0, .int .u64 0])
      have l9A : w.heap.size < V.heap.size := FA.lt
      replace FA := FA.alloc (.cells (#[.int .u64 0, .int .u64 0]) 43)
      have l9L : gL < V.heap.size := FL.lt
      replace FL := FL.alloc (.cells (#[.int .u64 0, .int .u64 0]) 43)
      have l9O : w.heap.size + 1 < V.heap.size := FO.lt
      replace FO := FO.alloc (.cells (#[.int .u64 0, .int .u64 0]) 43)
      have L9 := GB.size
      replace GB := GB.alloc GB.size (.cells (#[.int .u64 0, .int .u64 0]) 43)
      refine hK.out _ _ ⟨FA, FL⟩ (fun hS => ?_)
      clear hK K
      generalize V.alloc (.cells (#[.int .u64 0, .int .u64 0]) 43) = U16 at F9 FA FL FO GB hS ⊢
      generalize V.heap.size = g9 at F9 l9A l9L l9O L9 ⊢
      refine wpAnyH_ready (rs := [3]) (by kernel_rfl) (by simp) ?_
      refine AllReadyH.cons rfl (fun K hK => ?_) (AllReadyH.nil)
      go_simp
      refine (HP.out _).mono ?_
      rintro e w17 ⟨rfl, h17⟩
      replace FA := FA.below h17 FA.lt
      replace FL := FL.below h17 FL.lt
      replace FO := FO.below h17 FO.lt
      replace F9 := F9.below h17 F9.lt
      replace GB := GB.trans (h17.mono GB.size)
      clear h17
      refine hK.out _ _ ⟨FA, FL⟩ (fun hS => ?_)
      clear hK K
      refine wpAnyH_ready (rs := [6]) (by kernel_rfl) (by simp) ?_
      refine AllReadyH.cons rfl (fun K hK => ?_) (AllReadyH.nil)
      go_simp
      refine (HO.out _).mono ?_
      rintro e w18 ⟨rfl, h18⟩
      replace FA := FA.below h18 FA.lt
      replace FL := FL.below h18 FL.lt
      replace FO := FO.below h18 FO.lt
      replace F9 := F9.below h18 F9.lt
      replace GB := GB.trans (h18.mono GB.size)
      clear h18
      refine hK.out _ _ ⟨FA, FL⟩ (fun hS => ?_)
      clear hK K
      refine wpAnyH_ready (rs := [7]) (by kernel_rfl) (by simp) ?_
      refine AllReadyH.cons rfl (fun K hK => ?_) (AllReadyH.nil)
      go_simp
      refine (HA.out _).mono ?_
      rintro e w19 ⟨rfl, h19⟩
      replace FA := FA.below h19 FA.lt
      replace FL := FL.below h19 FL.lt
      replace FO := FO.below h19 FO.lt
      replace F9 := F9.below h19 F9.lt
      replace GB := GB.trans (h19.mono GB.size)
      clear h19
      refine hK.out _ _ ⟨FA, FL⟩ (fun hS => ?_)
      clear hK K
      refine wpAnyH_take (i := 8) (v := .tuple #[.agg #[.int .u64 (uh : Int), .int .u64 (ul : Int)], .int .i64 0]) rfl (by kernel_rfl) (by kernel_rfl) (by kernel_rfl) (fun _ _ _ h => h) (Or.inl ⟨by rfl, fun u hSw => (by go_simp)⟩) hS ?_
      refine wpAnyH_take (i := 9) (v := .agg #[.int .u64 (uh : Int), .int .u64 (ul : Int)]) rfl (by kernel_rfl) (by kernel_rfl) (by kernel_rfl) (fun _ _ _ h => h) (Or.inl ⟨by rfl, fun u hSw => (by go_simp)⟩) hS ?_
      refine wpAnyH_take (i := 10) (v := .int .i64 0) rfl (by kernel_rfl) (by kernel_rfl) (by kernel_rfl) (fun _ _ _ h => h) (Or.inl ⟨by rfl, fun u hSw => (by go_simp)⟩) hS ?_
      refine wpAnyH_ready (rs := [12]) (by kernel_rfl) (by simp) ?_
      refine AllReadyH.cons rfl (fun K hK => ?_) (AllReadyH.nil)
      have O20 := F9
      replace FA := FA.other (g' := g9) (cs' := #[.int .u64 (uh : Int), .int .u64 (ul : Int)]) (by omega)
      replace FL := FL.other (g' := g9) (cs' := #[.int .u64 (uh : Int), .int .u64 (ul : Int)]) (by omega)
      replace FO := FO.other (g' := g9) (cs' := #[.int .u64 (uh : Int), .int .u64 (ul : Int)]) (by omega)
      replace F9 := F9.row (cs' := #[.int .u64 (uh : Int), .int .u64 (ul : Int)])
      replace GB := below_row (g' := g9) (cs' := #[.int .u64 (uh : Int), .int .u64 (ul : Int)]) GB (by omega)
      refine keep_row rfl 43 (.tmp 9) (.tmp 31) rfl _ _ rfl rfl _ _ O20 (by kernel_rfl) rfl (by simp [Value.oneCell']) (hK.out _ _ ⟨FA, FL⟩ (fun hS => ?_))
      clear hK K O20
      generalize w19.setRow (g9) (#[.int .u64 (uh : Int), .int .u64 (ul : Int)]) = U20 at FA FL FO F9 GB hS ⊢
      refine wpAnyH_ready (rs := [13]) (by kernel_rfl) (by simp) ?_
      refine AllReadyH.cons rfl (fun K hK => ?_) (AllReadyH.nil)
      go_simp
      refine hK.out _ _ ⟨FA, FL⟩ (fun hS => ?_)
      clear hK K
      refine wpAnyH_done (by kernel_rfl) ?_ _
      go_wp2_with fail
      go_meet
      exact ⟨g9, rfl, by omega, F9, FL, FO, GB⟩
  case rest =>
    clear FA FO FL GB l1 l2 HL HP HO HA HB
    obtain ⟨g9, rfl, hg, F9, FL, FO, GB⟩ := hcut
    obtain ⟨hw, hU, hll, hd0, hd, hN⟩ := HM.out
    obtain ⟨hul, huh, e4⟩ := HV.out
    have q0 : wc.cell? ⟨g9, 0, none⟩ = some (.int .u64 (uh : Int)) := F9.cell 0
    have q1 : wc.cell? ⟨g9, 1, none⟩ = some (.int .u64 (ul : Int)) := F9.cell 1
    by_cases hdu : d ≤ uh
    · have hb : decide (d ≤ uh) = true := decide_eq_true hdu
      have hbig := scale_big hd0 hdu e4
      have hge := scaleN_ge (ah * 18446744073709551616 + al) m d true
      have hc : c = 131 ∧ zh = 0 ∧ zl = 0 := by
        rcases hN with ⟨_, e, h1, h2⟩ | ⟨h1, h2, h3, _⟩
        · exfalso
          rw [e] at hge
          have := Nat.le_trans hbig hge
          clear hbig hge e hw hU e4
          omega
        · exact ⟨h1, h2, h3⟩
      obtain ⟨rfl, rfl, rfl⟩ := hc
      have x0 : wc.cell? ⟨w.heap.size + 1, 0, none⟩ = some (.int .u64 0) := FO.cell 0
      have x1 : wc.cell? ⟨w.heap.size + 1, 1, none⟩ = some (.int .u64 0) := FO.cell 1
      have f0 := FO.frozen 0
      have f1 := FO.frozen 1
      have HK := Lib.hid (And.intro (FO.set2 (x := .int .u64 0) (y := .int .u64 0)) (below_pair (x := .int .u64 0) (y := .int .u64 0) GB (show w.heap.size ≤ w.heap.size + 1 by omega)))
      clear hw hU hll hd0 hd hN hul huh e4 hdu hbig hge HM HV F9 FL FO GB hg
      go_wp2
      exact bodyPost_ret (v := .tuple #[.agg #[.int .u64 0, .int .u64 0], .int .i64 131]) (results_row2 Try.results77 _ _ _ _ _ _ rfl HK.out.1 Try.underlying43 rfl (by kernel_rfl)) rfl ⟨rfl, HK.out.2⟩
    · have hb : decide (d ≤ uh) = false := decide_eq_false hdu
      have hud : uh < d := by omega
      obtain ⟨h, hh⟩ : ∃ h, U / d = h := ⟨_, rfl⟩
      obtain ⟨x, hx⟩ : ∃ x, U % d = x := ⟨_, rfl⟩
      have hxd : x < d := by rw [← hx]; exact Nat.mod_lt _ hd0
      obtain ⟨l, hl⟩ : ∃ l, (x * 18446744073709551616 + ll) / d = l := ⟨_, rfl⟩
      obtain ⟨r, hr⟩ : ∃ r, (x * 18446744073709551616 + ll) % d = r := ⟨_, rfl⟩
      have hhb : h < 18446744073709551616 := by
        have := word_lt (d := d) (lo := ul) hud hul
        rw [hU, hh] at this
        exact this
      have hlb : l < 18446744073709551616 := by rw [← hl]; exact word_lt hxd hll
      have HD1 := Lib.hid (fun u => div64_any uh ul d h x hul hd hud (by rw [hU]; exact hh) (by rw [hU]; exact hx) u)
      have HD2 := Lib.hid (fun u => div64_any x ll d l r hll hd hxd hl hr u)
      rw [hU, hh, hx, hl, hr] at hw
      have HR : Hid (∀ u, Calls Try.prog 103 #[.agg #[.int .u64 (h : Int), .int .u64 (l : Int)], .int .u64 (r : Int)] u (Ans (.tuple #[.agg #[.int .u64 (zh : Int), .int .u64 (zl : Int)], .int .i64 c]) u)) := by
        rcases Nat.eq_zero_or_pos r with h0 | h0
        · rw [scaleN_even true (by rw [hw.2]; exact h0), hw.1] at hN
          rcases hN with ⟨rfl, e, h1, h2⟩ | ⟨_, _, _, h4⟩
          · obtain rfl : h = zh := by omega
            obtain rfl : l = zl := by omega
            subst h0
            exact Lib.hid (fun u => round_none h l u)
          · omega
        · rw [scaleN_up (by rw [hw.2]; omega), hw.1] at hN
          exact Lib.hid (fun u => round_some h l r zh zl c hhb hlb h0 hN u)
      clear hw hU hll hd0 hd hN hul huh e4 hdu hud hh hx hxd hl hr hhb hlb HM HV
      go_wp2_with fail
      refine (HD1.out _).mono ?_
      rintro e w2 ⟨rfl, h2⟩
      replace FL := FL.below h2 FL.lt
      replace FO := FO.below h2 FO.lt
      replace GB := GB.trans (h2.mono GB.size)
      have y1 : w2.cell? ⟨gL, 1, none⟩ = some (.int .u64 (ll : Int)) := FL.cell 1
      clear h2 q0 q1 F9
      go_wp2_with fail
      refine (HD2.out _).mono ?_
      rintro e w3 ⟨rfl, h3⟩
      replace FO := FO.below h3 FO.lt
      replace GB := GB.trans (h3.mono GB.size)
      clear h3 y1 FL
      go_wp2_with fail
      refine (HR.out _).mono ?_
      rintro e w4 ⟨rfl, h4⟩
      replace FO := FO.below h4 FO.lt
      replace GB := GB.trans (h4.mono GB.size)
      have x0 : w4.cell? ⟨w.heap.size + 1, 0, none⟩ = some (.int .u64 0) := FO.cell 0
      have x1 : w4.cell? ⟨w.heap.size + 1, 1, none⟩ = some (.int .u64 0) := FO.cell 1
      have f0 := FO.frozen 0
      have f1 := FO.frozen 1
      have HK := Lib.hid (And.intro (FO.set2 (x := .int .u64 (zh : Int)) (y := .int .u64 (zl : Int))) (below_pair (x := .int .u64 (zh : Int)) (y := .int .u64 (zl : Int)) GB (show w.heap.size ≤ w.heap.size + 1 by omega)))
      clear h4 FO GB hg
      go_wp2
      exact bodyPost_ret (v := .tuple #[.agg #[.int .u64 (zh : Int), .int .u64 (zl : Int)], .int .i64 c]) (results_row2 Try.results77 _ _ _ _ _ _ rfl HK.out.1 Try.underlying43 rfl (by kernel_rfl)) rfl ⟨rfl, HK.out.2⟩

end Go.Proofs.Ytngbamoffjlodaa.Dw
