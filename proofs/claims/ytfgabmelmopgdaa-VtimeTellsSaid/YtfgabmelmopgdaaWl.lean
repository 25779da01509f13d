/-
  The contracts of the library's bit lengths. No statement is proved here.
-/
import Derived.Test.YtfgabmelmopgdaaWa
import Derived.Lib.Strings
import Derived.Lib.Slices
import Derived.Lib.Small
import Derived.Lib.Walk
import Derived.Lib.BitFns
namespace Go.Proofs.Ytfgabmelmopgdaa
open Go.RowKit

/-- n bits are just enough for x -/
def Fits (x n : Nat) : Prop := x < 2 ^ n ∧ (0 < x → 2 ^ n ≤ 2 * x)
set_option maxRecDepth 100000 in
theorem fits8 : ∀ b : Fin 256, Fits b.val (Lib.bitLen b.val) := by unfold Fits; decide +kernel
set_option maxRecDepth 100000 in
theorem fits_byte {b : Nat} (h : b < 256) : Fits b (Lib.bitLen b) := fits8 ⟨b, h⟩
set_option maxRecDepth 100000 in
theorem Fits.shift {x m : Nat} (k : Nat) (h : Fits (x / 2 ^ k) m) (h0 : 0 < x / 2 ^ k) : Fits x (k + m) := by
  obtain ⟨h1, h2⟩ := h
  have h3 := h2 h0
  have hk := Nat.two_pow_pos k
  have hd := Nat.div_add_mod x (2 ^ k)
  have hm := Nat.mod_lt x hk
  refine ⟨?_, fun _ => ?_⟩
  · rw [Nat.pow_add]
    calc x < 2 ^ k * (x / 2 ^ k) + 2 ^ k := by omega
      _ = 2 ^ k * (x / 2 ^ k + 1) := by rw [Nat.mul_add, Nat.mul_one]
      _ ≤ 2 ^ k * 2 ^ m := Nat.mul_le_mul_left _ h1
  · rw [Nat.pow_add]
    calc 2 ^ k * 2 ^ m ≤ 2 ^ k * (2 * (x / 2 ^ k)) := Nat.mul_le_mul_left _ h3
      _ = 2 * (2 ^ k * (x / 2 ^ k)) := Nat.mul_left_comm _ _ _
      _ ≤ 2 * x := by omega
def LenSaid (x : Nat) (w : World) (e : Ending) (w' : World) : Prop := ∃ n : Nat, n ≤ 64 ∧ Fits x n ∧ e = .returned (.int .i64 (n : Int)) ∧ w = w'
set_option maxRecDepth 100000 in
theorem tab_size : Lib.len8tab.size = 256 := by decide +kernel
set_option maxRecDepth 100000 in
theorem tab_len {n : Nat} (h : n < Lib.len8tab.size) : (Lib.len8tab[n]'h).toNat = Lib.bitLen n := by
  have h2 : n < 256 := by rw [← tab_size]; exact h
  have := Lib.len8_of (n : Int) (by omega) (by omega)
  rw [Int.toNat_natCast] at this
  unfold Lib.len8 at this
  rw [Int.toNat_natCast, getElem?_pos Lib.len8tab n h] at this
  have h3 : ((Lib.len8tab[n]'h).toNat : Int) = (Lib.bitLen n : Int) := by simpa using this
  omega
set_option maxRecDepth 100000 in
theorem len_case {x y : Int} (k : Nat) (hk : k ≤ 56) (hy : y.toNat = x.toNat / 2 ^ k) (hb : y < 256) (hp : 0 < y) (h : y.toNat < Lib.len8tab.size) {w w' : World} {e : Ending}
    (he : e = .returned (.int .i64 (wrap64 (k + wrap64 ((Lib.len8tab[y.toNat]'h).toNat : Int))))) (hw : w = w') : LenSaid x.toNat w e w' := by
  have hl : Lib.bitLen y.toNat ≤ 8 := Lib.bitLen_le8' y (by omega) (by omega)
  have hf := (fits_byte (b := y.toNat) (by omega))
  rw [hy] at hf
  refine ⟨k + Lib.bitLen y.toNat, by omega, ?_, ?_, hw⟩
  · rw [hy]; exact hf.shift k (by rw [← hy]; omega)
  · rw [he, tab_len h]
    congr 2
    unfold wrap64
    omega
set_option maxRecDepth 100000 in
theorem len_case0 {x : Int} (hb : x < 256) (hp : 0 < x) (h : x.toNat < Lib.len8tab.size) {w w' : World} {e : Ending}
    (he : e = .returned (.int .i64 (wrap64 (wrap64 ((Lib.len8tab[x.toNat]'h).toNat : Int))))) (hw : w = w') : LenSaid x.toNat w e w' := by
  have hl : Lib.bitLen x.toNat ≤ 8 := Lib.bitLen_le8' x (by omega) (by omega)
  refine ⟨Lib.bitLen x.toNat, by omega, fits_byte (by omega), ?_, hw⟩
  rw [he, tab_len h]
  congr 2
  unfold wrap64
  omega

set_option maxHeartbeats 4000000 in
set_option maxRecDepth 100000 in
theorem len64_int (x : Int) (h0 : 0 ≤ x) (h1 : x ≤ 18446744073709551615) (hp : 0 < x.toNat) (w : World) : Calls Try.prog 107 #[.int .u64 x] w (LenSaid x.toNat w) := by
  have HP := Lib.hid hp
  have hsz := tab_size
  clear hp
  go_enter Try.func107, Try.ntmps107
  go_wp2
  all_goals
    go_ret
    first
      | exact len_case 56 (by omega) (y := x / 4294967296 / 65536 / 256) (by omega) (by omega) (by omega) _ rfl rfl
      | exact len_case 48 (by omega) (y := x / 4294967296 / 65536) (by omega) (by omega) (by omega) _ rfl rfl
      | exact len_case 40 (by omega) (y := x / 4294967296 / 256) (by omega) (by omega) (by omega) _ rfl rfl
      | exact len_case 32 (by omega) (y := x / 4294967296) (by omega) (by omega) (by omega) _ rfl rfl
      | exact len_case 24 (by omega) (y := x / 65536 / 256) (by omega) (by omega) (by omega) _ rfl rfl
      | exact len_case 16 (by omega) (y := x / 65536) (by omega) (by omega) (by omega) _ rfl rfl
      | exact len_case 8 (by omega) (y := x / 256) (by omega) (by omega) (by omega) _ rfl rfl
      | exact len_case0 (by omega) (by have := HP.out; omega) _ rfl rfl

def LeadSaid (y : Nat) (w : World) (e : Ending) (w' : World) : Prop := ∃ s : Nat, s ≤ 63 ∧ 9223372036854775808 ≤ y * 2 ^ s ∧ y * 2 ^ s < 18446744073709551616 ∧ e = .returned (.int .i64 (s : Int)) ∧ w = w'
set_option maxRecDepth 100000 in
theorem lead_of {y n : Nat} (hn : n ≤ 64) (h0 : 0 < y) (h : Fits y n) : 64 - n ≤ 63 ∧ 9223372036854775808 ≤ y * 2 ^ (64 - n) ∧ y * 2 ^ (64 - n) < 18446744073709551616 := by
  obtain ⟨h1, h2⟩ := h
  have h3 := h2 h0
  have hp : 2 ^ n * 2 ^ (64 - n) = 18446744073709551616 := by rw [← Nat.pow_add, show n + (64 - n) = 64 by omega]
  have hk := Nat.two_pow_pos (64 - n)
  have hn1 : 1 ≤ n := by
    rcases Nat.eq_zero_or_pos n with h | h
    · subst h; simp at h1; omega
    · exact h
  refine ⟨by omega, ?_, ?_⟩
  · have := Nat.mul_le_mul_right (2 ^ (64 - n)) h3
    rw [hp, Nat.mul_assoc] at this
    omega
  · have := Nat.mul_lt_mul_of_pos_right h1 hk
    rw [hp] at this
    exact this
set_option maxRecDepth 100000 in
theorem lead_any (y : Nat) (hy : y < 18446744073709551616) (h0 : 0 < y) (w : World) : Calls Try.prog 104 #[.int .u64 (y : Int)] w (LeadSaid y w) := by
  have HL := Lib.hid (fun u => len64_int (y : Int) (by omega) (by omega) (by omega) u)
  rw [Int.toNat_natCast] at HL
  have H0 := Lib.hid h0
  clear hy h0
  go_enter Try.func104, Try.ntmps104
  go_wp2_with fail
  refine (HL.out _).mono ?_
  rintro e w' ⟨n, hn, hf, rfl, rfl⟩
  have HF := Lib.hid (lead_of hn H0.out hf)
  have hs : IntKind.i64.wrap (64 - (n : Int)) = ((64 - n : Nat) : Int) := by rw [IntKind.wrap_i64]; omega
  clear hf
  go_wp2
  go_ret
  exact ⟨64 - n, HF.out.1, HF.out.2.1, HF.out.2.2, by simp, rfl⟩

end Go.Proofs.Ytfgabmelmopgdaa
