/-
  The number that bytes are, and the contracts of octet's closures and its walk. No statement is proved here.
-/
import Derived.Test.YtifclmmfnfppiaaOctRead
import Derived.StillTailTactics
namespace Go.Proofs.Ytifclmmfnfppiaa
open Go.RowKit

/-- the number of bytes, the highest first -/
def num (l : List UInt8) : Nat := l.foldl (fun a b => a * 256 + b.toNat) 0
theorem num_snoc (l : List UInt8) (x : UInt8) : num (l ++ [x]) = num l * 256 + x.toNat := by simp [num]
theorem num_lt (l : List UInt8) : num l < 256 ^ l.length := by
  obtain ⟨n, hn⟩ : ∃ n, n = l.length := ⟨_, rfl⟩
  induction n generalizing l with
  | zero =>
    obtain rfl := List.eq_nil_of_length_eq_zero hn.symm
    simp [num]
  | succ n ih =>
    have hne : l ≠ [] := by rintro rfl; simp at hn
    obtain ⟨r, x, rfl⟩ : ∃ r x, l = r ++ [x] := ⟨l.dropLast, l.getLast hne, (List.dropLast_concat_getLast hne).symm⟩
    have h := ih r (by simp at hn; omega)
    have hx := x.toNat_lt
    simp only [List.length_append, List.length_cons, List.length_nil, Nat.zero_add, Nat.pow_succ, num_snoc]
    omega

/-- what stands in the number's box behind k of n bytes -/
def part (l : List UInt8) (n k : Nat) : Nat := num (l.take k) * 256 ^ (n - k)

theorem part_zero (l : List UInt8) (n : Nat) : part l n 0 = 0 := by simp [part, num]
theorem part_all {l : List UInt8} {n : Nat} (h : l.length = n) : part l n n = num l := by
  subst h
  simp [part]
theorem pow_256 (m : Nat) : 256 ^ m = 2 ^ (8 * m) := by rw [show (256 : Nat) = 2 ^ 8 from rfl, ← Nat.pow_mul]
theorem part_succ {l : List UInt8} {n k : Nat} {x : UInt8} (hx : l[k]? = some x) (hk : k < n) :
    part l n (k + 1) = part l n k + x.toNat * 2 ^ (8 * (n - 1 - k)) ∧ part l n k = 2 ^ (8 * (n - 1 - k) + 8) * num (l.take k) := by
  have hlt := (List.getElem?_eq_some_iff.1 hx).1
  have ht : l.take (k + 1) = l.take k ++ [x] := by
    rw [List.take_add_one, hx]
    rfl
  have e : n - k = (n - 1 - k) + 1 := by omega
  have e2 : n - (k + 1) = n - 1 - k := by omega
  unfold part
  rw [ht, num_snoc, e2, e, Nat.pow_succ, pow_256, Nat.pow_add]
  constructor
  · rw [Nat.add_mul, Nat.mul_assoc, Nat.mul_comm 256]
  · rw [Nat.mul_comm]
theorem part_lt {l : List UInt8} {n k : Nat} (hl : k ≤ l.length) (hk : k ≤ n) (hn : n ≤ 8) : part l n k < 18446744073709551616 := by
  have h := num_lt (l.take k)
  rw [List.length_take, Nat.min_eq_left hl] at h
  have h2 : part l n k < 256 ^ k * 256 ^ (n - k) := by
    unfold part
    exact Nat.mul_lt_mul_of_pos_right h (Nat.pow_pos (by omega))
  rw [← Nat.pow_add, show k + (n - k) = n by omega] at h2
  have h3 : 256 ^ n ≤ 256 ^ 8 := Nat.pow_le_pow_right (by omega) hn
  have h4 : (256 : Nat) ^ 8 = 18446744073709551616 := by decide
  omega
theorem or_part {l : List UInt8} {n k : Nat} {x : UInt8} (hx : l[k]? = some x) (hk : k < n) (hn : n ≤ 8) :
    bits .or .u64 (part l n k : Int) (IntKind.u64.wrap ((x.toNat : Int) * 2 ^ (8 * (n - 1 - k)))) = (part l n (k + 1) : Int) := by
  have hlt := (List.getElem?_eq_some_iff.1 hx).1
  obtain ⟨h1, h2⟩ := part_succ hx hk
  have hb := part_lt (l := l) (n := n) (k := k + 1) (by omega) (by omega) hn
  have hx8 := x.toNat_lt
  have hy : x.toNat * 2 ^ (8 * (n - 1 - k)) < 2 ^ (8 * (n - 1 - k) + 8) := by
    rw [Nat.pow_add, Nat.mul_comm]
    exact Nat.mul_lt_mul_of_pos_left hx8 (Nat.two_pow_pos _)
  have e : ((x.toNat : Int) * 2 ^ (8 * (n - 1 - k))) = ((x.toNat * 2 ^ (8 * (n - 1 - k)) : Nat) : Int) := by simp
  have ew : IntKind.u64.wrap ((x.toNat * 2 ^ (8 * (n - 1 - k)) : Nat) : Int) = ((x.toNat * 2 ^ (8 * (n - 1 - k)) : Nat) : Int) := by
    rw [IntKind.wrap_u64]
    omega
  rw [e, ew, u64_or_nat _ _ (by omega) (by omega), h1]
  congr 1
  rw [h2]
  exact (Nat.two_pow_add_eq_or_of_lt hy _).symm

set_option maxHeartbeats 400000 in
theorem tell_num (A : Option Addr) (n c : Nat) (l : List UInt8) (pw px : Nat) (w : World) (hl : l.length = n) (hr : Reads w w.heap.size 1 A n (bs l)) (hn : n ≤ 8)
    (hw : w.cell? ⟨pw, 0, none⟩ = some (.int .i64 n)) (hx : Blk w px 23 #[.int .u64 0]) (hne : pw ≠ px) (hA : ∀ ad, 0 < n → A = some ad → ad.block ≠ px) :
    Calls Try.prog 40 #[.slice A n c, .pointer (some ⟨pw, 0, none⟩), .pointer (some ⟨px, 0, none⟩)] w fun e w' => e = .returned (.tuple #[]) ∧ Blk w' px 23 #[.int .u64 (num l)] ∧ w.grownBy w' (some px) := by
  have HL := Lib.hid hl
  clear hl
  go_enter Try.func40, Try.ntmps40
  go_wp2_with fail
  go_loopw [6] (fun i wr => ∃ k : Nat, k ≤ n ∧ i = .int .i64 k ∧ Blk wr px 23 #[.int .u64 (part l n k)] ∧ w.grownBy wr (some px)) (fun i _ => n - (intOf i).toNat)
  case atStart => exact ⟨0, Nat.zero_le _, rfl, by rw [part_zero]; exact hx, World.grownBy.refl w _⟩
  case round =>
    obtain ⟨k, hk, rfl, hX, hg⟩ := hrel
    have c0 := hX.cell 0
    have f0 := hX.frozen 0
    have cw := hg.cell hw (by simpa using hne)
    by_cases hlt : k < n
    · obtain ⟨ad, v, rfl, hab, hx, hcell⟩ := hr.at_ hlt
      have hc' := hg.cell hcell (by rw [block_of_add]; simpa using hA ad (by omega) rfl)
      obtain ⟨x, hlx, rfl⟩ := bs_at hx
      have HX := Lib.hid hlx
      have hx8 : (x.toNat : Int) ≤ 255 := by have := x.toNat_lt; omega
      have hP := or_part hlx hlt hn
      clear hx hlx
      go_wp2_with fail
      refine wp_region_still_tail 11 (by kernel_rfl) (by kernel_rfl) ?_
      simp only [List.take_succ_cons, List.take_zero, List.drop_succ_cons, List.drop_zero]
      repeat still_step
      still_call ((shift_any _ _ _ (by omega) (by omega) (by omega)).mono fun _ _ ⟨he, hw⟩ => ⟨he, hw.symm⟩)
      repeat still_step
      refine wpStill_nil ?_
      change wpList _ _ _ _ _ wr.drew
      go_wp2
      go_roundw
      case rel =>
        refine ⟨k + 1, by omega, by go_num, ?_, ?_⟩
        · have := hX.set_ 0 (.int .u64 (part l n (k + 1)))
          exact this.drew
        · exact only_drew (only_setCell hg (.inl rfl) _)
      case measure => simp [intOf]; omega
    · obtain rfl : k = n := by omega
      have e : part l k k = num l := part_all HL.out
      rw [e] at hX
      clear e c0
      go_wp2
      go_end0
      exact ⟨rfl, hX, hg⟩

end Go.Proofs.Ytifclmmfnfppiaa
