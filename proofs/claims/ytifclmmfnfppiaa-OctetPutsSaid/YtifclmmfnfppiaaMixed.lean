/-
  The contracts of the statements' Mixed numbers: width, put and reads. No statement is proved here.
-/
import Derived.Test.YtifclmmfnfppiaaOctWakes
namespace Go.Proofs.Ytifclmmfnfppiaa
open Go.RowKit

/-- in how many bytes a Mixed number is put -/
def wN (z : Int) : Nat := 2 ^ ((z % 18446744073709551616 % 3).toNat + 1)
theorem wN_cases (z : Int) : (wN z = 2 ∧ z % 18446744073709551616 % 3 = 0) ∨ (wN z = 4 ∧ z % 18446744073709551616 % 3 = 1) ∨ (wN z = 8 ∧ z % 18446744073709551616 % 3 = 2) := by
  have h : z % 18446744073709551616 % 3 = 0 ∨ z % 18446744073709551616 % 3 = 1 ∨ z % 18446744073709551616 % 3 = 2 := by omega
  unfold wN
  rcases h with h | h | h <;> rw [h] <;> simp
theorem tmod3 (z : Int) : (IntKind.u64.wrap z).tmod 3 = z % 18446744073709551616 % 3 := by
  rw [IntKind.wrap_u64]
  exact Int.tmod_eq_emod_of_nonneg (by omega)

set_option maxHeartbeats 400000 in
theorem width_any (x z : Int) (k : Int) (w : World) (hk : (wN z : Int) = k) :
    Calls Try.prog 29 #[.agg #[.int .u64 x, .int .i64 z]] w fun e w' => e = .returned (.int .i64 k) ∧ Below w.heap.size w w' := by
  have ht := tmod3 z
  rcases wN_cases z with ⟨h1, h2⟩ | ⟨h1, h2⟩ | ⟨h1, h2⟩
  all_goals
    rw [h2] at ht
    rw [h1] at hk
    subst hk
    clear h1 h2
    go_enter Try.func29, Try.ntmps29
    go_wp2
    go_ret
    exact ⟨rfl, (Below.refl _ _).alloc (Nat.le_refl _) _⟩

theorem beB_mod (x wd k : Nat) (h : k < wd) : beB (x % 2 ^ (8 * wd)) wd k = beB x wd k := by
  apply UInt8.toNat_inj.1
  rw [beB_toNat, beB_toNat]
  have e : 8 * wd = 8 * (wd - 1 - k) + (8 + 8 * k) := by omega
  rw [e, Nat.pow_add, Nat.mod_mul_right_div_self, Nat.pow_add]
  exact Nat.mod_mul_right_mod _ _ _
theorem be_mod (x wd : Nat) : be (x % 2 ^ (8 * wd)) wd = be x wd := by
  unfold be
  apply List.map_congr_left
  intro k hk
  exact beB_mod x wd k (List.mem_range.1 hk)
theorem num_be_take (x wd : Nat) : ∀ k, k ≤ wd → num ((be x wd).take k) = x / 256 ^ (wd - k) % 256 ^ k
  | 0, _ => by simp [num, Nat.mod_one]
  | k + 1, h => by
    have ih := num_be_take x wd k (by omega)
    rw [be_take_succ x wd k (by omega), num_snoc, ih, beB_toNat, ← pow_256]
    have e : wd - k = (wd - 1 - k) + 1 := by omega
    have e2 : wd - (k + 1) = wd - 1 - k := by omega
    rw [e, e2, Nat.pow_succ, ← Nat.div_div_eq_div_mul, Nat.pow_succ, Nat.mul_comm (256 ^ k) 256, Nat.mod_mul]
    omega
theorem num_be (x wd : Nat) : num (be x wd) = x % 256 ^ wd := by
  have h := num_be_take x wd wd (Nat.le_refl _)
  rw [List.take_of_length_le (by rw [length_be]; omega)] at h
  simpa using h


set_option maxHeartbeats 1000000 in
theorem mput_any (x : Nat) (z : Int) (A : Option Addr) (n c : Nat) (l : List UInt8) (w : World) (hx : (x : Int) ≤ 18446744073709551615) (hl : l.length = n) (hr : Reads w w.heap.size 1 A n (bs l)) (hn : n ≤ 100000) :
    Calls Try.prog 28 #[.agg #[.int .u64 x, .int .i64 z], .slice A n c] w (Gives w (n + wN z) (l ++ be x (wN z))) := by
  rcases wN_cases z with ⟨h1, _⟩ | ⟨h1, _⟩ | ⟨h1, _⟩
  · have hw : ∀ u, Calls Try.prog 29 #[.agg #[.int .u64 x, .int .i64 z]] u fun e w' => e = .returned (.int .i64 2) ∧ Below u.heap.size u w' := fun u => width_any x z 2 u (by rw [h1]; rfl)
    rw [h1]
    have hp : ∀ u, Below w.heap.size w u → Calls Try.prog 10 #[.slice A n c, .int .u16 ((x : Int) % 65536)] u (Gives u (n + 2) (l ++ be x 2)) := fun u hu => by
      have e : ((x : Int) % 65536) = ((x % 2 ^ (8 * 2) : Nat) : Int) := by simp
      rw [e, ← be_mod x 2]
      exact put16_any A n c l (x % 2 ^ (8 * 2)) u hl ((hr.below hu).more hu.size) hn (by omega)
    have HW := Lib.hid hw
    have HP := Lib.hid hp
    clear hw hp hl hr h1
    go_enter Try.func28, Try.ntmps28
    go_wp2_with fail
    refine (HW.out _).mono ?_
    rintro e w1 ⟨rfl, hB1⟩
    have hb : Below w.heap.size w w1 := ((Below.refl _ _).alloc (Nat.le_refl _) _).trans (hB1.mono (by simp))
    have c0 : w1.cell? ⟨w.heap.size, 0, none⟩ = some (.int .u64 x) := (hB1.cell (p := ⟨w.heap.size, 0, none⟩) (by simp)).trans (by rw [World.cell?_alloc_at _ _ _ _ rfl]; rfl)
    go_wp2_with fail
    refine (HP.out w1 hb).mono ?_
    rintro e w2 ⟨A2, c2, rfl, hO, hB2⟩
    go_wp2
    go_ret
    exact ⟨A2, c2, rfl, hO.mono hb.size, hb.trans (hB2.mono hb.size)⟩
  · have hw : ∀ u, Calls Try.prog 29 #[.agg #[.int .u64 x, .int .i64 z]] u fun e w' => e = .returned (.int .i64 4) ∧ Below u.heap.size u w' := fun u => width_any x z 4 u (by rw [h1]; rfl)
    rw [h1]
    have hp : ∀ u, Below w.heap.size w u → Calls Try.prog 11 #[.slice A n c, .int .u32 ((x : Int) % 4294967296)] u (Gives u (n + 4) (l ++ be x 4)) := fun u hu => by
      have e : ((x : Int) % 4294967296) = ((x % 2 ^ (8 * 4) : Nat) : Int) := by simp
      rw [e, ← be_mod x 4]
      exact put32_any A n c l (x % 2 ^ (8 * 4)) u hl ((hr.below hu).more hu.size) hn (by omega)
    have HW := Lib.hid hw
    have HP := Lib.hid hp
    clear hw hp hl hr h1
    go_enter Try.func28, Try.ntmps28
    go_wp2_with fail
    refine (HW.out _).mono ?_
    rintro e w1 ⟨rfl, hB1⟩
    have hb : Below w.heap.size w w1 := ((Below.refl _ _).alloc (Nat.le_refl _) _).trans (hB1.mono (by simp))
    have c0 : w1.cell? ⟨w.heap.size, 0, none⟩ = some (.int .u64 x) := (hB1.cell (p := ⟨w.heap.size, 0, none⟩) (by simp)).trans (by rw [World.cell?_alloc_at _ _ _ _ rfl]; rfl)
    go_wp2_with fail
    refine (HP.out w1 hb).mono ?_
    rintro e w2 ⟨A2, c2, rfl, hO, hB2⟩
    go_wp2
    go_ret
    exact ⟨A2, c2, rfl, hO.mono hb.size, hb.trans (hB2.mono hb.size)⟩
  · have hw : ∀ u, Calls Try.prog 29 #[.agg #[.int .u64 x, .int .i64 z]] u fun e w' => e = .returned (.int .i64 8) ∧ Below u.heap.size u w' := fun u => width_any x z 8 u (by rw [h1]; rfl)
    rw [h1]
    have hp : ∀ u, Below w.heap.size w u → Calls Try.prog 12 #[.slice A n c, .int .u64 (x : Int)] u (Gives u (n + 8) (l ++ be x 8)) := fun u hu =>
      put64_any A n c l x u hl ((hr.below hu).more hu.size) hn (by omega)
    have HW := Lib.hid hw
    have HP := Lib.hid hp
    clear hw hp hl hr h1
    go_enter Try.func28, Try.ntmps28
    go_wp2_with fail
    refine (HW.out _).mono ?_
    rintro e w1 ⟨rfl, hB1⟩
    have hb : Below w.heap.size w w1 := ((Below.refl _ _).alloc (Nat.le_refl _) _).trans (hB1.mono (by simp))
    have c0 : w1.cell? ⟨w.heap.size, 0, none⟩ = some (.int .u64 x) := (hB1.cell (p := ⟨w.heap.size, 0, none⟩) (by simp)).trans (by rw [World.cell?_alloc_at _ _ _ _ rfl]; rfl)
    go_wp2_with fail
    refine (HP.out w1 hb).mono ?_
    rintro e w2 ⟨A2, c2, rfl, hO, hB2⟩
    go_wp2
    go_ret
    exact ⟨A2, c2, rfl, hO.mono hb.size, hb.trans (hB2.mono hb.size)⟩

end Go.Proofs.Ytifclmmfnfppiaa
