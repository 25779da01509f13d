/-
  OctetLeads: of whatever Mixed number as many noughts stand ahead of its bytes as powers of 256 are greater than it. No condition.
-/
import Derived.Test.YtifclmmfnfppiaaMixed
import Derived.Test.YtifclmmfnfppiaaMixedArg
namespace Go.Proofs.Ytifclmmfnfppiaa.octetLeads
open Go.ChangeShapes Go.WideShapes Go.ChangeAt Go.RowKit

/-- how many of the first k powers of 256 are greater -/
def cntG (x : Nat) : Nat → Nat
  | 0 => 0
  | k + 1 => cntG x k + if x < 256 ^ k then 1 else 0
theorem cntG_le (x k : Nat) : cntG x k ≤ k := by
  induction k with
  | zero => simp [cntG]
  | succ k ih => simp only [cntG]; split <;> omega
theorem cntG_none (x k : Nat) (h : 256 ^ k ≤ x * 256) : cntG x k = 0 := by
  induction k with
  | zero => rfl
  | succ k ih =>
    rw [Nat.pow_succ] at h
    have h2 : 256 ^ k ≤ x := by omega
    simp only [cntG]
    rw [if_neg (by omega), ih (by omega)]
theorem be_cons (x wd : Nat) : be x (wd + 1) = beB x (wd + 1) 0 :: be x wd := by
  unfold be
  rw [List.range_succ_eq_map, List.map_cons, List.map_map]
  congr 1
  apply List.map_congr_left
  intro k hk
  simp only [Function.comp, beB]
  congr 3
  omega
theorem lead_cons (y : UInt8) (l : List UInt8) : lead (y :: l) = if y = 0 then lead l + 1 else 0 := by
  unfold lead
  rw [List.takeWhile_cons]
  by_cases h : y = 0 <;> simp [h]
theorem lead_be (x wd : Nat) : lead (be x wd) = cntG (x % 256 ^ wd) wd := by
  induction wd with
  | zero => simp [be, lead, cntG]
  | succ wd ih =>
    rw [be_cons, lead_cons, ih]
    have hb : (beB x (wd + 1) 0).toNat = x / 256 ^ wd % 256 := by
      rw [beB_toNat, pow_256]
      simp
    have hm : x % 256 ^ (wd + 1) = x % 256 ^ wd + 256 ^ wd * (x / 256 ^ wd % 256) := by rw [Nat.pow_succ, Nat.mod_mul]
    have hp : 0 < 256 ^ wd := Nat.pow_pos (by omega)
    have hlt : x % 256 ^ wd < 256 ^ wd := Nat.mod_lt _ hp
    by_cases h0 : x / 256 ^ wd % 256 = 0
    · have : beB x (wd + 1) 0 = 0 := UInt8.toNat_inj.1 (by rw [hb, h0]; rfl)
      rw [if_pos this, hm, h0, Nat.mul_zero, Nat.add_zero]
      simp only [cntG, Nat.add_zero]
      rw [if_pos hlt]
    · have : beB x (wd + 1) 0 ≠ 0 := fun e => h0 (by rw [← hb, e]; rfl)
      rw [if_neg this]
      have h1 : 256 ^ wd * 1 ≤ 256 ^ wd * (x / 256 ^ wd % 256) := Nat.mul_le_mul_left _ (by omega)
      refine (cntG_none _ _ ?_).symm
      rw [hm, Nat.pow_succ]
      generalize 256 ^ wd * (x / 256 ^ wd % 256) = b at h1 ⊢
      generalize 256 ^ wd = a at h1 ⊢
      generalize x % a = c
      omega

theorem wrap_pow {k : Nat} (hk : k < 8) : IntKind.u64.wrap (2 ^ (8 * k)) = ((256 ^ k : Nat) : Int) := by
  have h : 256 ^ k ≤ 256 ^ 7 := Nat.pow_le_pow_right (by omega) (by omega)
  have h2 : (256 : Nat) ^ 7 = 72057594037927936 := by decide
  have e : (2 : Int) ^ (8 * k) = ((256 ^ k : Nat) : Int) := by rw [pow_256]; simp
  rw [e, IntKind.wrap_u64]
  generalize 256 ^ k = a at h
  omega
theorem cnt_yes {X k : Nat} (hk : k < 8) (h : (X : Int) < IntKind.u64.wrap (2 ^ (8 * k))) : cntG X (k + 1) = cntG X k + 1 := by
  rw [wrap_pow hk] at h
  simp only [cntG]
  rw [if_pos (by omega)]
theorem cnt_no {X k : Nat} (hk : k < 8) (h : IntKind.u64.wrap (2 ^ (8 * k)) ≤ (X : Int)) : cntG X (k + 1) = cntG X k := by
  rw [wrap_pow hk] at h
  simp only [cntG]
  rw [if_neg (by omega), Nat.add_zero]

set_option maxHeartbeats 2000000 in
theorem walk (x : Nat) (z : Int) (w : World) (hx : (x : Int) ≤ 18446744073709551615) :
    Calls Try.prog 8 #[.agg #[.int .u64 x, .int .i64 z]] w fun e w' => e = .returned (.bool true) ∧ Below w.heap.size w w' := by
  rcases wN_cases z with ⟨h1, _⟩ | ⟨h1, _⟩ | ⟨h1, _⟩
  · have hw : ∀ u, Calls Try.prog 29 #[.agg #[.int .u64 x, .int .i64 z]] u fun e w' => e = .returned (.int .i64 2) ∧ Below u.heap.size u w' := fun u => width_any x z 2 u (by rw [h1]; rfl)
    have hp : ∀ u, Calls Try.prog 28 #[.agg #[.int .u64 x, .int .i64 z], .slice none 0 0] u (Gives u 2 (be x 2)) := fun u => by
      have := mput_any x z none 0 0 [] u hx rfl Reads.none_ (by omega)
      rw [h1] at this
      simpa using this
    have HW := Lib.hid hw
    have HP := Lib.hid hp
    clear hw hp h1
    obtain ⟨X, hX⟩ : ∃ X, X = x % 256 ^ 2 := ⟨_, rfl⟩
    have hand : bits .and .u64 (x : Int) 65535 = (X : Int) := by
      have e : (65535 : Int) = ((65535 : Nat) : Int) := rfl
      rw [e, u64_and_nat x 65535 (by omega) (by omega), hX]
      exact congrArg _ (Nat.and_two_pow_sub_one_eq_mod x 16)
    have HX := Lib.hid hX
    clear hX
    go_enter Try.func8, Try.ntmps8
    go_wp2_with fail
    refine (wakes_any _).mono ?_
    rintro e w1 ⟨rfl, hB1⟩
    have hb1 : Below w.heap.size w w1 := ((Below.refl _ _).alloc (Nat.le_refl _) _).trans (hB1.mono (by simp))
    have c0 : w1.cell? ⟨w.heap.size, 0, none⟩ = some (.int .u64 x) := (hB1.cell (p := ⟨w.heap.size, 0, none⟩) (by simp)).trans (by rw [World.cell?_alloc_at _ _ _ _ rfl]; rfl)
    have c1 : w1.cell? ⟨w.heap.size, 1, none⟩ = some (.int .i64 z) := (hB1.cell (p := ⟨w.heap.size, 1, none⟩) (by simp)).trans (by rw [World.cell?_alloc_at _ _ _ _ rfl]; rfl)
    go_wp2_with fail
    refine (HP.out _).mono ?_
    rintro e w2 ⟨A2, n2, rfl, hO, hB2⟩
    have hb2 : Below w.heap.size w w2 := hb1.trans (hB2.mono hb1.size)
    have hlt : w.heap.size < w1.heap.size := World.block_lt_of_cell? w1 ⟨w.heap.size, 0, none⟩ c0
    have e0 := (hB2.cell (p := ⟨w.heap.size, 0, none⟩) hlt).trans c0
    have e1 := (hB2.cell (p := ⟨w.heap.size, 1, none⟩) hlt).trans c1
    have hR2 := Lib.hid hO.reads
    have hlt2 : w.heap.size < w2.heap.size := Nat.lt_of_lt_of_le hlt hB2.size
    clear c0 c1 hO hB2 hb1 hB1
    go_wp2_with fail
    refine (HW.out _).mono ?_
    rintro e w3 ⟨rfl, hB3⟩
    have f0 := (hB3.cell (p := ⟨w.heap.size, 0, none⟩) hlt2).trans e0
    have f1 := (hB3.cell (p := ⟨w.heap.size, 1, none⟩) hlt2).trans e1
    have hlt3 : w.heap.size < w3.heap.size := Nat.lt_of_lt_of_le hlt2 hB3.size
    go_wp2_with fail
    refine (HW.out _).mono ?_
    rintro e w4 ⟨rfl, hB4⟩
    have g0 := (hB4.cell (p := ⟨w.heap.size, 0, none⟩) hlt3).trans f0
    have g1 := (hB4.cell (p := ⟨w.heap.size, 1, none⟩) hlt3).trans f1
    have hlt4 : w.heap.size < w4.heap.size := Nat.lt_of_lt_of_le hlt3 hB4.size
    go_wp2_with fail
    refine (HW.out _).mono ?_
    rintro e w5 ⟨rfl, hB5⟩
    go_wp2_with fail
    go_loop [5, 25] (fun g i => ∃ k : Nat, k ≤ 2 ∧ i = .int .i64 k ∧ g = .int .i64 (cntG X k)) (fun _ i => 2 - (intOf i).toNat)
    case atStart => exact ⟨0, by omega, rfl, rfl⟩
    case round =>
      obtain ⟨k, hk, rfl, rfl⟩ := hrel
      by_cases hlt : k < 2
      · have hcl := cntG_le X k
        go_wp2
        · have hgt : (X : Int) < IntKind.u64.wrap (2 ^ (8 * k)) := by assumption
          have hs := cnt_yes (by omega) hgt
          go_round
          case rel => exact ⟨k + 1, by omega, by go_num, by rw [hs]; go_num⟩
          case measure => simp [intOf]; omega
        · have hgt : IntKind.u64.wrap (2 ^ (8 * k)) ≤ (X : Int) := by assumption
          have hs := cnt_no (by omega) hgt
          go_round
          case rel => exact ⟨k + 1, by omega, by go_num, by rw [hs]⟩
          case measure => simp [intOf]; omega
      · obtain rfl : k = 2 := by omega
        have hL : lead (be x 2) = cntG X 2 := by rw [lead_be, HX.out]
        have hb5 := hb2.trans (((hB3.mono (Nat.le_of_lt hlt2)).trans (hB4.mono (Nat.le_of_lt hlt3))).trans (hB5.mono (Nat.le_of_lt hlt4)))
        have hR5 : Reads w5 w5.heap.size 1 A2 2 (bs (be x 2)) := (((hR2.out.below hB3).below (hB4.mono hB3.size)).below (hB5.mono (Nat.le_trans hB3.size hB4.size))).more (Nat.le_trans hB3.size (Nat.le_trans hB4.size hB5.size))
        have HLd := lead_any A2 2 n2 (be x 2) w5 (length_be _ _) hR5 (by omega)
        rw [hL] at HLd
        have HLh := Lib.hid HLd
        clear HLd hL hR5
        have hcl := cntG_le X 2
        go_wp2_with fail
        refine HLh.out.mono ?_
        rintro e w' ⟨rfl, rfl⟩
        go_wp2
        go_ret
        exact ⟨rfl, hb5⟩
  · have hw : ∀ u, Calls Try.prog 29 #[.agg #[.int .u64 x, .int .i64 z]] u fun e w' => e = .returned (.int .i64 4) ∧ Below u.heap.size u w' := fun u => width_any x z 4 u (by rw [h1]; rfl)
    have hp : ∀ u, Calls Try.prog 28 #[.agg #[.int .u64 x, .int .i64 z], .slice none 0 0] u (Gives u 4 (be x 4)) := fun u => by
      have := mput_any x z none 0 0 [] u hx rfl Reads.none_ (by omega)
      rw [h1] at this
      simpa using this
    have HW := Lib.hid hw
    have HP := Lib.hid hp
    clear hw hp h1
    obtain ⟨X, hX⟩ : ∃ X, X = x % 256 ^ 4 := ⟨_, rfl⟩
    have hand : bits .and .u64 (x : Int) 4294967295 = (X : Int) := by
      have e : (4294967295 : Int) = ((4294967295 : Nat) : Int) := rfl
      rw [e, u64_and_nat x 4294967295 (by omega) (by omega), hX]
      exact congrArg _ (Nat.and_two_pow_sub_one_eq_mod x 32)
    have HX := Lib.hid hX
    clear hX
    go_enter Try.func8, Try.ntmps8
    go_wp2_with fail
    refine (wakes_any _).mono ?_
    rintro e w1 ⟨rfl, hB1⟩
    have hb1 : Below w.heap.size w w1 := ((Below.refl _ _).alloc (Nat.le_refl _) _).trans (hB1.mono (by simp))
    have c0 : w1.cell? ⟨w.heap.size, 0, none⟩ = some (.int .u64 x) := (hB1.cell (p := ⟨w.heap.size, 0, none⟩) (by simp)).trans (by rw [World.cell?_alloc_at _ _ _ _ rfl]; rfl)
    have c1 : w1.cell? ⟨w.heap.size, 1, none⟩ = some (.int .i64 z) := (hB1.cell (p := ⟨w.heap.size, 1, none⟩) (by simp)).trans (by rw [World.cell?_alloc_at _ _ _ _ rfl]; rfl)
    go_wp2_with fail
    refine (HP.out _).mono ?_
    rintro e w2 ⟨A2, n2, rfl, hO, hB2⟩
    have hb2 : Below w.heap.size w w2 := hb1.trans (hB2.mono hb1.size)
    have hlt : w.heap.size < w1.heap.size := World.block_lt_of_cell? w1 ⟨w.heap.size, 0, none⟩ c0
    have e0 := (hB2.cell (p := ⟨w.heap.size, 0, none⟩) hlt).trans c0
    have e1 := (hB2.cell (p := ⟨w.heap.size, 1, none⟩) hlt).trans c1
    have hR2 := Lib.hid hO.reads
    have hlt2 : w.heap.size < w2.heap.size := Nat.lt_of_lt_of_le hlt hB2.size
    clear c0 c1 hO hB2 hb1 hB1
    go_wp2_with fail
    refine (HW.out _).mono ?_
    rintro e w3 ⟨rfl, hB3⟩
    have f0 := (hB3.cell (p := ⟨w.heap.size, 0, none⟩) hlt2).trans e0
    have f1 := (hB3.cell (p := ⟨w.heap.size, 1, none⟩) hlt2).trans e1
    have hlt3 : w.heap.size < w3.heap.size := Nat.lt_of_lt_of_le hlt2 hB3.size
    go_wp2_with fail
    refine (HW.out _).mono ?_
    rintro e w4 ⟨rfl, hB4⟩
    have g0 := (hB4.cell (p := ⟨w.heap.size, 0, none⟩) hlt3).trans f0
    have g1 := (hB4.cell (p := ⟨w.heap.size, 1, none⟩) hlt3).trans f1
    have hlt4 : w.heap.size < w4.heap.size := Nat.lt_of_lt_of_le hlt3 hB4.size
    go_wp2_with fail
    refine (HW.out _).mono ?_
    rintro e w5 ⟨rfl, hB5⟩
    go_wp2_with fail
    go_loop [5, 25] (fun g i => ∃ k : Nat, k ≤ 4 ∧ i = .int .i64 k ∧ g = .int .i64 (cntG X k)) (fun _ i => 4 - (intOf i).toNat)
    case atStart => exact ⟨0, by omega, rfl, rfl⟩
    case round =>
      obtain ⟨k, hk, rfl, rfl⟩ := hrel
      by_cases hlt : k < 4
      · have hcl := cntG_le X k
        go_wp2
        · have hgt : (X : Int) < IntKind.u64.wrap (2 ^ (8 * k)) := by assumption
          have hs := cnt_yes (by omega) hgt
          go_round
          case rel => exact ⟨k + 1, by omega, by go_num, by rw [hs]; go_num⟩
          case measure => simp [intOf]; omega
        · have hgt : IntKind.u64.wrap (2 ^ (8 * k)) ≤ (X : Int) := by assumption
          have hs := cnt_no (by omega) hgt
          go_round
          case rel => exact ⟨k + 1, by omega, by go_num, by rw [hs]⟩
          case measure => simp [intOf]; omega
      · obtain rfl : k = 4 := by omega
        have hL : lead (be x 4) = cntG X 4 := by rw [lead_be, HX.out]
        have hb5 := hb2.trans (((hB3.mono (Nat.le_of_lt hlt2)).trans (hB4.mono (Nat.le_of_lt hlt3))).trans (hB5.mono (Nat.le_of_lt hlt4)))
        have hR5 : Reads w5 w5.heap.size 1 A2 4 (bs (be x 4)) := (((hR2.out.below hB3).below (hB4.mono hB3.size)).below (hB5.mono (Nat.le_trans hB3.size hB4.size))).more (Nat.le_trans hB3.size (Nat.le_trans hB4.size hB5.size))
        have HLd := lead_any A2 4 n2 (be x 4) w5 (length_be _ _) hR5 (by omega)
        rw [hL] at HLd
        have HLh := Lib.hid HLd
        clear HLd hL hR5
        have hcl := cntG_le X 4
        go_wp2_with fail
        refine HLh.out.mono ?_
        rintro e w' ⟨rfl, rfl⟩
        go_wp2
        go_ret
        exact ⟨rfl, hb5⟩
  · have hw : ∀ u, Calls Try.prog 29 #[.agg #[.int .u64 x, .int .i64 z]] u fun e w' => e = .returned (.int .i64 8) ∧ Below u.heap.size u w' := fun u => width_any x z 8 u (by rw [h1]; rfl)
    have hp : ∀ u, Calls Try.prog 28 #[.agg #[.int .u64 x, .int .i64 z], .slice none 0 0] u (Gives u 8 (be x 8)) := fun u => by
      have := mput_any x z none 0 0 [] u hx rfl Reads.none_ (by omega)
      rw [h1] at this
      simpa using this
    have HW := Lib.hid hw
    have HP := Lib.hid hp
    clear hw hp h1
    go_enter Try.func8, Try.ntmps8
    go_wp2_with fail
    refine (wakes_any _).mono ?_
    rintro e w1 ⟨rfl, hB1⟩
    have hb1 : Below w.heap.size w w1 := ((Below.refl _ _).alloc (Nat.le_refl _) _).trans (hB1.mono (by simp))
    have c0 : w1.cell? ⟨w.heap.size, 0, none⟩ = some (.int .u64 x) := (hB1.cell (p := ⟨w.heap.size, 0, none⟩) (by simp)).trans (by rw [World.cell?_alloc_at _ _ _ _ rfl]; rfl)
    have c1 : w1.cell? ⟨w.heap.size, 1, none⟩ = some (.int .i64 z) := (hB1.cell (p := ⟨w.heap.size, 1, none⟩) (by simp)).trans (by rw [World.cell?_alloc_at _ _ _ _ rfl]; rfl)
    go_wp2_with fail
    refine (HP.out _).mono ?_
    rintro e w2 ⟨A2, n2, rfl, hO, hB2⟩
    have hb2 : Below w.heap.size w w2 := hb1.trans (hB2.mono hb1.size)
    have hlt : w.heap.size < w1.heap.size := World.block_lt_of_cell? w1 ⟨w.heap.size, 0, none⟩ c0
    have e0 := (hB2.cell (p := ⟨w.heap.size, 0, none⟩) hlt).trans c0
    have e1 := (hB2.cell (p := ⟨w.heap.size, 1, none⟩) hlt).trans c1
    have hR2 := Lib.hid hO.reads
    have hlt2 : w.heap.size < w2.heap.size := Nat.lt_of_lt_of_le hlt hB2.size
    clear c0 c1 hO hB2 hb1 hB1
    go_wp2_with fail
    refine (HW.out _).mono ?_
    rintro e w3 ⟨rfl, hB3⟩
    have f0 := (hB3.cell (p := ⟨w.heap.size, 0, none⟩) hlt2).trans e0
    have f1 := (hB3.cell (p := ⟨w.heap.size, 1, none⟩) hlt2).trans e1
    have hlt3 : w.heap.size < w3.heap.size := Nat.lt_of_lt_of_le hlt2 hB3.size
    go_wp2_with fail
    refine (HW.out _).mono ?_
    rintro e w4 ⟨rfl, hB4⟩
    go_wp2_with fail
    go_loop [5, 25] (fun g i => ∃ k : Nat, k ≤ 8 ∧ i = .int .i64 k ∧ g = .int .i64 (cntG x k)) (fun _ i => 8 - (intOf i).toNat)
    case atStart => exact ⟨0, by omega, rfl, rfl⟩
    case round =>
      obtain ⟨k, hk, rfl, rfl⟩ := hrel
      by_cases hlt : k < 8
      · have hcl := cntG_le x k
        go_wp2
        · have hgt : (x : Int) < IntKind.u64.wrap (2 ^ (8 * k)) := by assumption
          have hs := cnt_yes (by omega) hgt
          go_round
          case rel => exact ⟨k + 1, by omega, by go_num, by rw [hs]; go_num⟩
          case measure => simp [intOf]; omega
        · have hgt : IntKind.u64.wrap (2 ^ (8 * k)) ≤ (x : Int) := by assumption
          have hs := cnt_no (by omega) hgt
          go_round
          case rel => exact ⟨k + 1, by omega, by go_num, by rw [hs]⟩
          case measure => simp [intOf]; omega
      · obtain rfl : k = 8 := by omega
        have hL : lead (be x 8) = cntG x 8 := by rw [lead_be, Nat.mod_eq_of_lt (show x < 256 ^ 8 by omega)]
        have hb5 := hb2.trans ((hB3.mono (Nat.le_of_lt hlt2)).trans (hB4.mono (Nat.le_of_lt hlt3)))
        have hR5 : Reads w4 w4.heap.size 1 A2 8 (bs (be x 8)) := ((hR2.out.below hB3).below (hB4.mono hB3.size)).more (Nat.le_trans hB3.size hB4.size)
        have HLd := lead_any A2 8 n2 (be x 8) w4 (length_be _ _) hR5 (by omega)
        rw [hL] at HLd
        have HLh := Lib.hid HLd
        clear HLd hL hR5
        have hcl := cntG_le x 8
        go_wp2_with fail
        refine HLh.out.mono ?_
        rintro e w' ⟨rfl, rfl⟩
        go_wp2
        go_ret
        exact ⟨rfl, hb5⟩

set_option maxRecDepth 100000 in
theorem lifted (os : Os) (started : os.Started) (H : Type) (enc : TypeId × Value → H) :
    ReturnsInHanded {} Try.checked os 8 .any (Rows.octetLeadsSpec.pre6 enc Try.prog Try.f8 Rows.octetLeadsRow.domain false) (Rows.octetLeadsSpec.post enc Try.prog Try.f8 false true false false) := by
  refine returnsInHanded_of_change (C := Try.checked) own started (by kernel_rfl) Try.func8
    (ChangeSpec.witness6 (enc := enc) (C := Try.checked) false ⟨#[], #[.agg #[.int .u64 0, .int .i64 0]], []⟩ 8 (by kernel_rfl) (by kernel_rfl) (by kernel_rfl) (by kernel_rfl)) ?_
  intro W base args ds gs before hval0 hW hcnd _
  have hval : ∀ (j : Nat) t v, Try.f8.params[j]? = some t → args[j]? = some v → Value.okWide Try.prog W .any base t v := hval0
  have hW' := hW
  obtain ⟨p, q, hA0, hV, rfl, hfz, hnd⟩ := hW
  have hA : DataW.TrodAll enc Try.prog W 0 (fun _ => true) true Try.f8.params.toList args.toList ds p := hA0
  rw [Try.params8] at hA hval
  obtain ⟨v0, d0, rfl, rfl, h0⟩ := trodAll_one hA
  obtain ⟨rfl, rfl⟩ := trodVars_none hV
  obtain ⟨x, z, rfl, rfl, rfl, hx, wz⟩ := open_mixed (hval 0 53 v0 rfl rfl) h0
  clear hA0 hval0
  simp only [List.append_nil] at hW'
  refine (walk x z W hx).mono fun e W' ⟨he, hb⟩ => ?_
  subst he
  exact ⟨_, rfl, post_of_below (pa := []) (pv := []) hW' (fun _ _ _ => trodAll_mk1 (shut_bool Try.underlying4 _)) (fun sp _ => trodAll_mk1 (shut_mixed hx wz)) (fun _ _ => rfl) rfl
    hb (ok_one (by kernel_rfl) rfl (okWide_bool_mk Try.underlying4 _))⟩

theorem proved : Rows.OctetLeadsSaid :=
  OpenClaim.holds_of_wide 8 Try.f8 rfl rfl rfl rfl rfl rfl rfl ⟨rfl, rfl, rfl, rfl, rfl⟩ rfl rfl rfl rfl rfl (by kernel_rfl) Try.func8 (by kernel_rfl)
    (of_decide_eq_true (by kernel_rfl)) (by unfold Func.isWrapper; first | (rw [if_pos (by decide +kernel)]; kernel_rfl) | (rw [if_neg (by decide +kernel)]; exact ⟨rfl, rfl⟩))
    (fun os started H enc _ => lifted os started H enc)

end Go.Proofs.Ytifclmmfnfppiaa.octetLeads
