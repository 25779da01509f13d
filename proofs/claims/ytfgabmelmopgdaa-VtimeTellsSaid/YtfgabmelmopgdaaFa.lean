/-
  The contracts of the document's own words on fractions: Weight, Right, bits, Number. No statement is proved here.
-/
import Derived.Test.YtfgabmelmopgdaaBd
namespace Go.Proofs.Ytfgabmelmopgdaa
open Go.RowKit

set_option maxRecDepth 100000 in
theorem retB {a b : Bool} (h : a = b) : Ending.returned (.bool a) = .returned (.bool b) := by rw [h]
def weightB (x : Nat) : Bool := decide (1 ≤ x) && decide (x ≤ 65535)
def rightB (h x : Nat) : Bool := weightB x && decide (h < 68719476736)
set_option maxRecDepth 100000 in
theorem weightB_true {x : Nat} (h : weightB x = true) : 1 ≤ x ∧ x ≤ 65535 := by unfold weightB at h; simpa using h
set_option maxRecDepth 100000 in
theorem weightB_yes {x : Nat} (h1 : 1 ≤ x) (h2 : x ≤ 65535) : weightB x = true := by unfold weightB; simp [h1, h2]
set_option maxRecDepth 100000 in
theorem weightB_no {x : Nat} (h : x < 1 ∨ 65535 < x) : weightB x = false := by
  unfold weightB
  rcases h with h | h
  · have : ¬ 1 ≤ x := by omega
    simp [this]
  · have : ¬ x ≤ 65535 := by omega
    simp [this]

set_option maxRecDepth 100000 in
set_option maxHeartbeats 400000 in
theorem rweight_any (x : Nat) (w : World) : Calls Try.prog 77 #[.int .u64 (x : Int)] w fun e w' => e = .returned (.bool (weightB x)) ∧ w = w' := by
  by_cases h1 : 1 ≤ x
  · by_cases h2 : x ≤ 65535
    · have H := Lib.hid (weightB_yes h1 h2)
      have g1 : (1 : Int) ≤ (x : Int) := by omega
      have g2 : (x : Int) ≤ 65535 := by omega
      clear h1 h2
      go_enter Try.func77, Try.ntmps77
      go_wp2
      go_ret
      exact ⟨retB H.out.symm, rfl⟩
    · have H := Lib.hid (weightB_no (x := x) (.inr (by omega)))
      have g1 : (1 : Int) ≤ (x : Int) := by omega
      have g2 : ¬ (x : Int) ≤ 65535 := by omega
      clear h1 h2
      go_enter Try.func77, Try.ntmps77
      go_wp2
      go_ret
      exact ⟨retB H.out.symm, rfl⟩
  · have H := Lib.hid (weightB_no (x := x) (.inl (by omega)))
    have g1 : ¬ (1 : Int) ≤ (x : Int) := by omega
    clear h1
    go_enter Try.func77, Try.ntmps77
    go_wp2
    go_ret
    exact ⟨retB H.out.symm, rfl⟩

/-- a value; what was there has not turned -/
def Said (v : Value) (w : World) (e : Ending) (w' : World) : Prop := e = .returned v ∧ Below w.heap.size w w'
/-- a fraction as a value -/
def fr (h l x : Nat) : Array Value := #[.int .u64 (h : Int), .int .u64 (l : Int), .int .u64 (x : Int)]

set_option maxRecDepth 100000 in
set_option maxHeartbeats 1000000 in
theorem rright_any (h l x : Nat) (w : World) : Calls Try.prog 45 #[.agg (fr h l x)] w (Said (.bool (rightB h x)) w) := by
  have HW := Lib.hid (fun u => rweight_any x u)
  unfold fr
  cases hb : weightB x with
  | true =>
    rw [hb] at HW
    by_cases hh : h < 68719476736
    · have HV : Hid (rightB h x = true) := Lib.hid (by unfold rightB; rw [hb]; simp [hh])
      have g : decide ((68719476736 : Int) ≤ (h : Int)) = false := by simp; omega
      have g2 : decide ((h : Int) < 68719476736) = true := by simp; omega
      clear hb hh
      go_enter Try.func45, Try.ntmps45
      go_wp2_with fail
      refine (HW.out _).mono ?_
      rintro e w' ⟨rfl, rfl⟩
      go_wp2
      go_ret
      exact ⟨retB (by rw [HV.out]), (Below.refl _ _).alloc (Nat.le_refl _) _⟩
    · have HV : Hid (rightB h x = false) := Lib.hid (by unfold rightB; rw [hb]; simp; omega)
      have g2 : decide ((h : Int) < 68719476736) = false := by simp; omega
      clear hb hh
      go_enter Try.func45, Try.ntmps45
      go_wp2_with fail
      refine (HW.out _).mono ?_
      rintro e w' ⟨rfl, rfl⟩
      go_wp2
      go_ret
      exact ⟨retB (by rw [HV.out]), (Below.refl _ _).alloc (Nat.le_refl _) _⟩
  | false =>
    rw [hb] at HW
    have HV : Hid (rightB h x = false) := Lib.hid (by unfold rightB; rw [hb]; rfl)
    clear hb
    go_enter Try.func45, Try.ntmps45
    go_wp2_with fail
    refine (HW.out _).mono ?_
    rintro e w' ⟨rfl, rfl⟩
    go_wp2
    go_ret
    exact ⟨retB (by rw [HV.out]), (Below.refl _ _).alloc (Nat.le_refl _) _⟩


end Go.Proofs.Ytfgabmelmopgdaa
