/-
  MaskTells' walk, on what is asked of the landed calls.
-/
import Derived.Test.YtldleijocjohgaaDoorMe
import Derived.Deep.Cut
import Derived.Deep.RegionHeld3
namespace Go.Proofs.YtldleijocjohgaaDoor
open Go.RowKit

theorem mem_zero : mem 0 = [] := by decide +kernel
theorem has_zero (a : Int) : hasB 0 a = false := by simp [hasB]
theorem best_none {m : Int × Int} {s a : Int} (h : allowsR m s = 0) (h2 : likesR m s = 0) : bestR m s a = (0, false) := by
  unfold bestR
  rw [h, h2, Int.ofNat_zero, has_zero, mem_zero, if_neg (by simp)]
  rfl
/-- a call that answers v, where the table of noughts lies -/
abbrev TellsD (f : Nat) (args : Array Value) (v : Value) : Prop := ∀ u : World, Db u → Calls Tryd.prog f args u (Said v u)
/-- a call that answers v, whatever the world -/
abbrev Tells (f : Nat) (args : Array Value) (v : Value) : Prop := ∀ u : World, Calls Tryd.prog f args u (Said v u)
theorem Tells.of_same {f : Nat} {args : Array Value} {v : Value} (h : ∀ u : World, Calls Tryd.prog f args u fun e w' => e = .returned v ∧ u = w') : Tells f args v := fun u => (h u).mono (by rintro e w' ⟨rfl, rfl⟩; exact ⟨rfl, Below.refl _ _⟩)
theorem Tells.of_ans {f : Nat} {args : Array Value} {v : Value} (h : ∀ u : World, Calls Tryd.prog f args u (Ans v u)) : Tells f args v := h






end Go.Proofs.YtldleijocjohgaaDoor
