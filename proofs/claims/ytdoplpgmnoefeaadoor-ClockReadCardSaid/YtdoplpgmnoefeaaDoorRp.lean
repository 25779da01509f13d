/-
  The contract of the document's own reading of a text. No statement is proved here.
-/
import Derived.Test.YtdoplpgmnoefeaaDoorRt
namespace Go.Proofs.YtdoplpgmnoefeaaDoor
open Go.RowKit

/-- the time of a text, and whether it is one -/
def RP (l : List UInt8) (w : World) (e : Ending) (w' : World) : Prop :=
  ∃ (x : Int) (b : Bool), e = .returned (.tuple #[.int .i64 x, .bool b]) ∧ (∀ t : Nat, t ≤ 1125899906842624 → txt t = l → b = true ∧ x = (t : Int)) ∧ (b = true → ∃ t : Nat, t ≤ 1125899906842624 ∧ txt t = l) ∧ Below w.heap.size w w'

theorem rp_no {l : List UInt8} {w w' : World} {x : Int} (h : ∀ t : Nat, t ≤ 1125899906842624 → txt t = l → False) (hB : Below w.heap.size w w') : RP l w (.returned (.tuple #[.int .i64 x, .bool false])) w' :=
  ⟨x, false, rfl, fun t ht e => (h t ht e).elim, fun h => (by cases h), hB⟩
theorem dead_no {l : List UInt8} (h : rfold l = none) : ∀ t : Nat, t ≤ 1125899906842624 → txt t = l → False := fun t ht e => by
  obtain ⟨r, b, a, hr, _⟩ := rfold_txt ht
  rw [e, h] at hr
  cases hr

theorem rstep_point {wv rv a : Nat} : rstep (wv, rv, false, a) 46 = some (wv, rv, true, a) := by
  unfold rstep
  rw [if_pos ⟨rfl, rfl⟩]
theorem rstep_no {wv rv a : Nat} {p : Bool} {c : UInt8} (h : (c ≠ 46 ∨ p = true) ∧ (isD c = false ∨ (p = true ∧ a = 9) ∨ (p = false ∧ 112589990684262 < wv))) : rstep (wv, rv, p, a) c = none := by
  unfold rstep
  rw [if_neg (by rintro ⟨h1, h2⟩; rcases h.1 with h' | h'; exact h' h1; simp only at h2; rw [h2] at h'; cases h'), if_pos h.2]
theorem rstep_behind {wv rv a : Nat} {c : UInt8} (hc : isD c = true) (ha : a ≠ 9) : rstep (wv, rv, true, a) c = some (wv, 10 * rv + (c.toNat - 48), true, a + 1) := by
  unfold rstep
  rw [if_neg (by simp), if_neg (by simp [hc, ha]), if_pos rfl]
theorem rstep_ahead {wv rv a : Nat} {c : UInt8} (hc : isD c = true) (hw : ¬ 112589990684262 < wv) : rstep (wv, rv, false, a) c = some (10 * wv + (c.toNat - 48), rv, false, a) := by
  have h46 : c ≠ 46 := by rintro rfl; simp [isD] at hc
  unfold rstep
  rw [if_neg (by simp [h46]), if_neg (by simp only [hc]; simp; omega), if_neg (by simp)]

end Go.Proofs.YtdoplpgmnoefeaaDoor
