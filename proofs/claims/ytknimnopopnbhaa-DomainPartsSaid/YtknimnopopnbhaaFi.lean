/-
  A count of numbers none of which comes twice: each counted is 1, the others 0 (mathematics, for DomainParts' two maps). No statement is proved here.
-/
import Derived.Test.YtknimnopopnbhaaFg
import Derived.Maps.OwnOps
import Derived.Maps.Views
namespace Go.Proofs.Ytknimnopopnbhaa
open Go.Maps

section
variable {H : Type}
/-- the map in which each number of L has been counted once -/
def cnt (L : List Int) : DataW H := L.foldl (fun D x => D.put (.int .i64 x) (.lit (.int .i64 1))) (.map [])
theorem cnt_nil : cnt (H := H) [] = .map [] := rfl
theorem cnt_snoc (L : List Int) (x : Int) : cnt (H := H) (L ++ [x]) = (cnt L).put (.int .i64 x) (.lit (.int .i64 1)) := by
  simp [cnt, List.foldl_append]
theorem key_int (x : Int) : WideAt.IsKeyLit (.int .i64 x) := trivial
theorem cnt_rev {p : List Int → Prop} (h0 : p []) (h1 : ∀ L x, p L → p (L ++ [x])) (L : List Int) : p L := by
  rw [← List.reverse_reverse L]
  induction L.reverse with
  | nil => exact h0
  | cons x r ih => rw [List.reverse_cons]; exact h1 _ _ ih
theorem cnt_tidy (L : List Int) : Tidy (cnt (H := H) L) := by
  refine cnt_rev (p := fun L => Tidy (cnt (H := H) L)) tidy_empty (fun L x h => ?_) L
  rw [cnt_snoc]
  exact h.put (key_int x) _
theorem cnt_at (L : List Int) (x : Int) : (cnt (H := H) L).atKey (.int .i64 x) (.lit (.int .i64 0)) = .lit (.int .i64 (if x ∈ L then 1 else 0)) := by
  refine cnt_rev (p := fun L => (cnt (H := H) L).atKey (.int .i64 x) (.lit (.int .i64 0)) = .lit (.int .i64 (if x ∈ L then 1 else 0))) rfl (fun L y h => ?_) L
  rw [cnt_snoc]
  by_cases e : x = y
  · subst e
    rw [atKey_put_same (cnt_tidy L).isMap (key_int x)]
    simp
  · rw [atKey_put_other (by intro h; injection h with _ h; exact e h), h]
    simp [e]
theorem cnt_has (L : List Int) (x : Int) : has (cnt (H := H) L) (.int .i64 x) = decide (x ∈ L) := by
  refine cnt_rev (p := fun L => has (cnt (H := H) L) (.int .i64 x) = decide (x ∈ L)) rfl (fun L y h => ?_) L
  rw [cnt_snoc]
  by_cases e : x = y
  · subst e
    rw [has_put_same (cnt_tidy L).isMap (key_int x)]
    simp
  · rw [has_put_other (by intro h; injection h with _ h; exact e h), h]
    simp [e]
theorem cnt_size (L : List Int) (h : L.Nodup) : size (cnt (H := H) L) = L.length := by
  refine cnt_rev (p := fun L => L.Nodup → size (cnt (H := H) L) = L.length) (fun _ => rfl) (fun L y ih h => ?_) L h
  rw [List.Nodup, List.pairwise_append] at h
  rw [cnt_snoc, size_put (cnt_tidy L), cnt_has, ih h.1, if_neg (by
    simp only [decide_eq_true_eq]
    intro hy
    exact h.2.2 y hy y (by simp) rfl)]
  simp
/-- counted once: what the walk finds, and what it lays -/
theorem cnt_step (L : List Int) (x : Int) (hx : x ∉ L) {c : Int} (hat : (cnt (H := H) L).atKey (.int .i64 x) (.lit (.int .i64 0)) = .lit (.int .i64 c)) : c = 0 := by
  rw [cnt_at, if_neg hx] at hat
  injection hat with h; injection h with _ h; exact h.symm
/-- looked up: 1 -/
theorem cnt_one (L : List Int) (x : Int) (hx : x ∈ L) {c : Int} (hat : (cnt (H := H) L).atKey (.int .i64 x) (.lit (.int .i64 0)) = .lit (.int .i64 c)) : c = 1 := by
  rw [cnt_at, if_pos hx] at hat
  injection hat with h; injection h with _ h; exact h.symm
end
end Go.Proofs.Ytknimnopopnbhaa
