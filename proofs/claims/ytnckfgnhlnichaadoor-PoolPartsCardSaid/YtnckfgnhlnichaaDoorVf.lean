/-
  The contract of the document's Join, of pools that may be. No statement is proved here.
-/
import Derived.Test.YtnckfgnhlnichaaDoorVe
namespace Go.Proofs.YtnckfgnhlnichaaDoor
open Go.RowKit

theorem joinK_skip {l : List Nat} {p i : Nat} : joinK l p i (p + 1) = joinK l p i p := if_pos rfl
theorem joinK_into {l : List Nat} {p i x y : Nat} (hi : i ≠ p) (hx : l[i]? = some x) (hy : l[p]? = some y) : joinK l p i (i + 1) = joinK l p i i ++ [x + y] := by
  show (if i = p then _ else _) = _
  rw [if_neg hi, if_pos rfl, getD_at hx, getD_at hy]
theorem joinK_else {l : List Nat} {p i k x : Nat} (hp : k ≠ p) (hi : k ≠ i) (hx : l[k]? = some x) : joinK l p i (k + 1) = joinK l p i k ++ [x] := by
  show (if k = p then _ else _) = _
  rw [if_neg hp, if_neg hi, getD_at hx]


end Go.Proofs.YtnckfgnhlnichaaDoor
