/-
  The contract of the document's Choice. No statement is proved here.
-/
import Derived.Test.YtldleijocjohgaaDoorMb
import Derived.Test.YtldleijocjohgaaDoorMd
namespace Go.Proofs.YtldleijocjohgaaDoor
open Go.RowKit

/-- numbers as they are told -/
def ints (l : List Nat) : List Int := l.map fun (k : Nat) => (k : Int)
theorem length_ints (l : List Nat) : (ints l).length = l.length := by simp [ints]
/-- a call answers a row of numbers in memory of its own, and whether there is one -/
def ListsB (w : World) (l : List Int) (b : Bool) (e : Ending) (w' : World) : Prop :=
  ∃ A n c, e = .returned (.tuple #[.slice A n c, .bool b]) ∧ n = l.length ∧ Reads w' w'.heap.size 1 A n (vs l) ∧ Below w.heap.size w w'
theorem mvs_drop (l : List (Int × Int)) (k : Nat) : (mvs l).drop (k * 2) = mvs (l.drop k) := by
  by_cases h : k ≤ l.length
  · have h1 : mvs l = mvs (l.take k) ++ mvs (l.drop k) := by unfold mvs; rw [← flat_append, List.take_append_drop]
    have h2 : (mvs (l.take k)).length = k * 2 := by rw [length_mvs, List.length_take, Nat.min_eq_left h]
    rw [h1, ← h2, List.drop_left]
  · rw [List.drop_eq_nil_of_le (by rw [length_mvs]; omega), List.drop_eq_nil_of_le (by omega)]
    rfl
theorem hards_dropped (l : List (Int × Int)) (k : Nat) : hards (l.drop k) = (hards l).drop k := by unfold hards; rw [List.map_drop]
theorem length_hards (l : List (Int × Int)) : (hards l).length = l.length := by simp [hards]



end Go.Proofs.YtldleijocjohgaaDoor
