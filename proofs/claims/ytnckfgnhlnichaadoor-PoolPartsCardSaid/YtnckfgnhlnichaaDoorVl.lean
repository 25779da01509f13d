/-
  The contract of the document's List. No statement is proved here.
-/
import Derived.Test.YtnckfgnhlnichaaDoorTa
namespace Go.Proofs.YtnckfgnhlnichaaDoor
open Go.RowKit

def memb (s : Int) (k : Nat) : List Int := ((List.range k).map fun (i : Nat) => (i : Int)).filter (hasB s)
def mem (s : Int) : List Int := memb s 8
theorem memb_yes {s : Int} {k : Nat} (h : hasB s k = true) : memb s (k + 1) = memb s k ++ [(k : Int)] := by
  unfold memb
  rw [List.range_succ, List.map_append, List.filter_append]
  simp [h]
theorem memb_no {s : Int} {k : Nat} (h : hasB s k = false) : memb s (k + 1) = memb s k := by
  unfold memb
  rw [List.range_succ, List.map_append, List.filter_append]
  simp [h]
theorem length_memb (s : Int) (k : Nat) : (memb s k).length ≤ k := by
  refine Nat.le_trans (List.length_filter_le _ _) ?_
  simp

def Lists (w : World) (l : List Int) (e : Ending) (w' : World) : Prop :=
  ∃ A c, e = .returned (.slice A l.length c) ∧ w'.ownsRow w.heap.size 3 1 (.slice A l.length c) l.length (vs l) ∧ Below w.heap.size w w'
theorem lists_of {w w' : World} {v : Value} {l : List Int} {m : Nat} (hm : m = l.length) (h : w'.ownsRow w.heap.size 3 1 v m (vs l)) (hb : Below w.heap.size w w') : Lists w l (.returned v) w' := by
  subst hm
  obtain ⟨A, c, rfl⟩ : ∃ A c, v = .slice A l.length c := by
    rcases h.2 with ⟨rfl, h0⟩ | ⟨g, cap, cur, rfl, _⟩
    · exact ⟨none, 0, by rw [h0]⟩
    · exact ⟨_, _, rfl⟩
  exact ⟨A, c, rfl, h, hb⟩


theorem own_below {w w' : World} {base n size : Nat} {e : TypeId} {v : Value} {xs : List Value} (h : w.ownsRow base e size v n xs) (hb : Below w.heap.size w w') : w'.ownsRow base e size v n xs :=
  h.kept (row := none) ⟨hb.os, hb.tape, hb.output, hb.size, fun k hk _ => hb.block k hk⟩ (by cases v.ownBlock <;> simp)
/-- a value answered; what was there has not turned -/
def Ans (v : Value) (w : World) (e : Ending) (w' : World) : Prop := e = .returned v ∧ Below w.heap.size w w'

theorem drop_at {l : List Int} {k : Nat} {x : Int} (h : l[k]? = some x) : l.drop k = x :: l.drop (k + 1) := by
  obtain ⟨hk, hx⟩ := List.getElem?_eq_some_iff.1 h
  rw [List.drop_eq_getElem_cons hk, hx]

end Go.Proofs.YtnckfgnhlnichaaDoor
