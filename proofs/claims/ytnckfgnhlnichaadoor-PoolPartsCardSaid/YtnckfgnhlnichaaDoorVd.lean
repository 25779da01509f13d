/-
  The contracts of the document's Pool, Copy and Same, of the statements' short. No statement is proved here.
-/
import Derived.Test.YtnckfgnhlnichaaDoorVc
namespace Go.Proofs.YtnckfgnhlnichaaDoor
open Go.RowKit


/-! ### rows of cells beside one another -/
theorem put1 {w w1 : World} {g b : Nat} {t : TypeId} {p x : Value} (K : Blk w1 g t #[p]) (B : Below b w w1) (hg : b ≤ g) : Blk (w1.setCell ⟨g, 0, none⟩ x) g t #[x] ∧ Below b w (w1.setCell ⟨g, 0, none⟩ x) := by
  refine ⟨?_, B.setCell (p := ⟨g, 0, none⟩) hg x⟩
  have := K.set_ 0 x
  simpa using this
theorem own_set {w : World} {base n size : Nat} {e : TypeId} {v : Value} {xs : List Value} (h : w.ownsRow base e size v n xs) {g : Nat} (hg : g < base) (i : Nat) (u : Value) : (w.setCell ⟨g, i, none⟩ u).ownsRow base e size v n xs := by
  refine h.kept (row := some g) ⟨rfl, rfl, rfl, by simp [World.setCell], fun k _ hne => Below.heap_setCell w _ u k (fun he => hne (by rw [he]))⟩ ?_
  cases ho : v.ownBlock with
  | none => exact .inl rfl
  | some k =>
    refine .inr (fun he => ?_)
    have := (h.lt k ho).1
    injection he with he
    omega
theorem own_down {w : World} {base base' n size : Nat} {e : TypeId} {v : Value} {xs : List Value} (h : w.ownsRow base e size v n xs) (hb : base' ≤ base) : w.ownsRow base' e size v n xs := by
  rcases h with ⟨h1, h2 | ⟨g, cap, cur, a, b, c⟩⟩
  · exact ⟨h1, .inl h2⟩
  · exact ⟨h1, .inr ⟨g, cap, cur, a, Nat.le_trans hb b, c⟩⟩
theorem info_parts8 {P : Program} {e : TypeId} {z : Value} {size bytes : Nat} (h : (P.info? e).map (fun i => (i.zero, i.size, i.bytes)) = some (some z, size, bytes)) :
    ∃ i, P.info? e = some i ∧ i.zero = some z ∧ i.size = size ∧ i.bytes = bytes := by
  cases hi : P.info? e with
  | none => rw [hi] at h; cases h
  | some i =>
    rw [hi] at h
    simp only [Option.map_some, Option.some.injEq, Prod.mk.injEq] at h
    exact ⟨i, rfl, h.1, h.2.1, h.2.2⟩

/-- a call answers pools in memory of their own -/
def GivesP (l : List Nat) (w : World) (e : Ending) (w' : World) : Prop :=
  ∃ A c, e = .returned (.agg #[.slice A l.length c]) ∧ w'.ownsRow w.heap.size 32 1 (.slice A l.length c) l.length (us l) ∧ Below w.heap.size w w'



/-- are two rows one -/
def sameP (l m : List Nat) : Bool := decide (l = m)
theorem take_sameP {l m : List Nat} {k s : Nat} (h1 : l[k]? = some s) (h2 : m[k]? = some s) (h : l.take k = m.take k) : l.take (k + 1) = m.take (k + 1) := by
  rw [List.take_add_one, List.take_add_one, h1, h2, h]
theorem sameP_no {l m : List Nat} {k s t : Nat} (h1 : l[k]? = some s) (h2 : m[k]? = some t) (h : s ≠ t) : sameP l m = false := by
  unfold sameP
  rw [decide_eq_false]
  rintro rfl
  rw [h1] at h2
  exact h (Option.some.inj h2)
theorem sameP_long {l m : List Nat} (h : l.length ≠ m.length) : sameP l m = false := by
  unfold sameP
  rw [decide_eq_false]
  rintro rfl
  exact h rfl
theorem sameP_self (l : List Nat) : sameP l l = true := decide_eq_true rfl


end Go.Proofs.YtnckfgnhlnichaaDoor
