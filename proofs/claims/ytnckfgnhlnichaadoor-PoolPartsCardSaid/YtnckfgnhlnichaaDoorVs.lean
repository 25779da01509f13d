/-
  PoolBytes' walk, on what is asked of the landed calls.
-/
import Derived.Test.YtnckfgnhlnichaaDoorVr
namespace Go.Proofs.YtnckfgnhlnichaaDoor
open Go.RowKit

/-- pools, a row of bytes, as they lie inside a row -/
structure InnerP where
  A : Option Addr
  n : Nat
  c : Nat
  l : List Nat
def InnerP.val (r : InnerP) : Value := .slice r.A r.n r.c
def InnerP.ok (W : World) (r : InnerP) : Prop := Reads W W.heap.size 1 r.A r.n (us r.l) ∧ r.n ≤ r.c ∧ U32s r.l
structure InnerB where
  A : Option Addr
  n : Nat
  c : Nat
  l : List Nat
def InnerB.val (r : InnerB) : Value := .slice r.A r.n r.c
def InnerB.ok (W : World) (r : InnerB) : Prop := Reads W W.heap.size 1 r.A r.n (ub r.l) ∧ r.n ≤ r.c ∧ ∀ x ∈ r.l, x < 256
theorem innerP_at {l : List InnerP} {k : Nat} {v : Value} (h : (l.map InnerP.val)[k]? = some v) : ∃ x, l[k]? = some x ∧ v = .slice x.A x.n x.c := by
  rw [List.getElem?_map] at h
  cases hl : l[k]? with
  | none => rw [hl] at h; cases h
  | some x => rw [hl] at h; injection h with h; exact ⟨x, rfl, h.symm⟩
theorem innerB_at {l : List InnerB} {k : Nat} {v : Value} (h : (l.map InnerB.val)[k]? = some v) : ∃ x, l[k]? = some x ∧ v = .slice x.A x.n x.c := by
  rw [List.getElem?_map] at h
  cases hl : l[k]? with
  | none => rw [hl] at h; cases h
  | some x => rw [hl] at h; injection h with h; exact ⟨x, rfl, h.symm⟩


end Go.Proofs.YtnckfgnhlnichaaDoor
