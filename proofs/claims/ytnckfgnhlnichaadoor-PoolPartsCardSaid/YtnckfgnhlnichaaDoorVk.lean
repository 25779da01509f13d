/-
  PoolBack's walk, on what is asked of the landed calls.
-/
import Derived.Test.YtnckfgnhlnichaaDoorVz
namespace Go.Proofs.YtnckfgnhlnichaaDoor
open Go.RowKit

theorem u32s_take {l : List Nat} (h : U32s l) (k : Nat) : U32s (l.take k) := fun x hx => h x (List.mem_of_mem_take hx)
theorem u32s_right {l : List Nat} (h : rightP l = true) : U32s l := fun x hx => by
  obtain ⟨k, hk, rfl⟩ := List.getElem_of_mem hx
  have := (sets_at (right_parts8 h).2.2.1 (List.getElem?_eq_getElem hk)).1
  omega
theorem right_len {l : List Nat} (h : rightP l = true) : l.length ≤ 1000 := by have := right_parts8 h; omega
theorem split_none {l l' : List Nat} {f k e : Int} {s : Nat} (h : splitV l f s = (l', k, e)) (he : e ≠ 0) : l' = [] := by
  unfold splitV at h
  (repeat' split at h) <;> simp only [Prod.mk.injEq] at h <;> first | exact h.1.symm | exact absurd h.2.2.symm he
theorem move_none {l l' : List Nat} {c t k e : Int} (h : moveV l c t = (l', k, e)) (he : e ≠ 0) : l' = [] := by
  unfold moveV at h
  (repeat' split at h) <;> simp only [Prod.mk.injEq] at h <;> first | exact h.1.symm | exact absurd h.2.2.symm he
abbrev OpV (k a b cpu : Int) (s : Nat) : Array Value := #[.int .i64 k, .int .i64 a, .int .i64 b, .int .i64 cpu, .int .u32 (s : Int)]







end Go.Proofs.YtnckfgnhlnichaaDoor
