/-
  Equality of rows of 256 bits. No statement is proved here.
-/
import Derived.Test.YtfgabmelmopgdaaBq
import Derived.ChangeKeysEq
import Derived.BigFrame
namespace Go.Proofs.Ytfgabmelmopgdaa
open Go.RowKit

set_option maxRecDepth 100000 in
theorem run_bit (f : Nat → Bool) {i : Nat} (h : i < 256) (w : World) : (part 4 (cellsOf f) i).run Try.prog w = .ok (.bool (f i)) w :=
  run_part_plain w (by kernel_rfl) (cellsOf_at f h)
set_option maxRecDepth 100000 in
theorem run_items (d : Nat) (f g : Nat → Bool) (w : World) : ∀ is : List Nat, (∀ i ∈ is, i < 256) → (Op.eqItems (d + 1) 4 1 (cellsOf f) (cellsOf g) is).run Try.prog w = .ok (decide (∀ i ∈ is, f i = g i)) w
  | [], _ => by simp [Op.eqItems]
  | i :: is, h => by
    have h1 := h i (by simp)
    have IH := run_items d f g w is (fun j hj => h j (by simp [hj]))
    unfold Op.eqItems
    rw [Nat.mul_one, Sem.run_bind, run_bit f h1, Result.andThen_ok, Sem.run_bind, run_bit g h1, Result.andThen_ok, Sem.run_bind, run_equalIn_bool w d _ _ _ Try.underlying4, Result.andThen_ok]
    by_cases e : f i = g i
    · rw [e, beq_self_eq_true]
      simp only [Bool.not_true, Bool.false_eq_true, if_false]
      rw [IH]
      simp [e]
    · have : (f i == g i) = false := by simp [e]
      rw [this]
      simp [e]
set_option maxRecDepth 100000 in
theorem run_eq_bits (f g : Nat → Bool) (w : World) {b : Bool} (hb : b = true ↔ ∀ i, i < 256 → f i = g i) : (Op.equal 108 (.agg (cellsOf f)) (.agg (cellsOf g))).run Try.prog w = .ok b w := by
  unfold Op.equal
  obtain ⟨i, hi⟩ : ∃ i, Try.prog.info? 4 = some i := info_of_underlying Try.underlying4
  rw [show Op.maxDepth = 9998 + 1 + 1 from rfl, run_equalIn_array w (9998 + 1) _ _ Try.underlying108 hi, show Try.prog.cellsOf 4 = 1 by kernel_rfl]
  rw [run_items 9998 f g w (List.range 256) (fun i hi => by simpa using hi)]
  congr 1
  rw [Bool.eq_iff_iff, hb]
  simp
set_option maxRecDepth 100000 in
theorem wp_neq_row {o : Oper} {a : Act} {w : World} {K : Act → World → Prop} {Q : Exit → Act → World → Prop} (x y : Operand) (ty : TypeId) (ho : o.op = .binOp .neq 108 x y ty) (f g : Nat → Bool)
    (hx : a.eval x = .agg (cellsOf f)) (hy : a.eval y = .agg (cellsOf g)) {b : Bool} (hb : b = true ↔ ∀ i, i < 256 → f i = g i) (h : K (a.put o.dst (.bool (!b))) w) : o.wp Try.prog a w K Q := by
  have he : Try.prog.eqGuardType Try.prog.depth 108 = false := by kernel_rfl
  unfold Oper.wp execOp
  simp [ho, hx, hy, binOp, eqGuard, Sem.run_bind, run_eq_bits f g w hb, he]
  exact h

end Go.Proofs.Ytfgabmelmopgdaa
