/-
  Equality of rows of quarters, stores and loads of rows in a region that draws its order. No statement is proved here.
-/
import Derived.Test.YtfgabmelmopgdaaWb
import Derived.ChangeKeysEq
import Derived.BigFrame
namespace Go.Proofs.Ytfgabmelmopgdaa
open Go.RowKit

set_option maxRecDepth 100000 in
theorem yields_row {P : Program} {ops : Array Oper} {S : World → Prop} {o : Oper} {a : Act} (hw : Region.wanted o (yielded ops a.tmps) = true) (ty : TypeId) (x : Operand) (ho : o.op = .load ty x)
    (g : Nat) (hx : a.eval x = .pointer (some ⟨g, 0, none⟩)) (t : TypeId) (cs : Array Value) (fr : Nat × Nat) {d : TypeDesc} (hS : ∀ w, S w → w.heap[g]? = some (.cells cs t fr))
    (hu : P.underlying ty = some d) (hd : (match d with | .struct _ | .array _ _ => true | _ => false) = true) (hi : (P.info? ty).map (·.size) = some cs.size) : YieldsIf P ops S o (.agg cs) a :=
  .inl ⟨hw, fun w hw' => by
    unfold execOp
    simp only [ho, hx, Instr.loadAt, Instr.sureAddr, Sem.run_bind, Sem.run_pure, Result.andThen_ok, run_loadVar_row w g t ty cs fr d (hS w hw') hu hd hi]⟩
set_option maxRecDepth 100000 in
theorem keep_row {P : Program} {ops : Array Oper} {o : Oper} {a : Act} {w : World} {K : Act → World → Prop} {Q : Exit → Act → World → Prop} {E : Prop} (hgd : o.guard = none) (ty : TypeId) (x y : Operand) (ho : o.op = .store ty x y)
    (g : Nat) (cells : Array Value) (hx : a.eval x = .pointer (some ⟨g, 0, none⟩)) (hy : a.eval y = .agg cells)
    (t : TypeId) (old : Array Value) (hg : w.heap[g]? = some (.cells old t (0, 0))) (hi : (P.info? ty).map (·.size) = some cells.size)
    (hold : old.size = cells.size) (h1 : cells.all (·.oneCell') = true)
    (h : K (a.put o.dst undef) (w.setRow g cells)) : if Region.wanted o (yielded ops a.tmps) = true then Oper.wp P o a w K Q else E := by
  rw [if_pos (by simp [Region.wanted, hgd])]
  exact wp_store_row ty x y ho g cells hx hy t old hg hi hold h1 h
set_option maxRecDepth 100000 in
theorem results_row2 {P : Program} {fn : Func} {p q : Tmp} {ty : TypeId} (h : fn.results = #[.cell p ty, .tmp q]) (tmps : Array Value) (w : World) (g : Nat) (t : TypeId) (cs : Array Value) (d : TypeDesc)
    (hp : tmps.getD p undef = .pointer (some ⟨g, 0, none⟩)) (hg : w.heap[g]? = some (.cells cs t (0, 0)))
    (hu : P.underlying ty = some d) (hd : (match d with | .struct _ | .array _ _ => true | _ => false) = true) (hi : (P.info? ty).map (·.size) = some cs.size) :
    (results fn tmps).run P w = .ok (.tuple #[.agg cs, tmps.getD q undef]) w := by
  have hp' : tmps[p]?.getD undef = .pointer (some ⟨g, 0, none⟩) := by simpa using hp
  simp [results, h, hp', asAddr, run_loadVar_row w g t ty cs (0, 0) d hg hu hd hi]
set_option maxRecDepth 100000 in
theorem results_row3 {P : Program} {fn : Func} {p q r : Tmp} {ty : TypeId} (h : fn.results = #[.cell p ty, .tmp q, .tmp r]) (tmps : Array Value) (w : World) (g : Nat) (t : TypeId) (cs : Array Value) (d : TypeDesc)
    (hp : tmps.getD p undef = .pointer (some ⟨g, 0, none⟩)) (hg : w.heap[g]? = some (.cells cs t (0, 0)))
    (hu : P.underlying ty = some d) (hd : (match d with | .struct _ | .array _ _ => true | _ => false) = true) (hi : (P.info? ty).map (·.size) = some cs.size) :
    (results fn tmps).run P w = .ok (.tuple #[.agg cs, tmps.getD q undef, tmps.getD r undef]) w := by
  have hp' : tmps[p]?.getD undef = .pointer (some ⟨g, 0, none⟩) := by simpa using hp
  simp [results, h, hp', asAddr, run_loadVar_row w g t ty cs (0, 0) d hg hu hd hi]
set_option maxRecDepth 100000 in
theorem info_qs (f : Nat → Nat) : (Try.prog.info? 136).map (·.size) = some (qs f).size := by
  have h : (Try.prog.info? 136).map (·.size) = some 4 := by kernel_rfl
  exact h
set_option maxRecDepth 100000 in
theorem one_qs (f : Nat → Nat) : (qs f).all (·.oneCell') = true := by simp [qs, Value.oneCell']

set_option maxRecDepth 100000 in
theorem run_quarter (f : Nat → Nat) {i : Nat} (h : i < 4) (w : World) : (part 134 (qs f) i).run Try.prog w = .ok (.int .u32 (f i : Int)) w :=
  run_part_plain w (by kernel_rfl) (qs_at f h)
set_option maxRecDepth 100000 in
theorem run_quarters (d : Nat) (f g : Nat → Nat) (w : World) : ∀ is : List Nat, (∀ i ∈ is, i < 4) → (Op.eqItems (d + 1) 134 1 (qs f) (qs g) is).run Try.prog w = .ok (decide (∀ i ∈ is, f i = g i)) w
  | [], _ => by simp [Op.eqItems]
  | i :: is, h => by
    have h1 := h i (by simp)
    have IH := run_quarters d f g w is (fun j hj => h j (by simp [hj]))
    unfold Op.eqItems
    rw [Nat.mul_one, Sem.run_bind, run_quarter f h1, Result.andThen_ok, Sem.run_bind, run_quarter g h1, Result.andThen_ok, Sem.run_bind, run_equalIn_int w d _ _ _ _ _ Try.underlying134, Result.andThen_ok]
    by_cases e : f i = g i
    · rw [e, beq_self_eq_true]
      simp only [Bool.not_true, Bool.false_eq_true, if_false]
      rw [IH]
      simp [e]
    · have : ((f i : Int) == (g i : Int)) = false := by simp; omega
      rw [this]
      simp [e]
set_option maxRecDepth 100000 in
theorem run_eq_quarters (f g : Nat → Nat) (w : World) {b : Bool} (hb : b = true ↔ ∀ i, i < 4 → f i = g i) : (Op.equal 136 (.agg (qs f)) (.agg (qs g))).run Try.prog w = .ok b w := by
  unfold Op.equal
  obtain ⟨i, hi⟩ : ∃ i, Try.prog.info? 134 = some i := info_of_underlying Try.underlying134
  rw [show Op.maxDepth = 9998 + 1 + 1 from rfl, run_equalIn_array w (9998 + 1) _ _ Try.underlying136 hi, show Try.prog.cellsOf 134 = 1 by kernel_rfl]
  rw [run_quarters 9998 f g w (List.range 4) (fun i hi => by simpa using hi)]
  congr 1
  rw [Bool.eq_iff_iff, hb]
  simp
set_option maxRecDepth 100000 in
theorem wp_eq_qs {o : Oper} {a : Act} {w : World} {K : Act → World → Prop} {Q : Exit → Act → World → Prop} (x y : Operand) (ty : TypeId) (ho : o.op = .binOp .eql 136 x y ty) (f g : Nat → Nat)
    (hx : a.eval x = .agg (qs f)) (hy : a.eval y = .agg (qs g)) {b : Bool} (hb : b = true ↔ ∀ i, i < 4 → f i = g i) (h : K (a.put o.dst (.bool b)) w) : o.wp Try.prog a w K Q := by
  have he : Try.prog.eqGuardType Try.prog.depth 136 = false := by kernel_rfl
  unfold Oper.wp execOp
  simp [ho, hx, hy, binOp, eqGuard, Sem.run_bind, run_eq_quarters f g w hb, he]
  exact h
set_option maxRecDepth 100000 in
theorem wp_neq_qs {o : Oper} {a : Act} {w : World} {K : Act → World → Prop} {Q : Exit → Act → World → Prop} (x y : Operand) (ty : TypeId) (ho : o.op = .binOp .neq 136 x y ty) (f g : Nat → Nat)
    (hx : a.eval x = .agg (qs f)) (hy : a.eval y = .agg (qs g)) {b : Bool} (hb : b = true ↔ ∀ i, i < 4 → f i = g i) (h : K (a.put o.dst (.bool (!b))) w) : o.wp Try.prog a w K Q := by
  have he : Try.prog.eqGuardType Try.prog.depth 136 = false := by kernel_rfl
  unfold Oper.wp execOp
  simp [ho, hx, hy, binOp, eqGuard, Sem.run_bind, run_eq_quarters f g w hb, he]
  exact h

end Go.Proofs.Ytfgabmelmopgdaa
