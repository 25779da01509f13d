/-
  The contract of the document's quotient. No statement is proved here.
-/
import Derived.Test.YtfgabmelmopgdaaBp
namespace Go.Proofs.Ytfgabmelmopgdaa
open Go.RowKit

set_option maxRecDepth 100000 in
theorem less_c (a b : Nat) (w : World) (ha : a < 2 ^ 256) (hb : b < 2 ^ 256) : Calls Try.prog 71 #[.agg (cellsOf a.testBit), .agg (cellsOf b.testBit)] w fun e w' => e = .returned (.bool (decide (a < b))) ∧ Below w.heap.size w w' := less_any a b w ha hb

set_option maxRecDepth 100000 in
theorem step_load_row {P : Program} {ops : Array Oper} {o : Oper} {a : Act} {w : World} {K : Act → World → Prop} {Q : Exit → Act → World → Prop} {E : Prop} (hgd : o.guard = none) (ty : TypeId) (x : Operand) (ho : o.op = .load ty x)
    (g : Nat) (hx : a.eval x = .pointer (some ⟨g, 0, none⟩)) (t : TypeId) (cs : Array Value) (fr : Nat × Nat) (d : TypeDesc) (hg : w.heap[g]? = some (.cells cs t fr))
    (hu : P.underlying ty = some d) (hd : (match d with | .struct _ | .array _ _ => true | _ => false) = true) (hi : (P.info? ty).map (·.size) = some cs.size)
    (h : K (a.put o.dst (.agg cs)) w) : if Region.wanted o (yielded ops a.tmps) = true then Oper.wp P o a w K Q else E := by
  rw [if_pos (by simp [Region.wanted, hgd])]
  exact wp_load_row ty x ho g hx t cs fr d hg hu hd hi h
set_option maxRecDepth 100000 in
theorem step_store_row {P : Program} {ops : Array Oper} {o : Oper} {a : Act} {w : World} {K : Act → World → Prop} {Q : Exit → Act → World → Prop} {E : Prop} (hgd : o.guard = none) (ty : TypeId) (x y : Operand) (ho : o.op = .store ty x y)
    (g : Nat) (cells : Array Value) (hx : a.eval x = .pointer (some ⟨g, 0, none⟩)) (hy : a.eval y = .agg cells)
    (t : TypeId) (old : Array Value) (hg : w.heap[g]? = some (.cells old t (0, 0))) (hi : (P.info? ty).map (·.size) = some cells.size)
    (hold : old.size = cells.size) (h1 : cells.all (·.oneCell') = true)
    (h : K (a.put o.dst undef) (w.setRow g cells)) : if Region.wanted o (yielded ops a.tmps) = true then Oper.wp P o a w K Q else E := by
  rw [if_pos (by simp [Region.wanted, hgd])]
  exact wp_store_row ty x y ho g cells hx hy t old hg hi hold h1 h
set_option maxRecDepth 100000 in
theorem results_cell_row2 {P : Program} {fn : Func} {p q : Tmp} {ty : TypeId} (h : fn.results = #[.cell p ty, .cell q ty]) (tmps : Array Value) (w : World) (g g' : Nat) (t t' : TypeId) (cs cs' : Array Value) (d : TypeDesc)
    (hp : tmps.getD p undef = .pointer (some ⟨g, 0, none⟩)) (hq : tmps.getD q undef = .pointer (some ⟨g', 0, none⟩)) (hg : w.heap[g]? = some (.cells cs t (0, 0))) (hg' : w.heap[g']? = some (.cells cs' t' (0, 0)))
    (hu : P.underlying ty = some d) (hd : (match d with | .struct _ | .array _ _ => true | _ => false) = true) (hi : (P.info? ty).map (·.size) = some cs.size) (hi' : (P.info? ty).map (·.size) = some cs'.size) :
    (results fn tmps).run P w = .ok (.tuple #[.agg cs, .agg cs']) w := by
  have hp' : tmps[p]?.getD undef = .pointer (some ⟨g, 0, none⟩) := by simpa using hp
  have hq' : tmps[q]?.getD undef = .pointer (some ⟨g', 0, none⟩) := by simpa using hq
  simp [results, h, hp', hq', asAddr, run_loadVar_row w g t ty cs (0, 0) d hg hu hd hi, run_loadVar_row w g' t' ty cs' (0, 0) d hg' hu hd hi']
set_option maxRecDepth 100000 in
theorem bit_low {R : Nat} {b : Bool} : cellsOf (fun i => if i = 0 then b else (2 * R).testBit i) = cellsOf (2 * R + b.toNat).testBit := cellsOf_congr fun i _ => by
  cases i with
  | zero => cases b <;> simp [Nat.testBit_zero] <;> omega
  | succ i =>
    rw [if_neg (by omega), Nat.testBit_succ, Nat.testBit_succ]
    congr 1
    cases b <;> simp <;> omega
set_option maxRecDepth 100000 in
theorem bit_high {q j : Nat} : cellsOf (fun i => if i = j then true else (q * 2 ^ (j + 1)).testBit i) = cellsOf ((2 * q + 1) * 2 ^ j).testBit := cellsOf_congr fun i _ => by
  have e : (2 * q + 1) * 2 ^ j = 2 ^ (j + 1) * q + 2 ^ j := by rw [Nat.pow_succ, Nat.add_mul, Nat.one_mul]; congr 1; rw [Nat.mul_comm 2 q, Nat.mul_assoc, Nat.mul_comm q, Nat.mul_comm 2]
  rw [e, Nat.testBit_two_pow_mul_add _ (Nat.pow_lt_pow_right (by omega) (by omega)), Nat.mul_comm q, show 2 ^ (j + 1) * q = 2 ^ (j + 1) * q + 0 from rfl, Nat.testBit_two_pow_mul_add _ (Nat.two_pow_pos _)]
  by_cases h1 : i = j
  · subst h1
    rw [if_pos rfl, if_pos (by omega), Nat.testBit_two_pow_self]
  · rw [if_neg h1]
    by_cases h2 : i < j + 1
    · rw [if_pos h2, if_pos h2, Nat.testBit_two_pow_of_ne (by omega)]
      simp
    · rw [if_neg h2, if_neg h2]
set_option maxRecDepth 100000 in
theorem quo_parts {a d j : Nat} {b : Bool} (hb : a.testBit j = b) : a / 2 ^ j = 2 * (a / 2 ^ (j + 1) % d) + b.toNat + d * (2 * (a / 2 ^ (j + 1) / d)) ∧ True := by
  have e : a / 2 ^ (j + 1) = a / 2 ^ j / 2 := by rw [Nat.div_div_eq_div_mul, ← Nat.pow_succ]
  rw [Nat.testBit_eq_decide_div_mod_eq] at hb
  have h1 : a / 2 ^ j = 2 * (a / 2 ^ (j + 1)) + b.toNat := by
    rw [e, ← hb]
    generalize a / 2 ^ j = x
    by_cases h : x % 2 = 1
    · simp [h]; omega
    · simp [h]; omega
  refine ⟨?_, trivial⟩
  have h2 := Nat.div_add_mod (a / 2 ^ (j + 1)) d
  rw [Nat.mul_left_comm]
  omega
set_option maxRecDepth 100000 in
theorem quo_less {a d j : Nat} {b : Bool} (hb : a.testBit j = b) (h : 2 * (a / 2 ^ (j + 1) % d) + b.toNat < d) : a / 2 ^ j % d = 2 * (a / 2 ^ (j + 1) % d) + b.toNat ∧ a / 2 ^ j / d * 2 ^ j = a / 2 ^ (j + 1) / d * 2 ^ (j + 1) := by
  obtain ⟨h1, h2⟩ := quo_parts (d := d) hb
  have h3 : a / 2 ^ j / d = 2 * (a / 2 ^ (j + 1) / d) ∧ a / 2 ^ j % d = 2 * (a / 2 ^ (j + 1) % d) + b.toNat := by
    rw [Nat.div_mod_unique (by omega)]
    exact ⟨by rw [h1], h⟩
  refine ⟨h3.2, ?_⟩
  rw [h3.1, Nat.pow_succ, Nat.mul_comm 2, Nat.mul_assoc, Nat.mul_comm 2]
set_option maxRecDepth 100000 in
theorem quo_more {a d j : Nat} {b : Bool} (hd : 0 < d) (hb : a.testBit j = b) (h : ¬ 2 * (a / 2 ^ (j + 1) % d) + b.toNat < d) : a / 2 ^ j % d = 2 * (a / 2 ^ (j + 1) % d) + b.toNat - d ∧ a / 2 ^ j / d * 2 ^ j = (2 * (a / 2 ^ (j + 1) / d) + 1) * 2 ^ j := by
  obtain ⟨h1, h2⟩ := quo_parts (d := d) hb
  have h3 : a / 2 ^ j / d = 2 * (a / 2 ^ (j + 1) / d) + 1 ∧ a / 2 ^ j % d = 2 * (a / 2 ^ (j + 1) % d) + b.toNat - d := by
    rw [Nat.div_mod_unique hd]
    have hm := Nat.mod_lt (a / 2 ^ (j + 1)) hd
    have hbb : b.toNat ≤ 1 := by cases b <;> simp
    refine ⟨?_, by omega⟩
    rw [h1, Nat.mul_add, Nat.mul_one]
    omega
  refine ⟨h3.2, ?_⟩
  rw [h3.1]


end Go.Proofs.Ytfgabmelmopgdaa
