/-
  The contract of the document's Scaled. No statement is proved here.
-/
import Derived.Test.YtfgabmelmopgdaaBe
namespace Go.Proofs.Ytfgabmelmopgdaa
open Go.RowKit

set_option maxRecDepth 100000 in
theorem of_c (hi lo : Nat) (w : World) (hh : hi < 2 ^ 64) (hl : lo < 2 ^ 64) : Calls Try.prog 70 #[.agg #[.int .u64 (hi : Int), .int .u64 (lo : Int)]] w (Row (cellsOf (hi * 2 ^ 64 + lo).testBit) w) := of_any hi lo w hh hl
set_option maxRecDepth 100000 in
theorem of_low (lo : Nat) (w : World) (hl : lo < 2 ^ 64) : Calls Try.prog 70 #[.agg #[.int .u64 0, .int .u64 (lo : Int)]] w (Row (cellsOf lo.testBit) w) := by
  have := of_any 0 lo w (by omega) hl
  rw [Nat.zero_mul, Nat.zero_add] at this
  exact this
set_option maxRecDepth 100000 in
theorem of_one (w : World) : Calls Try.prog 70 #[.agg #[.int .u64 0, .int .u64 1]] w (Row (cellsOf (1 : Nat).testBit) w) := of_low 1 w (by omega)
set_option maxRecDepth 100000 in
theorem product_c (a m : Nat) (w : World) (hm : m < 2 ^ 64) : Calls Try.prog 69 #[.agg (cellsOf a.testBit), .int .u64 (m : Int)] w (Row (cellsOf (a * m).testBit) w) := product_any a m w hm

set_option maxRecDepth 100000 in
theorem results_cell_row_tmp {P : Program} {fn : Func} {p q : Tmp} {ty : TypeId} (h : fn.results = #[.cell p ty, .tmp q]) (tmps : Array Value) (w : World) (g : Nat) (t : TypeId) (cs : Array Value) (d : TypeDesc)
    (hp : tmps.getD p undef = .pointer (some ⟨g, 0, none⟩)) (hg : w.heap[g]? = some (.cells cs t (0, 0)))
    (hu : P.underlying ty = some d) (hd : (match d with | .struct _ | .array _ _ => true | _ => false) = true) (hi : (P.info? ty).map (·.size) = some cs.size) :
    (results fn tmps).run P w = .ok (.tuple #[.agg cs, tmps.getD q undef]) w := by
  have hp' : tmps[p]?.getD undef = .pointer (some ⟨g, 0, none⟩) := by simpa using hp
  simp [results, h, hp', asAddr, run_loadVar_row w g t ty cs (0, 0) d hg hu hd hi]

set_option maxRecDepth 100000 in
theorem bits_none {r : Nat} (hr : r = 0) : true = true ↔ ∀ i, i < 256 → r.testBit i = none_ i := by simp [hr, none_]
set_option maxRecDepth 100000 in
theorem bits_some {r : Nat} (hb : r < 2 ^ 64) (hr : r ≠ 0) : false = true ↔ ∀ i, i < 256 → r.testBit i = none_ i := by
  constructor
  · intro h; cases h
  · intro h
    exfalso
    apply hr
    apply Nat.eq_of_testBit_eq
    intro i
    rw [Nat.zero_testBit]
    by_cases hi : i < 256
    · exact h i hi
    · exact Nat.testBit_lt_two_pow (Nat.lt_of_lt_of_le hb (Nat.pow_le_pow_right (by omega) (by omega)))

end Go.Proofs.Ytfgabmelmopgdaa
