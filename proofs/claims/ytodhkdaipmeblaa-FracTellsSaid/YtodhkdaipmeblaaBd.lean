/-
  The contract of the document's Scaled. No statement is proved here.
-/
import Derived.Test.YtodhkdaipmeblaaBe
namespace Go.Proofs.Ytodhkdaipmeblaa
open Go.RowKit

theorem of_c (hi lo : Nat) (w : World) (hh : hi < 2 ^ 64) (hl : lo < 2 ^ 64) : Calls Try.prog 18 #[.agg #[.int .u64 (hi : Int), .int .u64 (lo : Int)]] w (Row (cellsOf (hi * 2 ^ 64 + lo).testBit) w) := of_any hi lo w hh hl
theorem of_low (lo : Nat) (w : World) (hl : lo < 2 ^ 64) : Calls Try.prog 18 #[.agg #[.int .u64 0, .int .u64 (lo : Int)]] w (Row (cellsOf lo.testBit) w) := by
  have := of_any 0 lo w (by omega) hl
  rw [Nat.zero_mul, Nat.zero_add] at this
  exact this
theorem of_one (w : World) : Calls Try.prog 18 #[.agg #[.int .u64 0, .int .u64 1]] w (Row (cellsOf (1 : Nat).testBit) w) := of_low 1 w (by omega)
theorem product_c (a m : Nat) (w : World) (hm : m < 2 ^ 64) : Calls Try.prog 33 #[.agg (cellsOf a.testBit), .int .u64 (m : Int)] w (Row (cellsOf (a * m).testBit) w) := product_any a m w hm
theorem quotient_c (a d : Nat) (w : World) (ha : a < 2 ^ 256) (hd0 : 0 < d) (hd : d ≤ 2 ^ 255) : Calls Try.prog 17 #[.agg (cellsOf a.testBit), .agg (cellsOf d.testBit)] w fun e w' =>
    e = .returned (.tuple #[.agg (cellsOf (a / d).testBit), .agg (cellsOf (a % d).testBit)]) ∧ Below w.heap.size w w' := quotient_any a d w ha hd0 hd
theorem number_c (N : Nat) (w : World) (hN : N < 2 ^ 256) : Calls Try.prog 19 #[.agg (cellsOf N.testBit)] w fun e w' =>
    e = .returned (.tuple #[.agg #[.int .u64 ((N % 2 ^ 128 / 2 ^ 64 : Nat) : Int), .int .u64 ((N % 2 ^ 64 : Nat) : Int)], .bool (decide (N < 2 ^ 128))]) ∧ Below w.heap.size w w' := number_any N w hN

theorem results_cell_row_tmp {P : Program} {fn : Func} {p q : Tmp} {ty : TypeId} (h : fn.results = #[.cell p ty, .tmp q]) (tmps : Array Value) (w : World) (g : Nat) (t : TypeId) (cs : Array Value) (d : TypeDesc)
    (hp : tmps.getD p undef = .pointer (some ⟨g, 0, none⟩)) (hg : w.heap[g]? = some (.cells cs t (0, 0)))
    (hu : P.underlying ty = some d) (hd : (match d with | .struct _ | .array _ _ => true | _ => false) = true) (hi : (P.info? ty).map (·.size) = some cs.size) :
    (results fn tmps).run P w = .ok (.tuple #[.agg cs, tmps.getD q undef]) w := by
  have hp' : tmps[p]?.getD undef = .pointer (some ⟨g, 0, none⟩) := by simpa using hp
  simp [results, h, hp', asAddr, run_loadVar_row w g t ty cs (0, 0) d hg hu hd hi]

theorem bits_none {r : Nat} (hr : r = 0) : true = true ↔ ∀ i, i < 256 → r.testBit i = none_ i := by simp [hr, none_]
theorem bits_some {r : Nat} (hb : r < 2 ^ 64) (hr : r ≠ 0) : false = true ↔ ∀ i, i < 256 → r.testBit i = none_ i := by
  constructor
  · intro h; cases h
  · intro h
    exfalso
    apply hr
    apply Nat.eq_of_testBit_eq
    intro i
    rw [Nat.zero_testBit]
    by_cases hi : i < 256
    · exact h i hi
    · exact Nat.testBit_lt_two_pow (Nat.lt_of_lt_of_le hb (Nat.pow_le_pow_right (by omega) (by omega)))

end Go.Proofs.Ytodhkdaipmeblaa
