/-
  Rows of 256 bits: words and the contracts of the document's Twice. No statement is proved here.
-/
import Derived.Test.YtfgabmelmopgdaaBl
import Derived.WalkKit
import Derived.WalkSpells
import Derived.WalkLawsBesides
import Derived.RegionTactic
import Derived.Deep.QuietTactic
import Derived.BigQuiet
import Derived.Lib.Hide
import Derived.OwnWalk
import Derived.Laws.Rows
namespace Go.Proofs.Ytfgabmelmopgdaa
open Go.RowKit

/-- 256 bits as cells -/
def cellsOf (f : Nat → Bool) : Array Value := (Array.range 256).map fun i => .bool (f i)
set_option maxRecDepth 100000 in
theorem cellsOf_size (f : Nat → Bool) : (cellsOf f).size = 256 := by simp [cellsOf]
set_option maxRecDepth 100000 in
theorem cellsOf_at (f : Nat → Bool) {i : Nat} (h : i < 256) : (cellsOf f)[i]? = some (.bool (f i)) := by
  simp [cellsOf, h]
set_option maxRecDepth 100000 in
theorem cellsOf_ext {cs : Array Value} {f : Nat → Bool} (hs : cs.size = 256) (h : ∀ i, i < 256 → cs[i]? = some (.bool (f i))) : cs = cellsOf f := by
  apply Array.ext_getElem?
  intro i
  by_cases hi : i < 256
  · rw [h i hi, cellsOf_at f hi]
  · rw [Array.getElem?_eq_none (by omega), Array.getElem?_eq_none (by rw [cellsOf_size]; omega)]
set_option maxRecDepth 100000 in
theorem cellsOf_set (f : Nat → Bool) {i : Nat} (h : i < 256) (b : Bool) : (cellsOf f).setIfInBounds i (.bool b) = cellsOf (fun j => if j = i then b else f j) := by
  apply cellsOf_ext (by simp [cellsOf_size])
  intro j hj
  rw [Array.getElem?_setIfInBounds]
  by_cases e : i = j
  · subst e; simp [cellsOf_size, h]
  · rw [if_neg e, cellsOf_at f hj, if_neg (fun h => e h.symm)]
/-- none of them -/
def none_ : Nat → Bool := fun _ => false
set_option maxRecDepth 100000 in
theorem zero_bits (w : World) : (zeroValue 108).run Try.prog w = .ok (.agg (cellsOf none_)) w := by kernel_rfl
set_option maxRecDepth 100000 in
theorem info_bits : (Try.prog.info? 108).map (·.size) = some 256 := by kernel_rfl

set_option maxRecDepth 100000 in
theorem cellsOf_one (f : Nat → Bool) : (cellsOf f).all (·.oneCell') = true := by
  unfold cellsOf
  rw [Array.all_eq_true_iff_forall_mem]
  intro x hx
  simp only [Array.mem_map] at hx
  obtain ⟨i, _, rfl⟩ := hx
  rfl
set_option maxRecDepth 100000 in
theorem cellsOf_congr {f g : Nat → Bool} (h : ∀ i, i < 256 → f i = g i) : cellsOf f = cellsOf g :=
  cellsOf_ext (cellsOf_size f) (fun i hi => by rw [cellsOf_at f hi, h i hi])
/-- a number's bits -/
def bv (N : Nat) : Array Value := cellsOf N.testBit
set_option maxRecDepth 100000 in
theorem size_bits (f : Nat → Bool) : (Try.prog.info? 108).map (·.size) = some (cellsOf f).size := by rw [cellsOf_size]; exact info_bits

/-- a row of bits, no error; what was there has not turned -/
def Row (cs : Array Value) (w : World) (e : Ending) (w' : World) : Prop := e = .returned (.agg cs) ∧ Below w.heap.size w w'

set_option maxHeartbeats 1000000 in
set_option maxRecDepth 100000 in
theorem twice_any (N : Nat) (w : World) : Calls Try.prog 91 #[.agg (bv N)] w (Row (bv (2 * N)) w) := by
  have hz := zero_bits
  unfold bv
  go_enter Try.func91, Try.ntmps91
  go_wp2_with fail
  go_loopw [4] (fun i wr => ∃ k : Nat, 1 ≤ k ∧ k ≤ 256 ∧ i = .int .i64 k ∧ Blk wr w.heap.size 108 (cellsOf N.testBit) ∧ Blk wr (w.heap.size + 1) 108 (cellsOf none_) ∧
    Blk wr (w.heap.size + 1 + 1) 108 (cellsOf fun j => decide (j < k) && (2 * N).testBit j) ∧ Below w.heap.size w wr) (fun i _ => 256 - (intOf i).toNat)
  case atStart =>
    obtain ⟨b1, b2, b3, hb⟩ := blks3 w 108 108 108 (cellsOf N.testBit) (cellsOf none_) (cellsOf none_)
    refine ⟨1, by omega, by omega, rfl, b1, b2, ?_, hb⟩
    have e : cellsOf (fun j => decide (j < 1) && (2 * N).testBit j) = cellsOf none_ := cellsOf_congr (fun i hi => ?_)
    · rw [e]
      exact b3
    · 
      by_cases h0 : i = 0
      · subst h0
        simp [none_, Nat.testBit_zero]
      · simp [none_]; omega
  case round =>
    obtain ⟨k, h1, hk, rfl, B1, B2, B3, hB⟩ := hrel
    by_cases hlt : k < 256
    · obtain ⟨m, rfl⟩ : ∃ m, k = m + 1 := ⟨k - 1, by omega⟩
      have c1 := (B1.cell m).trans (cellsOf_at _ (by omega))
      have c3 := (B3.cell (m + 1)).trans (cellsOf_at _ (by omega))
      have f3 := B3.frozen (m + 1)
      have HB1 := Lib.hid B1
      have HB2 := Lib.hid B2
      have HB3 := Lib.hid B3
      have hsz := B3.lt
      clear B1 B2 B3
      go_wp2
      go_roundw
      case rel =>
        refine ⟨m + 1 + 1, by omega, by omega, by go_num, HB1.out.far (by simp; omega) _, HB2.out.far (by simp) _, ?_, hB.setCell (by simp; omega) _⟩
        have := HB3.out.set_ (m + 1) (.bool (N.testBit m))
        rw [cellsOf_set _ (by omega)] at this
        rw [← cellsOf_congr (fun j hj => ?_)]
        · exact this
        · by_cases e : j = m + 1
          · subst e
            simp [Nat.testBit_succ]
          · simp only [if_neg e]
            congr 1
            simp
            omega
      case measure => simp [intOf]; omega
    · obtain rfl : k = 256 := by omega
      have B3' : Blk wr (w.heap.size + 1 + 1) 108 (cellsOf (2 * N).testBit) := by
        rw [← cellsOf_congr (f := fun j => decide (j < 256) && (2 * N).testBit j) (fun i hi => by simp [hi])]
        exact B3
      have HB := Lib.hid (B2.row (cs' := cellsOf (2 * N).testBit))
      have hsz := B3.lt
      clear B3
      go_wp2_with (first
        | (refine wpList_load_row rfl 108 (.tmp 3) rfl _ rfl _ _ (0, 0) _ B3' Try.underlying108 rfl (size_bits _) ?_)
        | (refine wpList_store_row rfl 108 (.tmp 2) (.tmp 15) rfl _ _ rfl rfl _ _ B2 (size_bits _) (by rw [cellsOf_size, cellsOf_size]) (cellsOf_one _) ?_))
      exact bodyPost_ret (v := .agg (cellsOf (2 * N).testBit)) (results_cell_row Try.results91 _ _ _ _ _ _ _ rfl HB.out Try.underlying108 rfl (size_bits _)) rfl ⟨rfl, below_row hB (by omega)⟩

end Go.Proofs.Ytfgabmelmopgdaa
