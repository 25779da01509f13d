/-
  Several texts as one.
-/
import Derived.Test.YtngbamoffjlodaaRows
import Derived.WalkKit
import Derived.WalkSmall
import Derived.Deep.Draws
import Derived.Laws.AppendOwn
import Derived.Laws.Tables
import Derived.Laws.Rows
import Derived.WalkSpells
import Derived.WalkLawsBesides
import Derived.RegionTactic
import Derived.Deep.QuietTactic
import Derived.BigQuiet
import Derived.Lib.Hide
import Derived.OwnWalk
import Derived.ChangeKeysEq
import Derived.BigFrame
/-
  Words for a block that is known whole. No statement is proved here.
-/
namespace Go.Proofs.Ytngbamoffjlodaa
open Go.RowKit

def Blk (w : World) (g : Nat) (t : TypeId) (cs : Array Value) : Prop := w.heap[g]? = some (.cells cs t (0, 0))
section
variable {w w' : World} {g : Nat} {t : TypeId} {cs : Array Value}
set_option maxRecDepth 100000 in
theorem Blk.lt (h : Blk w g t cs) : g < w.heap.size := by
  rcases Nat.lt_or_ge g w.heap.size with hlt | hge
  · exact hlt
  · unfold Blk at h; rw [Array.getElem?_eq_none hge] at h; cases h
set_option maxRecDepth 100000 in
theorem Blk.cell (h : Blk w g t cs) (i : Nat) : w.cell? ⟨g, i, none⟩ = cs[i]? := cell_of_row w g i cs t (0, 0) h
set_option maxRecDepth 100000 in
theorem Blk.frozen (h : Blk w g t cs) (i : Nat) : w.frozen? ⟨g, i, none⟩ = false := by
  unfold Blk at h
  simp [World.frozen?, h]
set_option maxRecDepth 100000 in
theorem Blk.new (w : World) (t : TypeId) (cs : Array Value) : Blk (w.alloc (.cells cs t)) w.heap.size t cs := heap_alloc_new w _
set_option maxRecDepth 100000 in
theorem Blk.drewN (h : Blk w g t cs) (n : Nat) : Blk (w.drewN n) g t cs := h
set_option maxRecDepth 100000 in
theorem Blk.alloc (h : Blk w g t cs) (o : Obj) : Blk (w.alloc o) g t cs := (Below.heap_alloc w o g h.lt).trans h
set_option maxRecDepth 100000 in
theorem Blk.set_ (h : Blk w g t cs) (i : Nat) (u : Value) : Blk (w.setCell ⟨g, i, none⟩ u) g t (cs.setIfInBounds i u) := by
  unfold Blk at h ⊢
  simp [World.setCell, Array.getElem?_modify, h]
set_option maxRecDepth 100000 in
theorem Blk.below {B : Nat} (h : Blk w g t cs) (hb : Below B w w') (hg : g < B) : Blk w' g t cs := (hb.block g hg).trans h
set_option maxRecDepth 100000 in
theorem Blk.row {cs' : Array Value} (h : Blk w g t cs) : Blk (w.setRow g cs') g t cs' := by
  unfold Blk at h ⊢
  simp [World.setRow, Array.getElem?_modify, h]
set_option maxRecDepth 100000 in
theorem Blk.other {g' : Nat} {cs' : Array Value} (h : Blk w g t cs) (hg : g ≠ g') : Blk (w.setRow g' cs') g t cs := by
  unfold Blk at h ⊢
  simp [World.setRow, Array.getElem?_modify, h]
  intro e; exact absurd e.symm hg
set_option maxRecDepth 100000 in
theorem Blk.far (h : Blk w g t cs) {p : Addr} (hp : g ≠ p.block) (u : Value) : Blk (w.setCell p u) g t cs := (Below.heap_setCell w p u g hp).trans h
set_option maxRecDepth 100000 in
theorem below_row {B g' : Nat} {cs' : Array Value} {a : World} (h : Below B a w) (hg : B ≤ g') : Below B a (w.setRow g' cs') :=
  ⟨h.os, h.tape, h.output, by have := h.size; simpa [World.setRow] using this, fun k hk => by
    have : (w.setRow g' cs').heap[k]? = w.heap[k]? := by
      simp only [World.setRow, Array.getElem?_modify]
      rw [if_neg (by omega)]
    rw [this]; exact h.block k hk⟩
set_option maxRecDepth 100000 in
theorem Blk.set2 {a b x y : Value} (h : Blk w g t #[a, b]) : Blk ((w.setCell ⟨g, 0, none⟩ x).setCell ⟨g, 1, none⟩ y) g t #[x, y] := by
  have := (h.set_ 0 x).set_ 1 y
  simpa using this
set_option maxRecDepth 100000 in
theorem Blk.set3 {a b x y z : Value} (h : Blk w g t #[a, b]) : Blk (((w.setCell ⟨g, 0, none⟩ x).setCell ⟨g, 1, none⟩ y).setCell ⟨g, 1, none⟩ z) g t #[x, z] := by
  have := ((h.set_ 0 x).set_ 1 y).set_ 1 z
  simpa using this
set_option maxRecDepth 100000 in
theorem blks2 (w : World) (t1 t2 : TypeId) (a b : Array Value) : Blk ((w.alloc (.cells a t1)).alloc (.cells b t2)) w.heap.size t1 a ∧ Blk ((w.alloc (.cells a t1)).alloc (.cells b t2)) (w.heap.size + 1) t2 b ∧
    Below w.heap.size w ((w.alloc (.cells a t1)).alloc (.cells b t2)) :=
  ⟨(Blk.new w t1 a).alloc _, by have := Blk.new (w.alloc (.cells a t1)) t2 b; simpa using this, ((Below.refl _ _).alloc (Nat.le_refl _) _).alloc (by simp) _⟩
set_option maxRecDepth 100000 in
theorem blks3 (w : World) (t1 t2 t3 : TypeId) (a b c : Array Value) : Blk (((w.alloc (.cells a t1)).alloc (.cells b t2)).alloc (.cells c t3)) w.heap.size t1 a ∧
    Blk (((w.alloc (.cells a t1)).alloc (.cells b t2)).alloc (.cells c t3)) (w.heap.size + 1) t2 b ∧ Blk (((w.alloc (.cells a t1)).alloc (.cells b t2)).alloc (.cells c t3)) (w.heap.size + 1 + 1) t3 c ∧
    Below w.heap.size w (((w.alloc (.cells a t1)).alloc (.cells b t2)).alloc (.cells c t3)) :=
  ⟨((Blk.new w t1 a).alloc _).alloc _, by have := (Blk.new (w.alloc (.cells a t1)) t2 b).alloc (.cells c t3); simpa using this,
    by have := Blk.new ((w.alloc (.cells a t1)).alloc (.cells b t2)) t3 c; simpa using this,
    (((Below.refl _ _).alloc (Nat.le_refl _) _).alloc (by simp) _).alloc (by simp; omega) _⟩
set_option maxRecDepth 100000 in
theorem blks4 (w : World) (t1 t2 t3 t4 : TypeId) (a b c d : Array Value) : Blk ((((w.alloc (.cells a t1)).alloc (.cells b t2)).alloc (.cells c t3)).alloc (.cells d t4)) w.heap.size t1 a ∧
    Blk ((((w.alloc (.cells a t1)).alloc (.cells b t2)).alloc (.cells c t3)).alloc (.cells d t4)) (w.heap.size + 1) t2 b ∧ Blk ((((w.alloc (.cells a t1)).alloc (.cells b t2)).alloc (.cells c t3)).alloc (.cells d t4)) (w.heap.size + 1 + 1) t3 c ∧
    Blk ((((w.alloc (.cells a t1)).alloc (.cells b t2)).alloc (.cells c t3)).alloc (.cells d t4)) (w.heap.size + 1 + 1 + 1) t4 d ∧
    Below w.heap.size w ((((w.alloc (.cells a t1)).alloc (.cells b t2)).alloc (.cells c t3)).alloc (.cells d t4)) := by
  obtain ⟨h1, h2, h3, hb⟩ := blks3 w t1 t2 t3 a b c
  exact ⟨h1.alloc _, h2.alloc _, h3.alloc _, by have := Blk.new (((w.alloc (.cells a t1)).alloc (.cells b t2)).alloc (.cells c t3)) t4 d; simpa using this, hb.alloc hb.size _⟩
end

end Go.Proofs.Ytngbamoffjlodaa
/-
  Rows of 256 bits: words and the contracts of the document's Twice. No statement is proved here.
-/
namespace Go.Proofs.Ytngbamoffjlodaa
open Go.RowKit

/-- 256 bits as cells -/
def cellsOf (f : Nat → Bool) : Array Value := (Array.range 256).map fun i => .bool (f i)
set_option maxRecDepth 100000 in
theorem cellsOf_size (f : Nat → Bool) : (cellsOf f).size = 256 := by simp [cellsOf]
set_option maxRecDepth 100000 in
theorem cellsOf_at (f : Nat → Bool) {i : Nat} (h : i < 256) : (cellsOf f)[i]? = some (.bool (f i)) := by
  simp [cellsOf, h]
set_option maxRecDepth 100000 in
theorem cellsOf_ext {cs : Array Value} {f : Nat → Bool} (hs : cs.size = 256) (h : ∀ i, i < 256 → cs[i]? = some (.bool (f i))) : cs = cellsOf f := by
  apply Array.ext_getElem?
  intro i
  by_cases hi : i < 256
  · rw [h i hi, cellsOf_at f hi]
  · rw [Array.getElem?_eq_none (by omega), Array.getElem?_eq_none (by rw [cellsOf_size]; omega)]
set_option maxRecDepth 100000 in
theorem cellsOf_set (f : Nat → Bool) {i : Nat} (h : i < 256) (b : Bool) : (cellsOf f).setIfInBounds i (.bool b) = cellsOf (fun j => if j = i then b else f j) := by
  apply cellsOf_ext (by simp [cellsOf_size])
  intro j hj
  rw [Array.getElem?_setIfInBounds]
  by_cases e : i = j
  · subst e; simp [cellsOf_size, h]
  · rw [if_neg e, cellsOf_at f hj, if_neg (fun h => e h.symm)]
/-- none of them -/
def none_ : Nat → Bool := fun _ => false
set_option maxRecDepth 100000 in
theorem zero_bits (w : World) : (zeroValue 113).run Try.prog w = .ok (.agg (cellsOf none_)) w := by kernel_rfl
set_option maxRecDepth 100000 in
theorem info_bits : (Try.prog.info? 113).map (·.size) = some 256 := by kernel_rfl

set_option maxRecDepth 100000 in
theorem cellsOf_one (f : Nat → Bool) : (cellsOf f).all (·.oneCell') = true := by
  unfold cellsOf
  rw [Array.all_eq_true_iff_forall_mem]
  intro x hx
  simp only [Array.mem_map] at hx
  obtain ⟨i, _, rfl⟩ := hx
  rfl
set_option maxRecDepth 100000 in
theorem cellsOf_congr {f g : Nat → Bool} (h : ∀ i, i < 256 → f i = g i) : cellsOf f = cellsOf g :=
  cellsOf_ext (cellsOf_size f) (fun i hi => by rw [cellsOf_at f hi, h i hi])
/-- a number's bits -/
def bv (N : Nat) : Array Value := cellsOf N.testBit
set_option maxRecDepth 100000 in
theorem size_bits (f : Nat → Bool) : (Try.prog.info? 113).map (·.size) = some (cellsOf f).size := by rw [cellsOf_size]; exact info_bits

/-- a row of bits, no error; what was there has not turned -/
def Row (cs : Array Value) (w : World) (e : Ending) (w' : World) : Prop := e = .returned (.agg cs) ∧ Below w.heap.size w w'

set_option maxHeartbeats 1000000 in
set_option maxRecDepth 100000 in
theorem twice_any (N : Nat) (w : World) : Calls Try.prog 97 #[.agg (bv N)] w (Row (bv (2 * N)) w) := by
  have hz := zero_bits
  unfold bv
  go_enter Try.func97, Try.ntmps97
  go_wp2_with fail
  go_loopw [4] (fun i wr => ∃ k : Nat, 1 ≤ k ∧ k ≤ 256 ∧ i = .int .i64 k ∧ Blk wr w.heap.size 113 (cellsOf N.testBit) ∧ Blk wr (w.heap.size + 1) 113 (cellsOf none_) ∧
    Blk wr (w.heap.size + 1 + 1) 113 (cellsOf fun j => decide (j < k) && (2 * N).testBit j) ∧ Below w.heap.size w wr) (fun i _ => 256 - (intOf i).toNat)
  case atStart =>
    obtain ⟨b1, b2, b3, hb⟩ := blks3 w 113 113 113 (cellsOf N.testBit) (cellsOf none_) (cellsOf none_)
    refine ⟨1, by omega, by omega, rfl, b1, b2, ?_, hb⟩
    have e : cellsOf (fun j => decide (j < 1) && (2 * N).testBit j) = cellsOf none_ := cellsOf_congr (fun i hi => ?_)
    · rw [e]
      exact b3
    · 
      by_cases h0 : i = 0
      · subst h0
        simp [none_, Nat.testBit_zero]
      · simp [none_]; omega
  case round =>
    obtain ⟨k, h1, hk, rfl, B1, B2, B3, hB⟩ := hrel
    by_cases hlt : k < 256
    · obtain ⟨m, rfl⟩ : ∃ m, k = m + 1 := ⟨k - 1, by omega⟩
      have c1 := (B1.cell m).trans (cellsOf_at _ (by omega))
      have c3 := (B3.cell (m + 1)).trans (cellsOf_at _ (by omega))
      have f3 := B3.frozen (m + 1)
      have HB1 := Lib.hid B1
      have HB2 := Lib.hid B2
      have HB3 := Lib.hid B3
      have hsz := B3.lt
      clear B1 B2 B3
      go_wp2
      go_roundw
      case rel =>
        refine ⟨m + 1 + 1, by omega, by omega, by go_num, HB1.out.far (by simp; omega) _, HB2.out.far (by simp) _, ?_, hB.setCell (by simp; omega) _⟩
        have := HB3.out.set_ (m + 1) (.bool (N.testBit m))
        rw [cellsOf_set _ (by omega)] at this
        rw [← cellsOf_congr (fun j hj => ?_)]
        · exact this
        · by_cases e : j = m + 1
          · subst e
            simp [Nat.testBit_succ]
          · simp only [if_neg e]
            congr 1
            simp
            omega
      case measure => simp [intOf]; omega
    · obtain rfl : k = 256 := by omega
      have B3' : Blk wr (w.heap.size + 1 + 1) 113 (cellsOf (2 * N).testBit) := by
        rw [← cellsOf_congr (f := fun j => decide (j < 256) && (2 * N).testBit j) (fun i hi => by simp [hi])]
        exact B3
      have HB := Lib.hid (B2.row (cs' := cellsOf (2 * N).testBit))
      have hsz := B3.lt
      clear B3
      go_wp2_with (first
        | (refine wpList_load_row rfl 113 (.tmp 3) rfl _ rfl _ _ (0, 0) _ B3' Try.underlying113 rfl (size_bits _) ?_)
        | (refine wpList_store_row rfl 113 (.tmp 2) (.tmp 15) rfl _ _ rfl rfl _ _ B2 (size_bits _) (by rw [cellsOf_size, cellsOf_size]) (cellsOf_one _) ?_))
      exact bodyPost_ret (v := .agg (cellsOf (2 * N).testBit)) (results_cell_row Try.results97 _ _ _ _ _ _ _ rfl HB.out Try.underlying113 rfl (size_bits _)) rfl ⟨rfl, below_row hB (by omega)⟩

end Go.Proofs.Ytngbamoffjlodaa
/-
  Sums and differences bit by bit: the plain mathematics. No statement is proved here.
-/
namespace Go.Proofs.Ytngbamoffjlodaa
open Go.RowKit

set_option maxRecDepth 100000 in
theorem grow_bit {g : Nat → Bool} {k : Nat} (hk : k < 256) {v : Bool} (hv : g k = v) :
    (cellsOf fun j => decide (j < k) && g j).setIfInBounds k (.bool v) = cellsOf fun j => decide (j < k + 1) && g j := by
  rw [cellsOf_set _ hk]
  refine cellsOf_congr fun j _ => ?_
  by_cases e : j = k
  · subst e; simp [hv]
  · rw [if_neg e]
    congr 1
    simp
    omega
set_option maxRecDepth 100000 in
theorem grown_all {g : Nat → Bool} : cellsOf (fun j => decide (j < 256) && g j) = cellsOf g := cellsOf_congr fun j hj => by simp [hj]
set_option maxRecDepth 100000 in
theorem grown_none {g : Nat → Bool} : cellsOf (fun j => decide (j < 0) && g j) = cellsOf none_ := cellsOf_congr fun j _ => by simp [none_]

def cy (a b i : Nat) : Bool := BitVec.carry i (BitVec.ofNat 256 a) (BitVec.ofNat 256 b) false
set_option maxRecDepth 100000 in
theorem bit_ofNat (a i : Nat) (h : i < 256) : (BitVec.ofNat 256 a).getLsbD i = a.testBit i := by rw [BitVec.getLsbD_ofNat, decide_eq_true h, Bool.true_and]
set_option maxRecDepth 100000 in
theorem sum_bit {a b i : Nat} (h : i < 256) : (a + b).testBit i = (a.testBit i ^^ (b.testBit i ^^ cy a b i)) := by
  rw [← bit_ofNat (a + b) i h, ← bit_ofNat a i h, ← bit_ofNat b i h, BitVec.ofNat_add, BitVec.getLsbD_add h]
  rfl
set_option maxRecDepth 100000 in
theorem cy_zero (a b : Nat) : cy a b 0 = false := BitVec.carry_zero
set_option maxRecDepth 100000 in
theorem cy_succ {a b i : Nat} (h : i < 256) : cy a b (i + 1) = Bool.atLeastTwo (a.testBit i) (b.testBit i) (cy a b i) := by
  unfold cy
  rw [BitVec.carry_succ, bit_ofNat a i h, bit_ofNat b i h]

end Go.Proofs.Ytngbamoffjlodaa
/-
  The contracts of the document's sums and differences of rows of bits. No statement is proved here.
-/
namespace Go.Proofs.Ytngbamoffjlodaa
open Go.RowKit

set_option maxHeartbeats 4000000 in
set_option maxRecDepth 100000 in
theorem sum_any (a b : Nat) (w : World) : Calls Try.prog 98 #[.agg (bv a), .agg (bv b)] w (Row (bv (a + b)) w) := by
  have hz := zero_bits
  unfold bv
  go_enter Try.func98, Try.ntmps98
  go_wp2_with fail
  go_loopw [6, 7] (fun c i wr => ∃ k : Nat, k ≤ 256 ∧ i = .int .i64 k ∧ c = .bool (cy a b k) ∧ Blk wr w.heap.size 113 (cellsOf a.testBit) ∧ Blk wr (w.heap.size + 1) 113 (cellsOf b.testBit) ∧
    Blk wr (w.heap.size + 1 + 1) 113 (cellsOf none_) ∧ Blk wr (w.heap.size + 1 + 1 + 1) 113 (cellsOf fun j => decide (j < k) && (a + b).testBit j) ∧ Below w.heap.size w wr) (fun _ i _ => 256 - (intOf i).toNat)
  case atStart =>
    obtain ⟨b1, b2, b3, b4, hb⟩ := blks4 w 113 113 113 113 (cellsOf a.testBit) (cellsOf b.testBit) (cellsOf none_) (cellsOf none_)
    exact ⟨0, by omega, rfl, by rw [cy_zero], b1, b2, b3, by rw [grown_none]; exact b4, hb⟩
  case round =>
    obtain ⟨k, hk, rfl, rfl, B1, B2, B3, B4, hB⟩ := hrel
    by_cases hlt : k < 256
    · have c1 := (B1.cell k).trans (cellsOf_at _ hlt)
      have c2 := (B2.cell k).trans (cellsOf_at _ hlt)
      have c4 := (B4.cell k).trans (cellsOf_at _ hlt)
      have f4 := B4.frozen k
      have HB1 := Lib.hid B1
      have HB2 := Lib.hid B2
      have HB3 := Lib.hid B3
      have HB4 := Lib.hid B4
      have hsz := B4.lt
      have HS := Lib.hid (sum_bit (a := a) (b := b) hlt)
      have HC := Lib.hid (cy_succ (a := a) (b := b) hlt)
      clear B1 B2 B3 B4
      cases ha : a.testBit k <;> cases hb : b.testBit k <;> cases hc : cy a b k
      all_goals
        rw [ha] at c1
        rw [hb] at c2
        have HV := Lib.hid (show (a + b).testBit k = _ by rw [HS.out, ha, hb, hc])
        have HC2 := Lib.hid (show cy a b (k + 1) = _ by rw [HC.out, ha, hb, hc])
        clear ha hb hc
        go_wp2
        go_roundw
        case rel =>
          exact ⟨k + 1, by omega, by go_num, by rw [HC2.out]; rfl, HB1.out.far (by simp <;> omega) _, HB2.out.far (by simp <;> omega) _, HB3.out.far (by simp) _,
            by rw [← grow_bit hlt HV.out]; exact HB4.out.set_ k _, hB.setCell (by simp <;> omega) _⟩
        case measure => simp [intOf]; omega
    · obtain rfl : k = 256 := by omega
      rw [grown_all] at B4
      have HB := Lib.hid (B3.row (cs' := cellsOf (a + b).testBit))
      have hsz := B4.lt
      go_wp2_with (first
        | (refine wpList_load_row rfl 113 (.tmp 5) rfl _ rfl _ _ (0, 0) _ B4 Try.underlying113 rfl (size_bits _) ?_)
        | (refine wpList_store_row rfl 113 (.tmp 4) (.tmp 33) rfl _ _ rfl rfl _ _ B3 (size_bits _) (by rw [cellsOf_size, cellsOf_size]) (cellsOf_one _) ?_))
      exact bodyPost_ret (v := .agg (cellsOf (a + b).testBit)) (results_cell_row Try.results98 _ _ _ _ _ _ _ rfl HB.out Try.underlying113 rfl (size_bits _)) rfl ⟨rfl, below_row hB (by omega)⟩


set_option maxRecDepth 100000 in
theorem top_bits {a b m : Nat} (h : ∀ j, m < j → j < 256 → a.testBit j = b.testBit j) (ha : a < 2 ^ 256) (hb : b < 2 ^ 256) : a / 2 ^ (m + 1) = b / 2 ^ (m + 1) := by
  apply Nat.eq_of_testBit_eq
  intro i
  rw [Nat.testBit_div_two_pow, Nat.testBit_div_two_pow]
  by_cases hi : i + (m + 1) < 256
  · exact h _ (by omega) hi
  · rw [Nat.testBit_lt_two_pow (Nat.lt_of_lt_of_le ha (Nat.pow_le_pow_right (by omega) (by omega))), Nat.testBit_lt_two_pow (Nat.lt_of_lt_of_le hb (Nat.pow_le_pow_right (by omega) (by omega)))]
set_option maxRecDepth 100000 in
theorem less_at {a b m : Nat} (h : ∀ j, m < j → j < 256 → a.testBit j = b.testBit j) (ha : a < 2 ^ 256) (hb : b < 2 ^ 256) (h1 : a.testBit m = false) (h2 : b.testBit m = true) : a < b := by
  have ht := top_bits h ha hb
  rw [Nat.pow_succ, ← Nat.div_div_eq_div_mul, ← Nat.div_div_eq_div_mul] at ht
  rw [Nat.testBit_eq_decide_div_mod_eq] at h1 h2
  have h1' := of_decide_eq_false h1
  have h2' := of_decide_eq_true h2
  generalize hq : a / 2 ^ m = x at *
  generalize hr : b / 2 ^ m = y at *
  have hlt : x < y := by omega
  rw [← hq, ← hr] at hlt
  exact Nat.lt_of_not_le fun hle => absurd (Nat.div_le_div_right (c := 2 ^ m) hle) (by omega)
set_option maxRecDepth 100000 in
theorem same_all {a b : Nat} (h : ∀ j, j < 256 → a.testBit j = b.testBit j) (ha : a < 2 ^ 256) (hb : b < 2 ^ 256) : a = b := by
  apply Nat.eq_of_testBit_eq
  intro i
  by_cases hi : i < 256
  · exact h i hi
  · rw [Nat.testBit_lt_two_pow (Nat.lt_of_lt_of_le ha (Nat.pow_le_pow_right (by omega) (by omega))), Nat.testBit_lt_two_pow (Nat.lt_of_lt_of_le hb (Nat.pow_le_pow_right (by omega) (by omega)))]

set_option maxHeartbeats 4000000 in
set_option maxRecDepth 100000 in
theorem less_any (a b : Nat) (w : World) (ha : a < 2 ^ 256) (hb : b < 2 ^ 256) : Calls Try.prog 74 #[.agg (bv a), .agg (bv b)] w fun e w' => e = .returned (.bool (decide (a < b))) ∧ Below w.heap.size w w' := by
  have HA := Lib.hid ha
  have HB := Lib.hid hb
  clear ha hb
  unfold bv
  go_enter Try.func74, Try.ntmps74
  go_wp2_with fail
  go_loopw [5] (fun i wr => ∃ (k : Nat) (i0 : Int), k ≤ 256 ∧ i = .int .i64 i0 ∧ i0 = (k : Int) - 1 ∧ Blk wr w.heap.size 113 (cellsOf a.testBit) ∧ Blk wr (w.heap.size + 1) 113 (cellsOf b.testBit) ∧
    (∀ j, k ≤ j → j < 256 → a.testBit j = b.testBit j) ∧ Below w.heap.size w wr) (fun i _ => (intOf i + 1).toNat)
  case atStart =>
    obtain ⟨b1, b2, hbw⟩ := blks2 w 113 113 (cellsOf a.testBit) (cellsOf b.testBit)
    exact ⟨256, 255, by omega, rfl, by omega, b1, b2, fun j h1 h2 => by omega, hbw⟩
  case round =>
    obtain ⟨k, i0, hk, rfl, hi0, B1, B2, hall, hB⟩ := hrel
    have HALL := Lib.hid hall
    clear hall
    rcases k with _ | m
    · obtain rfl : i0 = -1 := by omega
      have HE := Lib.hid (show decide (a < b) = false from decide_eq_false (by have := same_all (fun j hj => HALL.out j (by omega) hj) HA.out HB.out; omega))
      clear hi0
      go_wp2
      go_ret
      exact ⟨by rw [HE.out]; rfl, hB⟩
    · obtain rfl : i0 = (m : Int) := by omega
      have c1 := (B1.cell m).trans (cellsOf_at _ (by omega))
      have c2 := (B2.cell m).trans (cellsOf_at _ (by omega))
      have HB1 := Lib.hid B1
      have HB2 := Lib.hid B2
      have hm : m < 256 := by omega
      clear B1 B2 hi0
      cases h1 : a.testBit m <;> cases h2 : b.testBit m
      · rw [h1] at c1
        rw [h2] at c2
        have HN := Lib.hid (show ∀ j, m ≤ j → j < 256 → a.testBit j = b.testBit j from fun j hj hj2 => by
          rcases Nat.lt_or_ge m j with h | h
          · exact HALL.out j h hj2
          · obtain rfl : j = m := by omega
            rw [h1, h2])
        clear h1 h2
        go_wp2
        go_quiet (fail)
        go_wp2
        go_roundw
        case rel => exact ⟨m, _, by omega, rfl, by omega, HB1.out, HB2.out, HN.out, below_drewN hB _⟩
        case measure => simp [intOf]
      · rw [h1] at c1
        rw [h2] at c2
        have HE := Lib.hid (show decide (a < b) = true from decide_eq_true (less_at (fun j hj hj2 => HALL.out j hj hj2) HA.out HB.out h1 h2))
        clear h1 h2
        go_wp2
        go_quiet (fail)
        go_wp2
        go_ret
        exact ⟨by rw [HE.out]; rfl, below_drewN hB _⟩
      · rw [h1] at c1
        rw [h2] at c2
        have HE := Lib.hid (show decide (a < b) = false from decide_eq_false (by
          have := less_at (a := b) (b := a) (fun j hj hj2 => (HALL.out j hj hj2).symm) HB.out HA.out h2 h1
          omega))
        clear h1 h2
        go_wp2
        go_quiet (fail)
        go_wp2
        go_ret
        exact ⟨by rw [HE.out]; rfl, below_drewN hB _⟩
      · rw [h1] at c1
        rw [h2] at c2
        have HN := Lib.hid (show ∀ j, m ≤ j → j < 256 → a.testBit j = b.testBit j from fun j hj hj2 => by
          rcases Nat.lt_or_ge m j with h | h
          · exact HALL.out j h hj2
          · obtain rfl : j = m := by omega
            rw [h1, h2])
        clear h1 h2
        go_wp2
        go_quiet (fail)
        go_wp2
        go_roundw
        case rel => exact ⟨m, _, by omega, rfl, by omega, HB1.out, HB2.out, HN.out, below_drewN hB _⟩
        case measure => simp [intOf]

end Go.Proofs.Ytngbamoffjlodaa
/-
  The contracts of the document's bits of a number, and the number of bits. No statement is proved here.
-/
namespace Go.Proofs.Ytngbamoffjlodaa
open Go.RowKit

set_option maxRecDepth 100000 in
theorem bitI (x k : Nat) : (((x : Int) / 2 ^ k).tmod 2 == 1) = x.testBit k := by
  have e : (x : Int) / 2 ^ k = ((x / 2 ^ k : Nat) : Int) := by simp
  rw [e, Nat.testBit_eq_decide_div_mod_eq]
  have e2 : ((x / 2 ^ k : Nat) : Int).tmod 2 = ((x / 2 ^ k % 2 : Nat) : Int) := by rw [Int.ofNat_tmod]; rfl
  rw [e2, Bool.eq_iff_iff]
  simp
  omega
set_option maxRecDepth 100000 in
theorem wide_bits {hi lo : Nat} (hh : hi < 2 ^ 64) (hl : lo < 2 ^ 64) : cellsOf (fun j => (decide (j < 64) && lo.testBit j) || (decide (64 ≤ j) && decide (j < 64 + 64) && hi.testBit (j - 64))) = bv (hi * 2 ^ 64 + lo) :=
  cellsOf_congr fun j _ => by
    rw [Nat.mul_comm, Nat.testBit_two_pow_mul_add hi hl j]
    by_cases h1 : j < 64
    · have h2 : ¬ 64 ≤ j := by omega
      simp [h1, h2]
    · have h2 : 64 ≤ j := by omega
      by_cases h3 : j < 64 + 64
      · simp [h1, h2, h3]
      · have : hi.testBit (j - 64) = false := Nat.testBit_lt_two_pow (Nat.lt_of_lt_of_le hh (Nat.pow_le_pow_right (by omega) (by omega)))
        simp [h1, this]

set_option maxHeartbeats 4000000 in
set_option maxRecDepth 100000 in
theorem of_any (hi lo : Nat) (w : World) (hh : hi < 2 ^ 64) (hl : lo < 2 ^ 64) : Calls Try.prog 73 #[.agg #[.int .u64 (hi : Int), .int .u64 (lo : Int)]] w (Row (bv (hi * 2 ^ 64 + lo)) w) := by
  have hz := zero_bits
  have HH := Lib.hid hh
  have HL := Lib.hid hl
  clear hh hl
  unfold bv
  go_enter Try.func73, Try.ntmps73
  go_wp2_with fail
  go_loopw [4] (fun i wr => ∃ k : Nat, k ≤ 64 ∧ i = .int .i64 k ∧ Blk wr w.heap.size 43 #[.int .u64 (hi : Int), .int .u64 (lo : Int)] ∧ Blk wr (w.heap.size + 1) 113 (cellsOf none_) ∧
    Blk wr (w.heap.size + 1 + 1) 113 (cellsOf fun j => (decide (j < k) && lo.testBit j) || (decide (64 ≤ j) && decide (j < 64 + k) && hi.testBit (j - 64))) ∧ Below w.heap.size w wr) (fun i _ => 64 - (intOf i).toNat)
  case atStart =>
    obtain ⟨b1, b2, b3, hb⟩ := blks3 w 43 113 113 #[.int .u64 (hi : Int), .int .u64 (lo : Int)] (cellsOf none_) (cellsOf none_)
    refine ⟨0, by omega, rfl, b1, b2, ?_, hb⟩
    have e : cellsOf (fun j => (decide (j < 0) && lo.testBit j) || (decide (64 ≤ j) && decide (j < 64 + 0) && hi.testBit (j - 64))) = cellsOf none_ := cellsOf_congr (fun j hj => by
      have : ¬ (64 ≤ j ∧ j < 64) := by omega
      by_cases h1 : 64 ≤ j
      · simp [none_, h1]; omega
      · simp [none_, h1])
    rw [e]
    exact b3
  case round =>
    obtain ⟨k, hk, rfl, B1, B2, B3, hB⟩ := hrel
    by_cases hlt : k < 64
    · have c1 : wr.cell? ⟨w.heap.size, 0, none⟩ = some (.int .u64 (hi : Int)) := B1.cell 0
      have c2 : wr.cell? ⟨w.heap.size, 1, none⟩ = some (.int .u64 (lo : Int)) := B1.cell 1
      have c3 := (B3.cell k).trans (cellsOf_at _ (by omega))
      have c4 := (B3.cell (64 + k)).trans (cellsOf_at _ (by omega))
      have f3 := B3.frozen k
      have f4 := B3.frozen (64 + k)
      have hki : (64 : Int) + (k : Int) < 256 := by omega
      have hki0 : 0 ≤ (64 : Int) + (k : Int) := by omega
      have hki2 : ((64 : Int) + (k : Int)).toNat = 64 + k := by omega
      have HB1 := Lib.hid B1
      have HB2 := Lib.hid B2
      have HB3 := Lib.hid B3
      have hsz := B3.lt
      clear B1 B2 B3
      go_wp2
      go_roundw
      case rel =>
        refine ⟨k + 1, by omega, by go_num, (HB1.out.far (by simp <;> omega) _).far (by simp <;> omega) _, (HB2.out.far (by simp) _).far (by simp) _, ?_, (hB.setCell (by simp <;> omega) _).setCell (by simp <;> omega) _⟩
        have h := (HB3.out.set_ k (.bool ((((lo : Int) / 2 ^ k).tmod 2 == 1)))).set_ (64 + k) (.bool ((((hi : Int) / 2 ^ k).tmod 2 == 1)))
        rw [bitI, bitI, cellsOf_set _ (by omega), cellsOf_set _ (by omega)] at h
        rw [bitI, bitI, cellsOf_congr (g := fun j => if j = 64 + k then hi.testBit k else if j = k then lo.testBit k else (decide (j < k) && lo.testBit j) || (decide (64 ≤ j) && decide (j < 64 + k) && hi.testBit (j - 64)))]
        · exact h
        · intro j hj
          by_cases e1 : j = 64 + k
          · subst e1
            have h1 : ¬ (64 + k < k + 1) := by omega
            have h2 : 64 + k < 64 + (k + 1) := by omega
            simp [h1, h2]
          · rw [if_neg e1]
            by_cases e2 : j = k
            · subst e2
              have h2 : ¬ 64 ≤ j := by omega
              simp [h2]
            · rw [if_neg e2]
              have h1 : decide (j < k + 1) = decide (j < k) := by simp; omega
              have h2 : decide (j < 64 + (k + 1)) = decide (j < 64 + k) := by simp; omega
              rw [h1, h2]
      case measure => simp [intOf]; omega
    · obtain rfl : k = 64 := by omega
      rw [wide_bits HH.out HL.out] at B3
      unfold bv at B3
      obtain ⟨V, hV⟩ : ∃ V, hi * 2 ^ 64 + lo = V := ⟨_, rfl⟩
      rw [hV] at B3
      have HV := Lib.hid hV
      clear hV
      have HB := Lib.hid (B2.row (cs' := cellsOf V.testBit))
      have hsz := B3.lt
      go_wp2_with (first
        | (refine wpList_load_row rfl 113 (.tmp 3) rfl _ rfl _ _ (0, 0) _ B3 Try.underlying113 rfl (size_bits _) ?_)
        | (refine wpList_store_row rfl 113 (.tmp 2) (.tmp 28) rfl _ _ rfl rfl _ _ B2 (size_bits _) (by rw [cellsOf_size, cellsOf_size]) (cellsOf_one _) ?_))
      exact bodyPost_ret (v := .agg (cellsOf V.testBit)) (results_cell_row Try.results73 _ _ _ _ _ _ _ rfl HB.out Try.underlying113 rfl (size_bits _)) rfl ⟨by rw [HV.out], below_row hB (by omega)⟩

end Go.Proofs.Ytngbamoffjlodaa
/-
  The contract of the document's number of bits. No statement is proved here.
-/
namespace Go.Proofs.Ytngbamoffjlodaa
open Go.RowKit

end Go.Proofs.Ytngbamoffjlodaa
/-
  The contract of the document's product. No statement is proved here.
-/
namespace Go.Proofs.Ytngbamoffjlodaa
open Go.RowKit

set_option maxRecDepth 100000 in
theorem twice_c (N : Nat) (w : World) : Calls Try.prog 97 #[.agg (cellsOf N.testBit)] w (Row (cellsOf (2 * N).testBit) w) := twice_any N w
set_option maxRecDepth 100000 in
theorem sum_c (a b : Nat) (w : World) : Calls Try.prog 98 #[.agg (cellsOf a.testBit), .agg (cellsOf b.testBit)] w (Row (cellsOf (a + b).testBit) w) := sum_any a b w

set_option maxRecDepth 100000 in
theorem mul_step0 {a m j : Nat} (h : m.testBit j = false) : 2 * (a * (m / 2 ^ (j + 1))) = a * (m / 2 ^ j) := by
  have e : m / 2 ^ (j + 1) = m / 2 ^ j / 2 := by rw [Nat.div_div_eq_div_mul, ← Nat.pow_succ]
  rw [Nat.testBit_eq_decide_div_mod_eq] at h
  have h' := of_decide_eq_false h
  rw [e]
  generalize m / 2 ^ j = x at *
  have e2 : x = 2 * (x / 2) := by omega
  conv => rhs; rw [e2]
  rw [Nat.mul_left_comm]
set_option maxRecDepth 100000 in
theorem mul_step1 {a m j : Nat} (h : m.testBit j = true) : 2 * (a * (m / 2 ^ (j + 1))) + a = a * (m / 2 ^ j) := by
  have e : m / 2 ^ (j + 1) = m / 2 ^ j / 2 := by rw [Nat.div_div_eq_div_mul, ← Nat.pow_succ]
  rw [Nat.testBit_eq_decide_div_mod_eq] at h
  have h' := of_decide_eq_true h
  rw [e]
  generalize m / 2 ^ j = x at *
  have e2 : x = 2 * (x / 2) + 1 := by omega
  conv => rhs; rw [e2]
  rw [Nat.mul_add, Nat.mul_one, Nat.mul_left_comm]

set_option maxHeartbeats 4000000 in
set_option maxRecDepth 100000 in
theorem product_any (a m : Nat) (w : World) (hm : m < 2 ^ 64) : Calls Try.prog 72 #[.agg (bv a), .int .u64 (m : Int)] w (Row (bv (a * m)) w) := by
  have hz := zero_bits
  have HM := Lib.hid hm
  clear hm
  unfold bv
  go_enter Try.func72, Try.ntmps72
  go_wp2_with fail
  go_loopw [6] (fun i wr => ∃ (k : Nat) (i0 : Int), k ≤ 64 ∧ i = .int .i64 i0 ∧ i0 = (k : Int) - 1 ∧ Blk wr w.heap.size 113 (cellsOf a.testBit) ∧ Blk wr (w.heap.size + 1) 113 (cellsOf none_) ∧
    Blk wr (w.heap.size + 1 + 1) 113 (cellsOf (a * (m / 2 ^ k)).testBit) ∧ Below w.heap.size w wr) (fun i _ => (intOf i + 1).toNat)
  case atStart =>
    obtain ⟨b1, b2, b3, hb⟩ := blks3 w 113 113 113 (cellsOf a.testBit) (cellsOf none_) (cellsOf none_)
    refine ⟨64, 63, by omega, rfl, by omega, b1, b2, ?_, hb⟩
    rw [Nat.div_eq_of_lt HM.out, Nat.mul_zero, cellsOf_congr (f := (0 : Nat).testBit) (g := none_) (fun i _ => by simp [none_])]
    exact b3
  case round =>
    obtain ⟨k, i0, hk, rfl, hi0, B1, B2, B3, hB⟩ := hrel
    rcases k with _ | j
    · obtain rfl : i0 = -1 := by omega
      rw [Nat.pow_zero, Nat.div_one] at B3
      obtain ⟨V, hV⟩ : ∃ V, a * m = V := ⟨_, rfl⟩
      rw [hV] at B3
      have HV := Lib.hid hV
      have HB := Lib.hid (B2.row (cs' := cellsOf V.testBit))
      have hsz := B3.lt
      clear hV hi0
      go_wp2_with (first
        | (refine wpList_load_row rfl 113 (.tmp 5) rfl _ rfl _ _ (0, 0) _ B3 Try.underlying113 rfl (size_bits _) ?_)
        | (refine wpList_store_row rfl 113 (.tmp 4) (.tmp 22) rfl _ _ rfl rfl _ _ B2 (size_bits _) (by rw [cellsOf_size, cellsOf_size]) (cellsOf_one _) ?_))
      exact bodyPost_ret (v := .agg (cellsOf V.testBit)) (results_cell_row Try.results72 _ _ _ _ _ _ _ rfl HB.out Try.underlying113 rfl (size_bits _)) rfl ⟨by rw [HV.out], below_row hB (by omega)⟩
    · obtain rfl : i0 = (j : Int) := by omega
      have hsz := B3.lt
      have hji : (j : Int) ≤ 63 := by omega
      clear hi0
      cases hb : m.testBit j
      · have hbit : (((m : Int) / 2 ^ j).tmod 2 == 1) = false := by rw [bitI, hb]
        have HST := Lib.hid (mul_step0 (a := a) hb)
        clear hb
        go_wp2_with (refine wpList_load_row rfl 113 (.tmp 5) rfl _ rfl _ _ (0, 0) _ B3 Try.underlying113 rfl (size_bits _) ?_)
        refine (twice_c _ _).mono ?_
        rintro e w2 ⟨rfl, h2⟩
        have C1 := B1.below h2 B1.lt
        have C2 := B2.below h2 B2.lt
        have C3 := B3.below h2 B3.lt
        have hB2 := hB.trans (h2.mono hB.size)
        clear B1 B2 B3 h2 hB
        have D3 := C3.row (cs' := cellsOf (2 * (a * (m / 2 ^ (j + 1)))).testBit)
        have HD := Lib.hid (And.intro D3 (And.intro (C1.other (g' := w.heap.size + 1 + 1) (cs' := cellsOf (2 * (a * (m / 2 ^ (j + 1)))).testBit) (by omega)) (C2.other (g' := w.heap.size + 1 + 1) (cs' := cellsOf (2 * (a * (m / 2 ^ (j + 1)))).testBit) (by omega))))
        clear D3
        go_wp2_with (refine wpList_store_row rfl 113 (.tmp 5) (.tmp 12) rfl _ _ rfl rfl _ _ C3 (size_bits _) (by rw [cellsOf_size, cellsOf_size]) (cellsOf_one _) ?_)
        go_roundw
        case rel => exact ⟨j, _, by omega, rfl, by omega, HD.out.2.1, HD.out.2.2, by rw [← HST.out]; exact HD.out.1, below_row hB2 (by omega)⟩
        case measure => simp [intOf]
      · have hbit : (((m : Int) / 2 ^ j).tmod 2 == 1) = true := by rw [bitI, hb]
        have HST := Lib.hid (mul_step1 (a := a) hb)
        clear hb
        go_wp2_with (refine wpList_load_row rfl 113 (.tmp 5) rfl _ rfl _ _ (0, 0) _ B3 Try.underlying113 rfl (size_bits _) ?_)
        refine (twice_c _ _).mono ?_
        rintro e w2 ⟨rfl, h2⟩
        have C1 := B1.below h2 B1.lt
        have C2 := B2.below h2 B2.lt
        have C3 := B3.below h2 B3.lt
        have hB2 := hB.trans (h2.mono hB.size)
        clear B1 B2 B3 h2 hB
        obtain ⟨X, hX⟩ : ∃ X, 2 * (a * (m / 2 ^ (j + 1))) = X := ⟨_, rfl⟩
        rw [hX] at HST
        have HX := Lib.hid hX
        have HS := Lib.hid (fun u => sum_c X a u)
        have D3 := C3.row (cs' := cellsOf X.testBit)
        have D1 := C1.other (g' := w.heap.size + 1 + 1) (cs' := cellsOf X.testBit) (by omega)
        have D2 := C2.other (g' := w.heap.size + 1 + 1) (cs' := cellsOf X.testBit) (by omega)
        have hB3 := below_row (g' := w.heap.size + 1 + 1) (cs' := cellsOf X.testBit) hB2 (by omega)
        have hzs : (w2.setRow (w.heap.size + 1 + 1) (cellsOf X.testBit)).heap.size = w2.heap.size := by simp [World.setRow]
        clear C1 C2 hB2
        simp only [hX]
        clear hX
        go_wp2_with (first
          | (refine wpList_store_row rfl 113 (.tmp 5) (.tmp 12) rfl _ _ rfl rfl _ _ C3 (size_bits _) (by rw [cellsOf_size, cellsOf_size]) (cellsOf_one _) ?_)
          | (refine wpList_load_row rfl 113 (.tmp 5) rfl _ rfl _ _ (0, 0) _ D3 Try.underlying113 rfl (size_bits _) ?_)
          | (refine wpList_load_row rfl 113 (.tmp 2) rfl _ rfl _ _ (0, 0) _ D1 Try.underlying113 rfl (size_bits _) ?_))
        refine (HS.out _).mono ?_
        rintro e w3 ⟨rfl, h3⟩
        have E1 := D1.below h3 D1.lt
        have E2 := D2.below h3 D2.lt
        have E3 := D3.below h3 D3.lt
        have hB4 := hB3.trans (h3.mono hB3.size)
        clear D1 D2 D3 h3 hB3 hzs
        have F3 := E3.row (cs' := cellsOf (X + a).testBit)
        have HD := Lib.hid (And.intro F3 (And.intro (E1.other (g' := w.heap.size + 1 + 1) (cs' := cellsOf (X + a).testBit) (by omega)) (E2.other (g' := w.heap.size + 1 + 1) (cs' := cellsOf (X + a).testBit) (by omega))))
        clear F3
        go_wp2_with (refine wpList_store_row rfl 113 (.tmp 5) (.tmp 21) rfl _ _ rfl rfl _ _ E3 (size_bits _) (by rw [cellsOf_size, cellsOf_size]) (cellsOf_one _) ?_)
        go_roundw
        case rel => exact ⟨j, _, by omega, rfl, by omega, HD.out.2.1, HD.out.2.2, by rw [← HST.out]; exact HD.out.1, below_row hB4 (by omega)⟩
        case measure => simp [intOf]

end Go.Proofs.Ytngbamoffjlodaa
/-
  The contract of the document's quotient. No statement is proved here.
-/
namespace Go.Proofs.Ytngbamoffjlodaa
open Go.RowKit

set_option maxRecDepth 100000 in
theorem less_c (a b : Nat) (w : World) (ha : a < 2 ^ 256) (hb : b < 2 ^ 256) : Calls Try.prog 74 #[.agg (cellsOf a.testBit), .agg (cellsOf b.testBit)] w fun e w' => e = .returned (.bool (decide (a < b))) ∧ Below w.heap.size w w' := less_any a b w ha hb

set_option maxRecDepth 100000 in
theorem step_store_row {P : Program} {ops : Array Oper} {o : Oper} {a : Act} {w : World} {K : Act → World → Prop} {Q : Exit → Act → World → Prop} {E : Prop} (hgd : o.guard = none) (ty : TypeId) (x y : Operand) (ho : o.op = .store ty x y)
    (g : Nat) (cells : Array Value) (hx : a.eval x = .pointer (some ⟨g, 0, none⟩)) (hy : a.eval y = .agg cells)
    (t : TypeId) (old : Array Value) (hg : w.heap[g]? = some (.cells old t (0, 0))) (hi : (P.info? ty).map (·.size) = some cells.size)
    (hold : old.size = cells.size) (h1 : cells.all (·.oneCell') = true)
    (h : K (a.put o.dst undef) (w.setRow g cells)) : if Region.wanted o (yielded ops a.tmps) = true then Oper.wp P o a w K Q else E := by
  rw [if_pos (by simp [Region.wanted, hgd])]
  exact wp_store_row ty x y ho g cells hx hy t old hg hi hold h1 h
end Go.Proofs.Ytngbamoffjlodaa
/-
  Equality of rows of 256 bits. No statement is proved here.
-/
namespace Go.Proofs.Ytngbamoffjlodaa
open Go.RowKit

end Go.Proofs.Ytngbamoffjlodaa
/-
  The contract of the document's Scaled. No statement is proved here.
-/
namespace Go.Proofs.Ytngbamoffjlodaa
open Go.RowKit

set_option maxRecDepth 100000 in
theorem of_c (hi lo : Nat) (w : World) (hh : hi < 2 ^ 64) (hl : lo < 2 ^ 64) : Calls Try.prog 73 #[.agg #[.int .u64 (hi : Int), .int .u64 (lo : Int)]] w (Row (cellsOf (hi * 2 ^ 64 + lo).testBit) w) := of_any hi lo w hh hl
set_option maxRecDepth 100000 in
theorem product_c (a m : Nat) (w : World) (hm : m < 2 ^ 64) : Calls Try.prog 72 #[.agg (cellsOf a.testBit), .int .u64 (m : Int)] w (Row (cellsOf (a * m).testBit) w) := product_any a m w hm

set_option maxRecDepth 100000 in
theorem results_cell_row_tmp {P : Program} {fn : Func} {p q : Tmp} {ty : TypeId} (h : fn.results = #[.cell p ty, .tmp q]) (tmps : Array Value) (w : World) (g : Nat) (t : TypeId) (cs : Array Value) (d : TypeDesc)
    (hp : tmps.getD p undef = .pointer (some ⟨g, 0, none⟩)) (hg : w.heap[g]? = some (.cells cs t (0, 0)))
    (hu : P.underlying ty = some d) (hd : (match d with | .struct _ | .array _ _ => true | _ => false) = true) (hi : (P.info? ty).map (·.size) = some cs.size) :
    (results fn tmps).run P w = .ok (.tuple #[.agg cs, tmps.getD q undef]) w := by
  have hp' : tmps[p]?.getD undef = .pointer (some ⟨g, 0, none⟩) := by simpa using hp
  simp [results, h, hp', asAddr, run_loadVar_row w g t ty cs (0, 0) d hg hu hd hi]

end Go.Proofs.Ytngbamoffjlodaa
