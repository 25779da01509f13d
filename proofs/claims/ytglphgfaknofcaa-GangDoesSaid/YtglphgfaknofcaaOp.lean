/-
  Arguments of this seat's statements: what is done, opened. No statement is proved here.
-/
import Derived.Test.YtglphgfaknofcaaOq
import Derived.Test.YtglphgfaknofcaaKf
import Derived.Test.YtglphgfaknofcaaKg
namespace Go.Proofs.Ytglphgfaknofcaa
open Go.Joins Go.ChangeShapes Go.WideShapes Go.ChangeAt Go.RowKit Go.Deep
section
variable {H : Type} {enc : TypeId × Value → H} {W : World}
set_option maxRecDepth 100000 in
theorem cells_op : Try.prog.cellsOf 30 = 3 := by kernel_rfl
set_option maxRecDepth 100000 in
theorem op_cells {fuel : Nat} {cs : List Value} {x : DataW H × List MemPlace} (hl : cs.length = 3) (h : DataW.trod enc Try.prog W 0 (fun _ => true) true fuel 30 cs = some x) :
    ∃ o : OpT, cs = opv o ∧ Reads W W.heap.size 1 o.2.2.1 o.2.2.2.1 (vs o.2.2.2.2.2) ∧ o.2.2.2.1 ≤ o.2.2.2.2.1 := by
  obtain ⟨xs, n, rfl, _, hlen, hxl, hf⟩ := DataW.trod_struct Try.underlying30 h
  match cs, hl with
  | [c0, c1, c2], _ =>
    match xs, hxl with
    | [y0, y1, y2], _ =>
      have g0 : DataW.trod enc Try.prog W 0 (fun _ => true) true n 3 (([c0, c1, c2].drop 0).take (Try.prog.cellsOf 3)) = some y0 := hf 0 _ rfl
      have g1 : DataW.trod enc Try.prog W 0 (fun _ => true) true n 3 (([c0, c1, c2].drop 1).take (Try.prog.cellsOf 3)) = some y1 := hf 1 _ rfl
      have g2 : DataW.trod enc Try.prog W 0 (fun _ => true) true n 28 (([c0, c1, c2].drop 2).take (Try.prog.cellsOf 28)) = some y2 := hf 2 _ rfl
      rw [cells_int] at g0 g1
      rw [cells_ints] at g2
      have g0 : DataW.trod enc Try.prog W 0 (fun _ => true) true n 3 [c0] = some y0 := g0
      have g1 : DataW.trod enc Try.prog W 0 (fun _ => true) true n 3 [c1] = some y1 := g1
      have g2 : DataW.trod enc Try.prog W 0 (fun _ => true) true n 28 [c2] = some y2 := g2
      obtain ⟨a, rfl⟩ := int_of g0
      obtain ⟨b, rfl⟩ := int_of g1
      obtain ⟨A, m, c, l, rfl, r1, r2⟩ := ints_cells g2
      exact ⟨(a, b, A, m, c, l), rfl, r1, r2⟩
set_option maxRecDepth 100000 in
theorem open_ops {A : Option Addr} {n c : Nat} {d : DataW H} {ps : List MemPlace} (h : DataW.Trod enc Try.prog W 0 (fun _ => true) true 25 (.slice A n c) d ps) : ∃ l : List OpT, OA W A n l ∧ n ≤ maxLen := by
  obtain ⟨l, _, h2, h3, _, h5⟩ := open_many opv 3 length_opv (by omega) (fun o : OpT => Reads W W.heap.size 1 o.2.2.1 o.2.2.2.1 (vs o.2.2.2.2.2) ∧ o.2.2.2.1 ≤ o.2.2.2.2.1) Try.underlying25 cells_op (fun hl h => op_cells hl h) h
  exact ⟨l, ⟨h3, all_of h2⟩, h5⟩
set_option maxRecDepth 100000 in
theorem cells_gang : Try.prog.cellsOf 36 = 2 := by kernel_rfl
set_option maxRecDepth 100000 in
theorem cells_grow : Try.prog.cellsOf 22 = 1 := by kernel_rfl
set_option maxRecDepth 100000 in
theorem cells_pgangs : Try.prog.cellsOf 24 = 1 := by kernel_rfl
set_option maxRecDepth 100000 in
theorem gang_cells {fuel : Nat} {cs : List Value} {x : DataW H × List MemPlace} (hl : cs.length = 2) (h : DataW.trod enc Try.prog W 0 (fun _ => true) true fuel 36 cs = some x) :
    ∃ g : Gn, cs = gnv g ∧ Reads W W.heap.size 1 g.2.1 g.2.2.1 (vs g.2.2.2.2) ∧ g.2.2.1 ≤ g.2.2.2.1 := by
  obtain ⟨xs, n, rfl, _, hlen, hxl, hf⟩ := DataW.trod_struct Try.underlying36 h
  match cs, hl with
  | [c0, c1], _ =>
    match xs, hxl with
    | [y0, y1], _ =>
      have g0 : DataW.trod enc Try.prog W 0 (fun _ => true) true n 3 (([c0, c1].drop 0).take (Try.prog.cellsOf 3)) = some y0 := hf 0 _ rfl
      have g1 : DataW.trod enc Try.prog W 0 (fun _ => true) true n 28 (([c0, c1].drop 1).take (Try.prog.cellsOf 28)) = some y1 := hf 1 _ rfl
      rw [cells_int] at g0
      rw [cells_ints] at g1
      have g0 : DataW.trod enc Try.prog W 0 (fun _ => true) true n 3 [c0] = some y0 := g0
      have g1 : DataW.trod enc Try.prog W 0 (fun _ => true) true n 28 [c1] = some y1 := g1
      obtain ⟨a, rfl⟩ := int_of g0
      obtain ⟨A, m, c, l, rfl, r1, r2⟩ := ints_cells g1
      exact ⟨(a, A, m, c, l), rfl, r1, r2⟩
set_option maxRecDepth 100000 in
theorem open_grow {A : Option Addr} {n c : Nat} {d : DataW H} {ps : List MemPlace} (h : DataW.Trod enc Try.prog W 0 (fun _ => true) true 22 (.slice A n c) d ps) : ∃ l : List Gn, NA W A n l := by
  obtain ⟨l, _, h2, h3, _, h5⟩ := open_many gnv 2 length_gnv (by omega) (fun g : Gn => Reads W W.heap.size 1 g.2.1 g.2.2.1 (vs g.2.2.2.2) ∧ g.2.2.1 ≤ g.2.2.2.1) Try.underlying22 cells_gang (fun hl h => gang_cells hl h) h
  exact ⟨l, h3, h5, all_of h2⟩
set_option maxRecDepth 100000 in
theorem pgangs_cells {fuel : Nat} {cs : List Value} {x : DataW H × List MemPlace} (h : DataW.trod enc Try.prog W 0 (fun _ => true) true fuel 24 cs = some x) :
    ∃ (A : Option Addr) (n c : Nat) (l : List Gn), cs = [.slice A n c] ∧ NA W A n l := by
  obtain ⟨xs, n, rfl, _, hlen, hxl, hf⟩ := DataW.trod_struct Try.underlying24 h
  rw [cells_pgangs] at hlen
  match cs, hlen with
  | [c0], _ =>
    match xs, hxl with
    | [y0], _ =>
      have g0 : DataW.trod enc Try.prog W 0 (fun _ => true) true n 22 (([c0].drop 0).take (Try.prog.cellsOf 22)) = some y0 := hf 0 _ rfl
      rw [cells_grow] at g0
      have g0 : DataW.trod enc Try.prog W 0 (fun _ => true) true n 22 [c0] = some y0 := g0
      have h0 := g0
      rcases Go.Deep.open_slice Try.underlying22 g0 with ⟨hcs, _⟩ | ⟨a, len, cap, m, n', D, Pl, hcs, _, hlc, _, _, _, _⟩
      · exact ⟨none, 0, 0, [], hcs, Reads.none_, by unfold maxLen; omega, fun x hx => (by cases hx)⟩
      · rw [hcs] at h0
        obtain ⟨l, h1⟩ := open_grow (A := some a) (n := len) (c := cap) (d := y0.1) (ps := y0.2) ⟨n, h0⟩
        exact ⟨some a, len, cap, l, hcs, h1⟩
set_option maxRecDepth 100000 in
theorem open_pgangs {r : Reach} {b0 : Nat} {v : Value} {d : DataW H} {p : List MemPlace} (hv : Value.okWide Try.prog W r b0 24 v) (h : DataW.Trod enc Try.prog W 0 (fun _ => true) true 24 v d p) :
    ∃ (A : Option Addr) (n c : Nat) (l : List Gn), v = .agg #[.slice A n c] ∧ NA W A n l := by
  obtain ⟨cs, rfl, hsz⟩ := okWide_struct Try.underlying24 hv
  obtain ⟨fuel, hf⟩ := h
  obtain ⟨A, n, c, l, e, h1⟩ := pgangs_cells hf
  obtain ⟨q⟩ := cs
  simp only [Value.cells] at e
  exact ⟨A, n, c, l, by rw [show q = _ from e], h1⟩
end

end Go.Proofs.Ytglphgfaknofcaa
