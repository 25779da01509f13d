/-
  Several texts as one.
-/
import Derived.Test.YtngbamoffjlodaaZOq
import Derived.Test.YtngbamoffjlodaaZPd
import Derived.ChangeArms
/-
  Arguments of order's statements: entities, waits, gangs, rows of all, opened. No statement is proved here.
-/
namespace Go.Proofs.Ytngbamoffjlodaa
open Go.Joins Go.ChangeShapes Go.WideShapes Go.ChangeAt Go.RowKit Go.Deep

section
variable {H : Type} {enc : TypeId × Value → H} {W : World}
set_option maxRecDepth 100000 in
theorem cells_ints : Try.prog.cellsOf 40 = 1 := by kernel_rfl
set_option maxRecDepth 100000 in
theorem cells_bool : Try.prog.cellsOf 4 = 1 := by kernel_rfl
set_option maxRecDepth 100000 in
theorem cells_wait : Try.prog.cellsOf 67 = 3 := by kernel_rfl
set_option maxRecDepth 100000 in
theorem cells_waits : Try.prog.cellsOf 27 = 1 := by kernel_rfl
set_option maxRecDepth 100000 in
theorem cells_gangs : Try.prog.cellsOf 28 = 1 := by kernel_rfl
set_option maxRecDepth 100000 in
theorem cells_row : Try.prog.cellsOf 30 = 3 := by kernel_rfl
set_option maxRecDepth 100000 in
theorem open_ints3 {A : Option Addr} {n c : Nat} {d : DataW H} {ps : List MemPlace} (h : DataW.Trod enc Try.prog W 0 (fun _ => true) true 40 (.slice A n c) d ps) :
    ∃ l : List Int, Reads W W.heap.size 1 A n (vs l) ∧ n ≤ c ∧ n ≤ maxLen := by
  obtain ⟨l, h1, _, h3, h4, h5⟩ := open_many (fun i => [Value.int .i64 i]) 1 (fun _ => rfl) (by omega) (fun _ => True) Try.underlying40 cells_int (fun _ h => by
    obtain ⟨k, e, _, _⟩ := DataW.trod_int Try.underlying3 h
    exact ⟨k, e, trivial⟩) h
  rw [flat_map] at h3
  exact ⟨l, h3, h4, h5⟩
set_option maxRecDepth 100000 in
theorem ints_cells {fuel : Nat} {c0 : Value} {x : DataW H × List MemPlace} (h : DataW.trod enc Try.prog W 0 (fun _ => true) true fuel 40 [c0] = some x) :
    ∃ (A : Option Addr) (n c : Nat) (l : List Int), c0 = .slice A n c ∧ Reads W W.heap.size 1 A n (vs l) ∧ n ≤ c := by
  have h0 := h
  rcases Go.Deep.open_slice Try.underlying40 h with ⟨hcs, _⟩ | ⟨a, len, cap, m, n', D, Pl, hcs, _, hlc, _, _, _, _⟩
  · exact ⟨none, 0, 0, [], by simpa using hcs, Reads.none_, Nat.le_refl _⟩
  · rw [hcs] at h0
    obtain ⟨l, h1, h2, _⟩ := open_ints3 (A := some a) (n := len) (c := cap) (d := x.1) (ps := x.2) ⟨fuel, h0⟩
    exact ⟨some a, len, cap, l, by simpa using hcs, h1, h2⟩
set_option maxRecDepth 100000 in
theorem bool_of {base : Nat} {spare : Nat → Bool} {held : Bool} {fuel : Nat} {c : Value} {x : DataW H × List MemPlace} (h : DataW.trod enc Try.prog W base spare held fuel 4 [c] = some x) : ∃ b : Bool, c = .bool b := by
  obtain ⟨b, e, _⟩ := DataW.trod_bool Try.underlying4 h
  exact ⟨b, by simpa using e⟩
set_option maxRecDepth 100000 in
theorem wait_cells {fuel : Nat} {cs : List Value} {x : DataW H × List MemPlace} (hl : cs.length = 3) (h : DataW.trod enc Try.prog W 0 (fun _ => true) true fuel 67 cs = some x) : ∃ y : Wt, cs = wtv y ∧ y.2.1 < 2 ^ 64 := by
  obtain ⟨xs, n, rfl, _, hlen, hxl, hf⟩ := DataW.trod_struct Try.underlying67 h
  match cs, hl with
  | [c0, c1, c2], _ =>
    match xs, hxl with
    | [y0, y1, y2], _ =>
      have g0 : DataW.trod enc Try.prog W 0 (fun _ => true) true n 3 (([c0, c1, c2].drop 0).take (Try.prog.cellsOf 3)) = some y0 := hf 0 _ rfl
      have g1 : DataW.trod enc Try.prog W 0 (fun _ => true) true n 41 (([c0, c1, c2].drop 1).take (Try.prog.cellsOf 41)) = some y1 := hf 1 _ rfl
      have g2 : DataW.trod enc Try.prog W 0 (fun _ => true) true n 4 (([c0, c1, c2].drop 2).take (Try.prog.cellsOf 4)) = some y2 := hf 2 _ rfl
      rw [cells_int] at g0
      rw [cells_u64] at g1
      rw [cells_bool] at g2
      have g0 : DataW.trod enc Try.prog W 0 (fun _ => true) true n 3 [c0] = some y0 := g0
      have g1 : DataW.trod enc Try.prog W 0 (fun _ => true) true n 41 [c1] = some y1 := g1
      have g2 : DataW.trod enc Try.prog W 0 (fun _ => true) true n 4 [c2] = some y2 := g2
      obtain ⟨i, rfl⟩ := int_of g0
      obtain ⟨o, rfl, ho⟩ := one_of g1
      obtain ⟨b, rfl⟩ := bool_of g2
      exact ⟨(i, o, b), rfl, ho⟩
set_option maxRecDepth 100000 in
theorem open_waits {A : Option Addr} {n c : Nat} {d : DataW H} {ps : List MemPlace} (h : DataW.Trod enc Try.prog W 0 (fun _ => true) true 27 (.slice A n c) d ps) :
    ∃ l : List Wt, Reads W W.heap.size 3 A n (flat wtv l) ∧ n ≤ c ∧ ∀ y ∈ l, y.2.1 < 2 ^ 64 := by
  obtain ⟨l, _, h2, h3, h4, _⟩ := open_many wtv 3 length_wtv (by omega) (fun y : Wt => y.2.1 < 2 ^ 64) Try.underlying27 cells_wait (fun hl h => wait_cells hl h) h
  exact ⟨l, h3, h4, all_of h2⟩
set_option maxRecDepth 100000 in
theorem open_gangs {A : Option Addr} {n c : Nat} {d : DataW H} {ps : List MemPlace} (h : DataW.Trod enc Try.prog W 0 (fun _ => true) true 28 (.slice A n c) d ps) : ∃ l : List Gg, GA W A n l := by
  obtain ⟨l, _, h2, h3, _, h5⟩ := open_many gv 1 length_gv (by omega) (fun g : Gg => Reads W W.heap.size 1 g.1 g.2.1 (vs g.2.2.2) ∧ g.2.1 ≤ g.2.2.1) Try.underlying28 cells_ints (fun {_ cs _} hl h => by
    match cs, hl with
    | [c0], _ =>
      obtain ⟨A, m, c, l, rfl, r1, r2⟩ := ints_cells h
      exact ⟨(A, m, c, l), rfl, r1, r2⟩) h
  exact ⟨l, h3, h5, all_of h2⟩
/-- a row that came in: a queue, waits, gangs -/
structure RA (W : World) (A : Option Addr) (n c : Nat) (qs : List Rn) (A' : Option Addr) (n' c' : Nat) (ws : List Wt) (A2 : Option Addr) (n2 : Nat) (gs : List Gg) : Prop where
  q : Reads W W.heap.size 5 A n (flat rv qs)
  qc : n ≤ c
  qu : UQ qs
  w : Reads W W.heap.size 3 A' n' (flat wtv ws)
  wc : n' ≤ c'
  wu : ∀ y ∈ ws, y.2.1 < 2 ^ 64
  g : GA W A2 n2 gs
set_option maxRecDepth 100000 in
theorem row_cells {fuel : Nat} {cs : List Value} {x : DataW H × List MemPlace} (hl : cs.length = 3) (h : DataW.trod enc Try.prog W 0 (fun _ => true) true fuel 30 cs = some x) :
    ∃ A n c qs A' n' c' ws A2 n2 c2 gs, cs = [.slice A n c, .slice A' n' c', .slice A2 n2 c2] ∧ RA W A n c qs A' n' c' ws A2 n2 gs := by
  obtain ⟨xs, n, rfl, _, hlen, hxl, hf⟩ := DataW.trod_struct Try.underlying30 h
  match cs, hl with
  | [c0, c1, c2], _ =>
    match xs, hxl with
    | [y0, y1, y2], _ =>
      have g0 : DataW.trod enc Try.prog W 0 (fun _ => true) true n 26 (([c0, c1, c2].drop 0).take (Try.prog.cellsOf 26)) = some y0 := hf 0 _ rfl
      have g1 : DataW.trod enc Try.prog W 0 (fun _ => true) true n 27 (([c0, c1, c2].drop 1).take (Try.prog.cellsOf 27)) = some y1 := hf 1 _ rfl
      have g2 : DataW.trod enc Try.prog W 0 (fun _ => true) true n 28 (([c0, c1, c2].drop 2).take (Try.prog.cellsOf 28)) = some y2 := hf 2 _ rfl
      rw [cells_queue] at g0
      rw [cells_waits] at g1
      rw [cells_gangs] at g2
      have g0 : DataW.trod enc Try.prog W 0 (fun _ => true) true n 26 [c0] = some y0 := g0
      have g1 : DataW.trod enc Try.prog W 0 (fun _ => true) true n 27 [c1] = some y1 := g1
      have g2 : DataW.trod enc Try.prog W 0 (fun _ => true) true n 28 [c2] = some y2 := g2
      obtain ⟨A, m, c, qs, e0, r1, r2, r3⟩ := queue_cells g0
      have hw : ∃ A' n' c' ws, c1 = .slice A' n' c' ∧ Reads W W.heap.size 3 A' n' (flat wtv ws) ∧ n' ≤ c' ∧ ∀ y ∈ ws, y.2.1 < 2 ^ 64 := by
        have h0 := g1
        rcases Go.Deep.open_slice Try.underlying27 g1 with ⟨hcs, _⟩ | ⟨a, len, cap, m, n', D, Pl, hcs, _, hlc, _, _, _, _⟩
        · exact ⟨none, 0, 0, [], by simpa using hcs, Reads.none_, Nat.le_refl _, fun y hy => by cases hy⟩
        · rw [hcs] at h0
          obtain ⟨l, q1, q2, q3⟩ := open_waits (A := some a) (n := len) (c := cap) (d := y1.1) (ps := y1.2) ⟨n, h0⟩
          exact ⟨some a, len, cap, l, by simpa using hcs, q1, q2, q3⟩
      have hg : ∃ A2 n2 c3 gs, c2 = .slice A2 n2 c3 ∧ GA W A2 n2 gs := by
        have h0 := g2
        rcases Go.Deep.open_slice Try.underlying28 g2 with ⟨hcs, _⟩ | ⟨a, len, cap, m, n', D, Pl, hcs, _, hlc, _, _, _, _⟩
        · exact ⟨none, 0, 0, [], by simpa using hcs, Reads.none_, by unfold maxLen; omega, fun y hy => by cases hy⟩
        · rw [hcs] at h0
          obtain ⟨l, q1⟩ := open_gangs (A := some a) (n := len) (c := cap) (d := y2.1) (ps := y2.2) ⟨n, h0⟩
          exact ⟨some a, len, cap, l, by simpa using hcs, q1⟩
      obtain ⟨A', n', c', ws, rfl, w1, w2, w3⟩ := hw
      obtain ⟨A2, n2, c3, gs, rfl, q1⟩ := hg
      injection e0 with e0
      subst e0
      exact ⟨A, m, c, qs, A', n', c', ws, A2, n2, c3, gs, rfl, r1, r2, r3, w1, w2, w3, q1⟩
end
end Go.Proofs.Ytngbamoffjlodaa
/-
  A row of what is put in order, opened. No statement is proved here.
-/
namespace Go.Proofs.Ytngbamoffjlodaa
open Go.Joins Go.ChangeShapes Go.WideShapes Go.ChangeAt Go.RowKit Go.Deep

abbrev Rw := (Option Addr × Nat × Nat × List Rn) × (Option Addr × Nat × Nat × List Wt) × (Option Addr × Nat × Nat × List Gg)
def rwv (r : Rw) : List Value := [.slice r.1.1 r.1.2.1 r.1.2.2.1, .slice r.2.1.1 r.2.1.2.1 r.2.1.2.2.1, .slice r.2.2.1 r.2.2.2.1 r.2.2.2.2.1]
theorem length_rwv (r : Rw) : (rwv r).length = 3 := rfl
def RWA (W : World) (r : Rw) : Prop := RA W r.1.1 r.1.2.1 r.1.2.2.1 r.1.2.2.2 r.2.1.1 r.2.1.2.1 r.2.1.2.2.1 r.2.1.2.2.2 r.2.2.1 r.2.2.2.1 r.2.2.2.2.2

section
variable {H : Type} {enc : TypeId × Value → H} {W : World}
set_option maxRecDepth 100000 in
theorem open_rows {A : Option Addr} {n c : Nat} {d : DataW H} {ps : List MemPlace} (h : DataW.Trod enc Try.prog W 0 (fun _ => true) true 22 (.slice A n c) d ps) :
    ∃ l : List Rw, Reads W W.heap.size 3 A n (flat rwv l) ∧ n ≤ c ∧ n ≤ maxLen ∧ ∀ r ∈ l, RWA W r := by
  obtain ⟨l, _, h2, h3, h4, h5⟩ := open_many rwv 3 length_rwv (by omega) (RWA W) Try.underlying22 cells_row (fun hl h => by
    obtain ⟨A, n, c, qs, A', n', c', ws, A2, n2, c2, gs, rfl, hr⟩ := row_cells hl h
    exact ⟨((A, n, c, qs), (A', n', c', ws), (A2, n2, c2, gs)), rfl, hr⟩) h
  exact ⟨l, h3, h4, h5, all_of h2⟩
end

end Go.Proofs.Ytngbamoffjlodaa
