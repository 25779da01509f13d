/-
  Arguments of VtimeRuns, opened: a row of numbers with its room, an array of two spans. No statement is proved here.
-/
import Derived.Test.YtfgabmelmopgdaaOq
namespace Go.Proofs.Ytfgabmelmopgdaa
open Go.Joins Go.ChangeShapes Go.WideShapes Go.ChangeAt Go.RowKit Go.Deep

section
variable {H : Type} {enc : TypeId × Value → H} {W : World}
set_option maxRecDepth 100000 in
theorem open_ints2 {A : Option Addr} {n c : Nat} {d : DataW H} {ps : List MemPlace} (h : DataW.Trod enc Try.prog W 0 (fun _ => true) true 54 (.slice A n c) d ps) :
    ∃ l : List Int, Reads W W.heap.size 1 A n (vs l) ∧ n ≤ c := by
  obtain ⟨l, h1, _, h3, h4, _⟩ := open_many (fun i => [Value.int .i64 i]) 1 (fun _ => rfl) (by omega) (fun _ => True) Try.underlying54 cells_int (fun _ h => by
    obtain ⟨k, e, _, _⟩ := DataW.trod_int Try.underlying3 h
    exact ⟨k, e, trivial⟩) h
  rw [flat_map] at h3
  exact ⟨l, h3, h4⟩
set_option maxRecDepth 100000 in
theorem cells_int64 : Try.prog.cellsOf 2 = 1 := by kernel_rfl
set_option maxRecDepth 100000 in
theorem cells_spans : Try.prog.cellsOf 59 = 2 := by kernel_rfl
set_option maxRecDepth 100000 in
theorem int64_of {base : Nat} {spare : Nat → Bool} {held : Bool} {fuel : Nat} {c : Value} {x : DataW H × List MemPlace} (h : DataW.trod enc Try.prog W base spare held fuel 2 [c] = some x) : ∃ i : Int, c = .int .i64 i := by
  obtain ⟨z, e, _, _⟩ := DataW.trod_int Try.underlying2 h
  exact ⟨z, by simpa using e⟩
set_option maxRecDepth 100000 in
theorem open_spans {r : Reach} {b0 : Nat} {v : Value} {d : DataW H} {p : List MemPlace} (hv : Value.okWide Try.prog W r b0 59 v) (h : DataW.Trod enc Try.prog W 0 (fun _ => true) true 59 v d p) :
    ∃ a b : Int, v = .agg #[.int .i64 a, .int .i64 b] := by
  have hv2 := hv
  simp only [Value.okWide, Try.underlying59] at hv2
  obtain ⟨cs, rfl, hsz, _⟩ := hv2
  rw [cells_spans] at hsz
  obtain ⟨fuel, hf⟩ := h
  obtain ⟨xs, _, _, _, _, hxl, hat⟩ := DataW.trod_array Try.underlying59 hf
  rw [cells_int64] at hat
  have g0 := hat 0 (by omega)
  have g1 := hat 1 (by omega)
  obtain ⟨q⟩ := cs
  simp only [Value.cells] at g0 g1
  match q, hsz with
  | [u, v], _ =>
    have x0 : xs[0]? = some (xs[0]'(by omega)) := List.getElem?_eq_getElem (by omega)
    have x1 : xs[1]? = some (xs[1]'(by omega)) := List.getElem?_eq_getElem (by omega)
    rw [x0] at g0
    rw [x1] at g1
    obtain ⟨a, rfl⟩ := int64_of g0
    obtain ⟨b, rfl⟩ := int64_of g1
    exact ⟨a, b, rfl⟩
end
end Go.Proofs.Ytfgabmelmopgdaa
