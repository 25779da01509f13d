/-
  Arguments of this seat's statements: rows of wishes and of placements, opened. No statement is proved here.
-/
import Derived.Test.YtldleijocjohgaaDoorOg
import Derived.Test.YtldleijocjohgaaDoorGa
namespace Go.Proofs.YtldleijocjohgaaDoor
open Go.Joins Go.ChangeShapes Go.WideShapes Go.ChangeAt Go.RowKit Go.Deep

section
variable {H : Type} {enc : TypeId × Value → H} {W : World}
theorem cells_int : Tryd.prog.cellsOf 3 = 1 := by kernel_rfl
theorem cells_wish : Tryd.prog.cellsOf 43 = 4 := by kernel_rfl
theorem cells_put : Tryd.prog.cellsOf 52 = 2 := by kernel_rfl
set_option maxRecDepth 100000 in
theorem int_of {fuel : Nat} {c : Value} {x : DataW H × List MemPlace} (h : DataW.trod enc Tryd.prog W 0 (fun _ => true) true fuel 3 [c] = some x) : ∃ i : Int, c = .int .i64 i := by
  obtain ⟨z, e, _, _⟩ := DataW.trod_int Tryd.underlying3 h
  exact ⟨z, by simpa using e⟩
set_option maxRecDepth 100000 in
theorem wish_trod {fuel : Nat} {cs : List Value} {x : DataW H × List MemPlace} (h : DataW.trod enc Tryd.prog W 0 (fun _ => true) true fuel 43 cs = some x) : ∃ w : Wi, cs = wiv w ∧ UW w := by
  obtain ⟨xs, n, rfl, _, hlen, hxl, hf⟩ := DataW.trod_struct Tryd.underlying43 h
  rw [cells_wish] at hlen
  match cs, hlen with
  | [c0, c1, c2, c3], _ =>
    match xs, hxl with
    | [y0, y1, y2], _ =>
      have g0 : DataW.trod enc Tryd.prog W 0 (fun _ => true) true n 3 (([c0, c1, c2, c3].drop 0).take (Tryd.prog.cellsOf 3)) = some y0 := hf 0 _ rfl
      have g1 : DataW.trod enc Tryd.prog W 0 (fun _ => true) true n 3 (([c0, c1, c2, c3].drop 1).take (Tryd.prog.cellsOf 3)) = some y1 := hf 1 _ rfl
      have g2 : DataW.trod enc Tryd.prog W 0 (fun _ => true) true n 41 (([c0, c1, c2, c3].drop 2).take (Tryd.prog.cellsOf 41)) = some y2 := hf 2 _ rfl
      rw [cells_int] at g0 g1
      rw [cells_mask] at g2
      have g0 : DataW.trod enc Tryd.prog W 0 (fun _ => true) true n 3 [c0] = some y0 := g0
      have g1 : DataW.trod enc Tryd.prog W 0 (fun _ => true) true n 3 [c1] = some y1 := g1
      have g2 : DataW.trod enc Tryd.prog W 0 (fun _ => true) true n 41 [c2, c3] = some y2 := g2
      obtain ⟨a, rfl⟩ := int_of g0
      obtain ⟨b, rfl⟩ := int_of g1
      obtain ⟨⟨m1, m2⟩, e, hm⟩ := mask_trod g2
      unfold mv at e
      injection e with e1 e2
      injection e2 with e2 _
      subst e1
      subst e2
      exact ⟨⟨a, b, m1, m2⟩, rfl, hm⟩
set_option maxRecDepth 100000 in
theorem open_wishes {A : Option Addr} {n c : Nat} {d : DataW H} {ps : List MemPlace} (h : DataW.Trod enc Tryd.prog W 0 (fun _ => true) true 22 (.slice A n c) d ps) :
    ∃ l : List Wi, Reads W W.heap.size 4 A n (wivs l) ∧ n ≤ c ∧ n ≤ maxLen ∧ ∀ (k : Nat) (w : Wi), l[k]? = some w → UW w := by
  obtain ⟨l, _, h2, h3, h4, h5⟩ := open_many wiv 4 length_wiv (by omega) UW Tryd.underlying22 cells_wish (fun _ h => wish_trod h) h
  exact ⟨l, h3, h4, h5, h2⟩
set_option maxRecDepth 100000 in
theorem open_puts {A : Option Addr} {n c : Nat} {d : DataW H} {ps : List MemPlace} (h : DataW.Trod enc Tryd.prog W 0 (fun _ => true) true 26 (.slice A n c) d ps) :
    ∃ l : List (Int × Int), Reads W W.heap.size 2 A n (svs l) ∧ n ≤ c ∧ n ≤ maxLen := by
  obtain ⟨l, h1, _, h3, h4, h5⟩ := open_many sv 2 length_sv (by omega) (fun _ => True) Tryd.underlying26 cells_put (fun {fuel cs x} hl h => by
    obtain ⟨xs, n, rfl, _, hlen, hxl, hf⟩ := DataW.trod_struct Tryd.underlying52 h
    match cs, hl with
    | [c0, c1], _ =>
      match xs, hxl with
      | [y0, y1], _ =>
        have g0 : DataW.trod enc Tryd.prog W 0 (fun _ => true) true n 3 (([c0, c1].drop 0).take (Tryd.prog.cellsOf 3)) = some y0 := hf 0 _ rfl
        have g1 : DataW.trod enc Tryd.prog W 0 (fun _ => true) true n 3 (([c0, c1].drop 1).take (Tryd.prog.cellsOf 3)) = some y1 := hf 1 _ rfl
        rw [cells_int] at g0 g1
        have g0 : DataW.trod enc Tryd.prog W 0 (fun _ => true) true n 3 [c0] = some y0 := g0
        have g1 : DataW.trod enc Tryd.prog W 0 (fun _ => true) true n 3 [c1] = some y1 := g1
        obtain ⟨a, rfl⟩ := int_of g0
        obtain ⟨b, rfl⟩ := int_of g1
        exact ⟨(a, b), rfl, trivial⟩) h
  exact ⟨l, h3, h4, h5⟩
end

end Go.Proofs.YtldleijocjohgaaDoor
