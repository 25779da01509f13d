/-
  The landed canStand and Ahead; the statements' like. No statement is proved here.
-/
import Derived.Test.YtngbamoffjlodaaZPc
import Derived.Deep.RegionHeld3
namespace Go.Proofs.Ytngbamoffjlodaa
open Go.RowKit Go.Maps

theorem Fst.below {w w' : World} {A : Option Addr} {n : Nat} {i : Int} (h : Fst w A n i) (g : Below w.heap.size w w') : Fst w' A n i := by
  obtain ⟨h0, ad, e, hb, hc⟩ := h
  exact ⟨h0, ad, e, Nat.lt_of_lt_of_le hb g.size, (g.cell hb).trans hc⟩

end Go.Proofs.Ytngbamoffjlodaa
