/-
  The landed First, with the library's Clone. No statement is proved here.
-/
import Derived.Test.YtngbamoffjlodaaZRa
import Derived.WalkMore
namespace Go.Proofs.Ytngbamoffjlodaa
open Go.RowKit Go.Maps

theorem own6 {w : World} {base n size : Nat} {e : TypeId} {v : Value} {xs : List Value} {g : Nat} {x1 x2 x3 x4 x5 x6 : Value} (h : w.ownsRow base e size v n xs) (hg : g < base) :
    ((((((w.setCell ⟨g, 0, none⟩ x1).setCell ⟨g, 1, none⟩ x2).setCell ⟨g, 2, none⟩ x3).setCell ⟨g, 3, none⟩ x4).setCell ⟨g, 4, none⟩ x5).setCell ⟨g, 5, none⟩ x6).ownsRow base e size v n xs :=
  own_set (own_set (own_set (own_set (own_set (own_set h hg 0 x1) hg 1 x2) hg 2 x3) hg 3 x4) hg 4 x5) hg 5 x6
end Go.Proofs.Ytngbamoffjlodaa
