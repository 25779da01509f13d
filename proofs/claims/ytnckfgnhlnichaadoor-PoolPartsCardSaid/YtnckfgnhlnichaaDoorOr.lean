/-
  What every world keeps at this seat (the library's table of noughts), the statement's wakes, the landed List and Count as they are asked. No statement is proved here.
-/
import Derived.Test.YtnckfgnhlnichaaDoorOp
import Derived.Test.YtnckfgnhlnichaaDoorPn
import Derived.Test.YtnckfgnhlnichaaDoorPt
import Derived.Test.YtnckfgnhlnichaaDoorWc
import Derived.Stop.LaidErr
import Derived.Lay
import Derived.MakeChecks
namespace Go.Proofs.YtnckfgnhlnichaaDoor
open Go.RowKit

theorem steady : Steady Db := fun _ _ h hb => Db.below h hb (Db.lt h)
theorem wk (u : World) (h : Db u) : Calls Tryd.prog 4 #[] u (Said (.bool true) u) := wakes_any steady lnew_any (lsplit_any steady) (lmove_any steady) u h
theorem clist_ok : CListOk Db := fun s u hs hg => list_any (s : Int) u (by omega) (by omega) hg
theorem ccount_ok : CCountOk Db := fun s u hs _ => (count_any (s : Int) u (by omega) (by omega)).mono fun _ _ h => ⟨h.1, h.below _⟩
/-- what the row lists gives the table -/
theorem db_of_laid {W : World} (h : laidMetH Tryd.prog Rows.poolPartsRow.laid W) : Db W := by
  rw [MakeChecks.laidMetH_plain _ _ _ (by kernel_rfl)] at h
  exact Lib.tabIs_of_head (rest := _) (g := 0) (t := 75) (e := 5) (n := 32) (by kernel_rfl) (by kernel_rfl) Tryd.underlying75 Tryd.underlying5 (by kernel_rfl) (by kernel_rfl) h

end Go.Proofs.YtnckfgnhlnichaaDoor
