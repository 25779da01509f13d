/-
  What every world keeps at this seat (nothing), and the statements' wakes, over the landed calls. No statement is proved here.
-/
import Derived.Test.YtnckfgnhlnichaaOp
import Derived.Test.YtnckfgnhlnichaaPn
import Derived.Test.YtnckfgnhlnichaaPe
import Derived.Test.YtnckfgnhlnichaaPg
namespace Go.Proofs.Ytnckfgnhlnichaa
open Go.RowKit

def All : World → Prop := fun _ => True
theorem steady : Steady All := fun _ _ _ _ => trivial
theorem wk (u : World) (h : All u) : Calls Try.prog 9 #[] u (Said (.bool true) u) := wakes_any steady lnew_any (lsplit_any steady) (lmove_any steady) u h

end Go.Proofs.Ytnckfgnhlnichaa
