/-
  PoolRead's walk, on what is asked of the landed calls.
-/
import Derived.Test.YtnckfgnhlnichaaDoorVk
import Derived.Test.YtnckfgnhlnichaaDoorVu
namespace Go.Proofs.YtnckfgnhlnichaaDoor
open Go.RowKit











end Go.Proofs.YtnckfgnhlnichaaDoor
