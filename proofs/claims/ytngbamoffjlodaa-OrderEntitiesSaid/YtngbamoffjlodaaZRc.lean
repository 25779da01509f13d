/-
  What holds of all entities, in order: plain mathematics. No statement is proved here.
-/
import Derived.Test.YtngbamoffjlodaaZRb
import Derived.Test.YtngbamoffjlodaaZQe
namespace Go.Proofs.Ytngbamoffjlodaa
open Go.RowKit Go.Maps

end Go.Proofs.Ytngbamoffjlodaa
