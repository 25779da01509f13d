/-
  OrderEach's walk: each runner is in one entity; each entity stands ahead of those behind it. No statement is proved here.
-/
import Derived.Test.YtngbamoffjlodaaZRc
import Derived.Test.YtngbamoffjlodaaZQf
namespace Go.Proofs.Ytngbamoffjlodaa
open Go.RowKit Go.Maps

end Go.Proofs.Ytngbamoffjlodaa
