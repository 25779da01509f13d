/-
  The landed Place (with the library's IndexFunc, Contains, Index). No statement is proved here.
-/
import Derived.Test.YtngbamoffjlodaaZQa
namespace Go.Proofs.Ytngbamoffjlodaa
open Go.RowKit Go.Maps

end Go.Proofs.Ytngbamoffjlodaa
