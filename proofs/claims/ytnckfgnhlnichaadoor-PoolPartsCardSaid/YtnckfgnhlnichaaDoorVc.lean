/-
  The contracts of the document's Of and Right. No statement is proved here.
-/
import Derived.Test.YtnckfgnhlnichaaDoorVb
namespace Go.Proofs.YtnckfgnhlnichaaDoor
open Go.RowKit



end Go.Proofs.YtnckfgnhlnichaaDoor
