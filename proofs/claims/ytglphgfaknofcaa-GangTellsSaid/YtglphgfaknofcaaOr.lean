/-
  Arguments of this seat's statements: rows of gangs, opened. No statement is proved here.
-/
import Derived.Test.YtglphgfaknofcaaKm
import Derived.Test.YtglphgfaknofcaaOp
namespace Go.Proofs.Ytglphgfaknofcaa
open Go.RowKit

section
variable {H : Type} {enc : TypeId × Value → H} {W : World}
set_option maxRecDepth 100000 in
theorem open_lgangs {A : Option Addr} {n c : Nat} {d : DataW H} {ps : List MemPlace} (h : DataW.Trod enc Try.prog W 0 (fun _ => true) true 38 (.slice A n c) d ps) : ∃ l : List Gz, LA W A n l := by
  obtain ⟨l, _, h2, h3, _, h5⟩ := open_many gzv 1 length_gzv (by omega) (fun g : Gz => NA W g.1 g.2.1 g.2.2.2) Try.underlying38 cells_pgangs (fun {_ cs _} hl h => by
    obtain ⟨A, n, c, l, rfl, h1⟩ := pgangs_cells h
    exact ⟨(A, n, c, l), rfl, h1⟩) h
  exact ⟨l, h3, h5, all_of h2⟩
end

end Go.Proofs.Ytglphgfaknofcaa
