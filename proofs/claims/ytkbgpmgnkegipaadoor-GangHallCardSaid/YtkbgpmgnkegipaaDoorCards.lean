/-
  DERIVED. GIVEN WITH THE SEED: THE CARDS: each row of YtkbgpmgnkegipaaDoorRows.lean that lists a variable, with what it lists TIED to the program's text (the seventh form; the later family's looks); each row that meets fmt, with fmt's text TOLD by the authors' own Lean function (tested against real Go, not proved from fmt's source: count such statements apart). THE CARD IS WHAT COUNTS. Prove the row's statement (the work); the ties are given (YtkbgpmgnkegipaaDoorTie.lean); close each card by the builder's one call (the guide's Derived/Test/ToyasCard.lean, 'card_holds'). Laid BY PROGRAM, IN A SANDBOX (cutbox-door.mjs). By AI agents, Wed Nov 11 2026. No macro, syntax, notation, axiom, sorry.
-/
import Derived.Test.YtkbgpmgnkegipaaDoorRows
import GoSem.ClaimSeven
namespace Go.Proofs.YtkbgpmgnkegipaaDoor
namespace Rows

/-- THE TIED CARD OF 'mainsheetlaw14.GangRoom'. -/
def gangRoomCard : Claim7 := { stood := { row := gangRoomRow, standIns := [], harness := (true, "f7233d1588271ff1c0acd4fff5cdd08cf1ff7d44478ee0693ec0b905f58716ac"), looks := false }, kinds := [], alts := [], laidByText := true, laidKinds := [.data], laidTests := true, laidLooks := .later }
def GangRoomCardSaid : Prop := Claim7.holds Tryd.pinned (.plain (OpenSpec.ofChange gangRoomSpec)) gangRoomCard

/-- THE TIED CARD OF 'mainsheetlaw14.GangHall'. -/
def gangHallCard : Claim7 := { stood := { row := gangHallRow, standIns := [], harness := (true, "f7233d1588271ff1c0acd4fff5cdd08cf1ff7d44478ee0693ec0b905f58716ac"), looks := false }, kinds := [], alts := [], laidByText := true, laidKinds := [.data], laidTests := true, laidLooks := .later }
def GangHallCardSaid : Prop := Claim7.holds Tryd.pinned (.plain (OpenSpec.ofChange gangHallSpec)) gangHallCard

/-- THE SECOND FORM's CARD OF 'mainsheetlaw14.GangRoom'. -/
def gangRoomUptoCard : Claim7 := { stood := { row := gangRoomUptoRow, standIns := [], harness := (true, "f7233d1588271ff1c0acd4fff5cdd08cf1ff7d44478ee0693ec0b905f58716ac"), looks := false }, kinds := [], alts := [], laidByText := true, laidKinds := [.data], laidTests := true, laidLooks := .later }
def GangRoomUptoCardSaid : Prop := Claim7.holds Tryd.pinned (.plain (OpenSpec.upto gangRoomSpec)) gangRoomUptoCard

/-- THE SECOND FORM's CARD OF 'mainsheetlaw14.GangHall'. -/
def gangHallUptoCard : Claim7 := { stood := { row := gangHallUptoRow, standIns := [], harness := (true, "f7233d1588271ff1c0acd4fff5cdd08cf1ff7d44478ee0693ec0b905f58716ac"), looks := false }, kinds := [], alts := [], laidByText := true, laidKinds := [.data], laidTests := true, laidLooks := .later }
def GangHallUptoCardSaid : Prop := Claim7.holds Tryd.pinned (.plain (OpenSpec.upto gangHallSpec)) gangHallUptoCard
end Rows
end Go.Proofs.YtkbgpmgnkegipaaDoor
