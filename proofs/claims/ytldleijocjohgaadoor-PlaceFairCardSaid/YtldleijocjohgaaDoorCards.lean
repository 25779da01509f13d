/-
  DERIVED. GIVEN WITH THE SEED: THE CARDS: each row of YtldleijocjohgaaDoorRows.lean that lists a variable, with what it lists TIED to the program's text (the seventh form; the later family's looks); each row that meets fmt, with fmt's text TOLD by the authors' own Lean function (tested against real Go, not proved from fmt's source: count such statements apart). THE CARD IS WHAT COUNTS. Prove the row's statement (the work); the ties are given (YtldleijocjohgaaDoorTie.lean); close each card by the builder's one call (the guide's Derived/Test/ToyasCard.lean, 'card_holds'). Laid BY PROGRAM, IN A SANDBOX (cutbox-door.mjs). By AI agents, Wed Nov 11 2026. No macro, syntax, notation, axiom, sorry.
-/
import Derived.Test.YtldleijocjohgaaDoorRows
import GoSem.ClaimSeven
namespace Go.Proofs.YtldleijocjohgaaDoor
namespace Rows

/-- THE TIED CARD OF 'mainsheetlaw13.PlacePlaces'. -/
def placePlacesCard : Claim7 := { stood := { row := placePlacesRow, standIns := [], harness := (true, "7cfb1ce506951c2797a2ce45c85786f68946a911c5d3ae5d450a77362c2d6298"), looks := false }, kinds := [], alts := [], laidByText := true, laidKinds := [.data], laidTests := true, laidLooks := .later }
def PlacePlacesCardSaid : Prop := Claim7.holds Tryd.pinned (.plain (OpenSpec.ofChange placePlacesSpec)) placePlacesCard

/-- THE TIED CARD OF 'mainsheetlaw13.PlaceFair'. -/
def placeFairCard : Claim7 := { stood := { row := placeFairRow, standIns := [], harness := (true, "7cfb1ce506951c2797a2ce45c85786f68946a911c5d3ae5d450a77362c2d6298"), looks := false }, kinds := [], alts := [], laidByText := true, laidKinds := [.data], laidTests := true, laidLooks := .later }
def PlaceFairCardSaid : Prop := Claim7.holds Tryd.pinned (.plain (OpenSpec.ofChange placeFairSpec)) placeFairCard

/-- THE TIED CARD OF 'mainsheetlaw13.PlaceWaits'. -/
def placeWaitsCard : Claim7 := { stood := { row := placeWaitsRow, standIns := [], harness := (true, "7cfb1ce506951c2797a2ce45c85786f68946a911c5d3ae5d450a77362c2d6298"), looks := false }, kinds := [], alts := [], laidByText := true, laidKinds := [.data], laidTests := true, laidLooks := .later }
def PlaceWaitsCardSaid : Prop := Claim7.holds Tryd.pinned (.plain (OpenSpec.ofChange placeWaitsSpec)) placeWaitsCard

/-- THE TIED CARD OF 'mainsheetlaw13.PlaceMore'. -/
def placeMoreCard : Claim7 := { stood := { row := placeMoreRow, standIns := [], harness := (true, "7cfb1ce506951c2797a2ce45c85786f68946a911c5d3ae5d450a77362c2d6298"), looks := false }, kinds := [], alts := [], laidByText := true, laidKinds := [.data], laidTests := true, laidLooks := .later }
def PlaceMoreCardSaid : Prop := Claim7.holds Tryd.pinned (.plain (OpenSpec.ofChange placeMoreSpec)) placeMoreCard

/-- THE TIED CARD OF 'mainsheetlaw13.PlaceFull'. -/
def placeFullCard : Claim7 := { stood := { row := placeFullRow, standIns := [], harness := (true, "7cfb1ce506951c2797a2ce45c85786f68946a911c5d3ae5d450a77362c2d6298"), looks := false }, kinds := [], alts := [], laidByText := true, laidKinds := [.data], laidTests := true, laidLooks := .later }
def PlaceFullCardSaid : Prop := Claim7.holds Tryd.pinned (.plain (OpenSpec.ofChange placeFullSpec)) placeFullCard

/-- THE SECOND FORM's CARD OF 'mainsheetlaw13.PlacePlaces'. -/
def placePlacesUptoCard : Claim7 := { stood := { row := placePlacesUptoRow, standIns := [], harness := (true, "7cfb1ce506951c2797a2ce45c85786f68946a911c5d3ae5d450a77362c2d6298"), looks := false }, kinds := [], alts := [], laidByText := true, laidKinds := [.data], laidTests := true, laidLooks := .later }
def PlacePlacesUptoCardSaid : Prop := Claim7.holds Tryd.pinned (.plain (OpenSpec.upto placePlacesSpec)) placePlacesUptoCard

/-- THE SECOND FORM's CARD OF 'mainsheetlaw13.PlaceFair'. -/
def placeFairUptoCard : Claim7 := { stood := { row := placeFairUptoRow, standIns := [], harness := (true, "7cfb1ce506951c2797a2ce45c85786f68946a911c5d3ae5d450a77362c2d6298"), looks := false }, kinds := [], alts := [], laidByText := true, laidKinds := [.data], laidTests := true, laidLooks := .later }
def PlaceFairUptoCardSaid : Prop := Claim7.holds Tryd.pinned (.plain (OpenSpec.upto placeFairSpec)) placeFairUptoCard

/-- THE SECOND FORM's CARD OF 'mainsheetlaw13.PlaceWaits'. -/
def placeWaitsUptoCard : Claim7 := { stood := { row := placeWaitsUptoRow, standIns := [], harness := (true, "7cfb1ce506951c2797a2ce45c85786f68946a911c5d3ae5d450a77362c2d6298"), looks := false }, kinds := [], alts := [], laidByText := true, laidKinds := [.data], laidTests := true, laidLooks := .later }
def PlaceWaitsUptoCardSaid : Prop := Claim7.holds Tryd.pinned (.plain (OpenSpec.upto placeWaitsSpec)) placeWaitsUptoCard

/-- THE SECOND FORM's CARD OF 'mainsheetlaw13.PlaceMore'. -/
def placeMoreUptoCard : Claim7 := { stood := { row := placeMoreUptoRow, standIns := [], harness := (true, "7cfb1ce506951c2797a2ce45c85786f68946a911c5d3ae5d450a77362c2d6298"), looks := false }, kinds := [], alts := [], laidByText := true, laidKinds := [.data], laidTests := true, laidLooks := .later }
def PlaceMoreUptoCardSaid : Prop := Claim7.holds Tryd.pinned (.plain (OpenSpec.upto placeMoreSpec)) placeMoreUptoCard

/-- THE SECOND FORM's CARD OF 'mainsheetlaw13.PlaceFull'. -/
def placeFullUptoCard : Claim7 := { stood := { row := placeFullUptoRow, standIns := [], harness := (true, "7cfb1ce506951c2797a2ce45c85786f68946a911c5d3ae5d450a77362c2d6298"), looks := false }, kinds := [], alts := [], laidByText := true, laidKinds := [.data], laidTests := true, laidLooks := .later }
def PlaceFullUptoCardSaid : Prop := Claim7.holds Tryd.pinned (.plain (OpenSpec.upto placeFullSpec)) placeFullUptoCard
end Rows
end Go.Proofs.YtldleijocjohgaaDoor
