/-
  No cell of these rows narrows 'for every input' (looked for: loops, veiled, ifaces, maps, wideKeys, modest, calm, conditions, laid).
  DERIVED. THE GIVEN ROWS OF THIS SEAT. 6 by the template 'for every input the law returns true; each argument reads behind the call as it read before'; 0 by the template 'total and deterministic' (their statements: YtglphgfaknofcaaTotals.lean).
  GIVEN WITH THE SEED: the statements are not yours to turn. If you find one false, say at which input.
  Laid BY PROGRAM, IN A SANDBOX (cutbox-rows.mjs): the forced cells as the released guide's own fill.sh prints them over the translation 1f49984e1869c77f… (all of the seat's roots in one cut). By AI agents, Wed Nov 11 2026. No macro, syntax, notation, axiom, sorry.
-/
import Derived.Test.YtglphgfaknofcaaChecked
import GoSem.Claim
import GoSem.ClaimJoined
import GoSem.ClaimMapViews
import Derived.JoinedTies
import Derived.KernelRfl
namespace Go.Proofs.Ytglphgfaknofcaa
/- THE CELL 'sum', in the pinned program and in every row, IS THE sha256 OF THE DUMP (.gsa) THAT YtglphgfaknofcaaProg.lean LOADS. Nothing in Lean hashes anything: it is a label: what it is worth is what the hold of that sum in a sandbox is worth. -/
noncomputable def Try.pinned : Pinned := { name := "ytglphgfaknofcaa", sum := "1f49984e1869c77fbe4547b77a129d73105929e8065019a57f8a2f917cfada73", checked := Try.checked }
namespace Rows
def none {H : Type} : Left H := { results := [], args := [] }

/-- 'mainsheetlaw14.GangDoes': WHATEVER THE INPUT: true; the input reads as it did. -/
def gangDoesSpec : ChangeSpec := { name := "gangDoes", fn := fun _ => fun
  | [d1, d2] => { results := [.lit (.bool true)], args := [d1, d2] }
  | _ => none }
def gangDoesRow : OpenClaim := { program := "ytglphgfaknofcaa", sum := "1f49984e1869c77fbe4547b77a129d73105929e8065019a57f8a2f917cfada73", func := "mainsheet/mainsheetlaw14.GangDoes", spec := "gangDoes", inPlace := ["slices.overlaps[mainsheet/api.Gang]"], unfollowed := true, recurses := true, apart := false }
def GangDoesSaid : Prop := gangDoesRow.holds Try.pinned (OpenSpec.ofChange gangDoesSpec)

/-- ITS FALSE NEIGHBOUR: 'it returns false'. Refute it at one input. -/
def gangDoesWrong : ChangeSpec := { name := "gangDoes", fn := fun _ => fun
  | [d1, d2] => { results := [.lit (.bool false)], args := [d1, d2] }
  | _ => none }
def GangDoesWrongFalsely : Prop := gangDoesRow.holds Try.pinned (OpenSpec.ofChange gangDoesWrong)

/-- 'mainsheetlaw14.GangTells': WHATEVER THE INPUT: true; the input reads as it did. -/
def gangTellsSpec : ChangeSpec := { name := "gangTells", fn := fun _ => fun
  | [d1, d2] => { results := [.lit (.bool true)], args := [d1, d2] }
  | _ => none }
def gangTellsRow : OpenClaim := { program := "ytglphgfaknofcaa", sum := "1f49984e1869c77fbe4547b77a129d73105929e8065019a57f8a2f917cfada73", func := "mainsheet/mainsheetlaw14.GangTells", spec := "gangTells", inPlace := ["slices.overlaps[mainsheet/api.Gang]"], unfollowed := true, recurses := true, apart := false }
def GangTellsSaid : Prop := gangTellsRow.holds Try.pinned (OpenSpec.ofChange gangTellsSpec)

/-- ITS FALSE NEIGHBOUR: 'it returns false'. Refute it at one input. -/
def gangTellsWrong : ChangeSpec := { name := "gangTells", fn := fun _ => fun
  | [d1, d2] => { results := [.lit (.bool false)], args := [d1, d2] }
  | _ => none }
def GangTellsWrongFalsely : Prop := gangTellsRow.holds Try.pinned (OpenSpec.ofChange gangTellsWrong)

/-- 'mainsheetlaw14.GangMatches': WHATEVER THE INPUT: true; the input reads as it did. -/
def gangMatchesSpec : ChangeSpec := { name := "gangMatches", fn := fun _ => fun
  | [d] => { results := [.lit (.bool true)], args := [d] }
  | _ => none }
def gangMatchesRow : OpenClaim := { program := "ytglphgfaknofcaa", sum := "1f49984e1869c77fbe4547b77a129d73105929e8065019a57f8a2f917cfada73", func := "mainsheet/mainsheetlaw14.GangMatches", spec := "gangMatches", inPlace := ["slices.overlaps[mainsheet/api.Gang]"], unfollowed := true, recurses := true, apart := false }
def GangMatchesSaid : Prop := gangMatchesRow.holds Try.pinned (OpenSpec.ofChange gangMatchesSpec)

/-- ITS FALSE NEIGHBOUR: 'it returns false'. Refute it at one input. -/
def gangMatchesWrong : ChangeSpec := { name := "gangMatches", fn := fun _ => fun
  | [d] => { results := [.lit (.bool false)], args := [d] }
  | _ => none }
def GangMatchesWrongFalsely : Prop := gangMatchesRow.holds Try.pinned (OpenSpec.ofChange gangMatchesWrong)

/-- 'mainsheetlaw14.GangOwn': WHATEVER THE INPUT: true; the input reads as it did. -/
def gangOwnSpec : ChangeSpec := { name := "gangOwn", fn := fun _ => fun
  | [d] => { results := [.lit (.bool true)], args := [d] }
  | _ => none }
def gangOwnRow : OpenClaim := { program := "ytglphgfaknofcaa", sum := "1f49984e1869c77fbe4547b77a129d73105929e8065019a57f8a2f917cfada73", func := "mainsheet/mainsheetlaw14.GangOwn", spec := "gangOwn", inPlace := ["slices.overlaps[mainsheet/api.Gang]"], unfollowed := true, recurses := true, apart := false }
def GangOwnSaid : Prop := gangOwnRow.holds Try.pinned (OpenSpec.ofChange gangOwnSpec)

/-- ITS FALSE NEIGHBOUR: 'it returns false'. Refute it at one input. -/
def gangOwnWrong : ChangeSpec := { name := "gangOwn", fn := fun _ => fun
  | [d] => { results := [.lit (.bool false)], args := [d] }
  | _ => none }
def GangOwnWrongFalsely : Prop := gangOwnRow.holds Try.pinned (OpenSpec.ofChange gangOwnWrong)

/-- 'mainsheetlaw14.GangBack': WHATEVER THE INPUT: true; the input reads as it did. -/
def gangBackSpec : ChangeSpec := { name := "gangBack", fn := fun _ => fun
  | [d1, d2, d3] => { results := [.lit (.bool true)], args := [d1, d2, d3] }
  | _ => none }
def gangBackRow : OpenClaim := { program := "ytglphgfaknofcaa", sum := "1f49984e1869c77fbe4547b77a129d73105929e8065019a57f8a2f917cfada73", func := "mainsheet/mainsheetlaw14.GangBack", spec := "gangBack", inPlace := ["slices.overlaps[mainsheet/api.Gang]"], unfollowed := true, recurses := true, apart := false }
def GangBackSaid : Prop := gangBackRow.holds Try.pinned (OpenSpec.ofChange gangBackSpec)

/-- ITS FALSE NEIGHBOUR: 'it returns false'. Refute it at one input. -/
def gangBackWrong : ChangeSpec := { name := "gangBack", fn := fun _ => fun
  | [d1, d2, d3] => { results := [.lit (.bool false)], args := [d1, d2, d3] }
  | _ => none }
def GangBackWrongFalsely : Prop := gangBackRow.holds Try.pinned (OpenSpec.ofChange gangBackWrong)

/-- 'mainsheetlaw14.GangApart': WHATEVER THE INPUT: true; the input reads as it did. -/
def gangApartSpec : ChangeSpec := { name := "gangApart", fn := fun _ => fun
  | [d] => { results := [.lit (.bool true)], args := [d] }
  | _ => none }
def gangApartRow : OpenClaim := { program := "ytglphgfaknofcaa", sum := "1f49984e1869c77fbe4547b77a129d73105929e8065019a57f8a2f917cfada73", func := "mainsheet/mainsheetlaw14.GangApart", spec := "gangApart", inPlace := ["slices.overlaps[mainsheet/api.Gang]"], unfollowed := true, recurses := true, apart := false }
def GangApartSaid : Prop := gangApartRow.holds Try.pinned (OpenSpec.ofChange gangApartSpec)

/-- ITS FALSE NEIGHBOUR: 'it returns false'. Refute it at one input. -/
def gangApartWrong : ChangeSpec := { name := "gangApart", fn := fun _ => fun
  | [d] => { results := [.lit (.bool false)], args := [d] }
  | _ => none }
def GangApartWrongFalsely : Prop := gangApartRow.holds Try.pinned (OpenSpec.ofChange gangApartWrong)

/- THE SECOND FORM. 'bulk': how many values and letters a reading holds, each counted each time it is reached (what is shared counts as often as it is met; a slice's spare places count too). A statement '..UptoSaid' is the law's where the arguments, and the package variables that the reading takes, are together of bulk at most 1048576: NARROWER than '..Said'. Prove '..Said' where nothing that the law and all that it calls make is longer than what came in: it says more and counts as full. Else prove '..UptoSaid'. A law counts once. -/
mutual
def uptoBulk {H : Type} : DataW H → Nat
  | .lit (.string bytes) => bytes.length + 1
  | .lit _ => 1
  | .nil => 1
  | .ptr d => uptoBulk d + 1
  | .slice elems spare => uptoBulkAll elems + uptoBulkAll spare + 1
  | .agg parts => uptoBulkAll parts + 1
  | .iface _ d => uptoBulk d + 1
  | .map entries => uptoBulkEntries entries + 1
  | .held _ => 1
def uptoBulkAll {H : Type} : List (DataW H) → Nat
  | [] => 0
  | d :: r => uptoBulk d + uptoBulkAll r
def uptoBulkEntries {H : Type} : List (Lit × DataW H) → Nat
  | [] => 0
  | x :: r => uptoBulkEntry x + uptoBulkEntries r
def uptoBulkEntry {H : Type} : Lit × DataW H → Nat
  | (.string bytes, d) => bytes.length + uptoBulk d + 1
  | (_, d) => uptoBulk d + 1
 end
def uptoSmall : (H : Type) → List (DataW H) → Bool := fun _ ds => decide (uptoBulkAll ds ≤ 1048576)
def OpenSpec.upto (s : _root_.Go.ChangeSpec) : _root_.Go.OpenSpec := { _root_.Go.OpenSpec.ofChange s with cond := some uptoSmall }

/-- 'mainsheetlaw14.GangDoes', WHERE WHAT IT READS IS OF BULK AT MOST 1048576: true; the input reads as it did. -/
def gangDoesUptoRow : OpenClaim := { program := "ytglphgfaknofcaa", sum := "1f49984e1869c77fbe4547b77a129d73105929e8065019a57f8a2f917cfada73", func := "mainsheet/mainsheetlaw14.GangDoes", spec := "gangDoes", inPlace := ["slices.overlaps[mainsheet/api.Gang]"], unfollowed := true, recurses := true, apart := false, narrowed := true }
def GangDoesUptoSaid : Prop := gangDoesUptoRow.holds Try.pinned (OpenSpec.upto gangDoesSpec)

/-- 'mainsheetlaw14.GangTells', WHERE WHAT IT READS IS OF BULK AT MOST 1048576: true; the input reads as it did. -/
def gangTellsUptoRow : OpenClaim := { program := "ytglphgfaknofcaa", sum := "1f49984e1869c77fbe4547b77a129d73105929e8065019a57f8a2f917cfada73", func := "mainsheet/mainsheetlaw14.GangTells", spec := "gangTells", inPlace := ["slices.overlaps[mainsheet/api.Gang]"], unfollowed := true, recurses := true, apart := false, narrowed := true }
def GangTellsUptoSaid : Prop := gangTellsUptoRow.holds Try.pinned (OpenSpec.upto gangTellsSpec)

/-- 'mainsheetlaw14.GangMatches', WHERE WHAT IT READS IS OF BULK AT MOST 1048576: true; the input reads as it did. -/
def gangMatchesUptoRow : OpenClaim := { program := "ytglphgfaknofcaa", sum := "1f49984e1869c77fbe4547b77a129d73105929e8065019a57f8a2f917cfada73", func := "mainsheet/mainsheetlaw14.GangMatches", spec := "gangMatches", inPlace := ["slices.overlaps[mainsheet/api.Gang]"], unfollowed := true, recurses := true, apart := false, narrowed := true }
def GangMatchesUptoSaid : Prop := gangMatchesUptoRow.holds Try.pinned (OpenSpec.upto gangMatchesSpec)

/-- 'mainsheetlaw14.GangOwn', WHERE WHAT IT READS IS OF BULK AT MOST 1048576: true; the input reads as it did. -/
def gangOwnUptoRow : OpenClaim := { program := "ytglphgfaknofcaa", sum := "1f49984e1869c77fbe4547b77a129d73105929e8065019a57f8a2f917cfada73", func := "mainsheet/mainsheetlaw14.GangOwn", spec := "gangOwn", inPlace := ["slices.overlaps[mainsheet/api.Gang]"], unfollowed := true, recurses := true, apart := false, narrowed := true }
def GangOwnUptoSaid : Prop := gangOwnUptoRow.holds Try.pinned (OpenSpec.upto gangOwnSpec)

/-- 'mainsheetlaw14.GangBack', WHERE WHAT IT READS IS OF BULK AT MOST 1048576: true; the input reads as it did. -/
def gangBackUptoRow : OpenClaim := { program := "ytglphgfaknofcaa", sum := "1f49984e1869c77fbe4547b77a129d73105929e8065019a57f8a2f917cfada73", func := "mainsheet/mainsheetlaw14.GangBack", spec := "gangBack", inPlace := ["slices.overlaps[mainsheet/api.Gang]"], unfollowed := true, recurses := true, apart := false, narrowed := true }
def GangBackUptoSaid : Prop := gangBackUptoRow.holds Try.pinned (OpenSpec.upto gangBackSpec)

/-- 'mainsheetlaw14.GangApart', WHERE WHAT IT READS IS OF BULK AT MOST 1048576: true; the input reads as it did. -/
def gangApartUptoRow : OpenClaim := { program := "ytglphgfaknofcaa", sum := "1f49984e1869c77fbe4547b77a129d73105929e8065019a57f8a2f917cfada73", func := "mainsheet/mainsheetlaw14.GangApart", spec := "gangApart", inPlace := ["slices.overlaps[mainsheet/api.Gang]"], unfollowed := true, recurses := true, apart := false, narrowed := true }
def GangApartUptoSaid : Prop := gangApartUptoRow.holds Try.pinned (OpenSpec.upto gangApartSpec)

end Rows
end Go.Proofs.Ytglphgfaknofcaa
