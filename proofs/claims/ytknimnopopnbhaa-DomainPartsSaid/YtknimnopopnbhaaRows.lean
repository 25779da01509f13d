/-
  No cell of these rows narrows 'for every input' (looked for: loops, veiled, ifaces, maps, wideKeys, modest, calm, conditions, laid).
  DERIVED. THE GIVEN ROWS OF THIS SEAT. 5 by the template 'for every input the law returns true; each argument reads behind the call as it read before'; 0 by the template 'total and deterministic' (their statements: YtknimnopopnbhaaTotals.lean).
  GIVEN WITH THE SEED: the statements are not yours to turn. If you find one false, say at which input.
  Laid BY PROGRAM, IN A SANDBOX (cutbox-rows.mjs): the forced cells as the released guide's own fill.sh prints them over the translation 0bd2ef8d6510d194… (all of the seat's roots in one cut). By AI agents, Wed Nov 11 2026. No macro, syntax, notation, axiom, sorry.
-/
import Derived.Test.YtknimnopopnbhaaChecked
import GoSem.Claim
import GoSem.ClaimJoined
import GoSem.ClaimMapViews
import Derived.JoinedTies
import Derived.KernelRfl
namespace Go.Proofs.Ytknimnopopnbhaa
/- THE CELL 'sum', in the pinned program and in every row, IS THE sha256 OF THE DUMP (.gsa) THAT YtknimnopopnbhaaProg.lean LOADS. Nothing in Lean hashes anything: it is a label: what it is worth is what the hold of that sum in a sandbox is worth. -/
noncomputable def Try.pinned : Pinned := { name := "ytknimnopopnbhaa", sum := "0bd2ef8d6510d194203cbc1965c9a74b9d78dd9c86580496114ad2752e91bc5d", checked := Try.checked }
namespace Rows
def none {H : Type} : Left H := { results := [], args := [] }

/-- 'mainsheetlaw09.DomainMakes': WHATEVER THE INPUT: true; the input reads as it did. -/
def domainMakesSpec : ChangeSpec := { name := "domainMakes", fn := fun _ => fun
  | [d1, d2] => { results := [.lit (.bool true)], args := [d1, d2] }
  | _ => none }
def domainMakesRow : OpenClaim := { program := "ytknimnopopnbhaa", sum := "0bd2ef8d6510d194203cbc1965c9a74b9d78dd9c86580496114ad2752e91bc5d", func := "mainsheet/mainsheetlaw09.DomainMakes", spec := "domainMakes", inPlace := ["slices.overlaps[mainsheet/api.Domain]", "slices.overlaps[mainsheet/api.Vcpu]"], unfollowed := true, recurses := true, apart := false }
def DomainMakesSaid : Prop := domainMakesRow.holds Try.pinned (OpenSpec.ofChange domainMakesSpec)

/-- ITS FALSE NEIGHBOUR: 'it returns false'. Refute it at one input. -/
def domainMakesWrong : ChangeSpec := { name := "domainMakes", fn := fun _ => fun
  | [d1, d2] => { results := [.lit (.bool false)], args := [d1, d2] }
  | _ => none }
def DomainMakesWrongFalsely : Prop := domainMakesRow.holds Try.pinned (OpenSpec.ofChange domainMakesWrong)

/-- 'mainsheetlaw09.DomainVcpus': WHATEVER THE INPUT: true; the input reads as it did. -/
def domainVcpusSpec : ChangeSpec := { name := "domainVcpus", fn := fun _ => fun
  | [d1, d2] => { results := [.lit (.bool true)], args := [d1, d2] }
  | _ => none }
def domainVcpusRow : OpenClaim := { program := "ytknimnopopnbhaa", sum := "0bd2ef8d6510d194203cbc1965c9a74b9d78dd9c86580496114ad2752e91bc5d", func := "mainsheet/mainsheetlaw09.DomainVcpus", spec := "domainVcpus", inPlace := ["slices.overlaps[mainsheet/api.Domain]", "slices.overlaps[mainsheet/api.Vcpu]"], unfollowed := true, recurses := true, apart := false }
def DomainVcpusSaid : Prop := domainVcpusRow.holds Try.pinned (OpenSpec.ofChange domainVcpusSpec)

/-- ITS FALSE NEIGHBOUR: 'it returns false'. Refute it at one input. -/
def domainVcpusWrong : ChangeSpec := { name := "domainVcpus", fn := fun _ => fun
  | [d1, d2] => { results := [.lit (.bool false)], args := [d1, d2] }
  | _ => none }
def DomainVcpusWrongFalsely : Prop := domainVcpusRow.holds Try.pinned (OpenSpec.ofChange domainVcpusWrong)

/-- 'mainsheetlaw09.DomainTells': WHATEVER THE INPUT: true; the input reads as it did. -/
def domainTellsSpec : ChangeSpec := { name := "domainTells", fn := fun _ => fun
  | [d1, d2, d3] => { results := [.lit (.bool true)], args := [d1, d2, d3] }
  | _ => none }
def domainTellsRow : OpenClaim := { program := "ytknimnopopnbhaa", sum := "0bd2ef8d6510d194203cbc1965c9a74b9d78dd9c86580496114ad2752e91bc5d", func := "mainsheet/mainsheetlaw09.DomainTells", spec := "domainTells", inPlace := ["slices.overlaps[mainsheet/api.Domain]", "slices.overlaps[mainsheet/api.Vcpu]"], unfollowed := true, recurses := true, apart := false }
def DomainTellsSaid : Prop := domainTellsRow.holds Try.pinned (OpenSpec.ofChange domainTellsSpec)

/-- ITS FALSE NEIGHBOUR: 'it returns false'. Refute it at one input. -/
def domainTellsWrong : ChangeSpec := { name := "domainTells", fn := fun _ => fun
  | [d1, d2, d3] => { results := [.lit (.bool false)], args := [d1, d2, d3] }
  | _ => none }
def DomainTellsWrongFalsely : Prop := domainTellsRow.holds Try.pinned (OpenSpec.ofChange domainTellsWrong)

/-- 'mainsheetlaw09.DomainParts': WHATEVER THE INPUT: true; the input reads as it did. -/
def domainPartsSpec : ChangeSpec := { name := "domainParts", fn := fun _ => fun
  | [d] => { results := [.lit (.bool true)], args := [d] }
  | _ => none }
def domainPartsRow : OpenClaim := { program := "ytknimnopopnbhaa", sum := "0bd2ef8d6510d194203cbc1965c9a74b9d78dd9c86580496114ad2752e91bc5d", func := "mainsheet/mainsheetlaw09.DomainParts", spec := "domainParts", inPlace := ["slices.overlaps[mainsheet/api.Domain]", "slices.overlaps[mainsheet/api.Vcpu]"], unfollowed := true, recurses := true, apart := false }
def DomainPartsSaid : Prop := domainPartsRow.holds Try.pinned (OpenSpec.ofChange domainPartsSpec)

/-- ITS FALSE NEIGHBOUR: 'it returns false'. Refute it at one input. -/
def domainPartsWrong : ChangeSpec := { name := "domainParts", fn := fun _ => fun
  | [d] => { results := [.lit (.bool false)], args := [d] }
  | _ => none }
def DomainPartsWrongFalsely : Prop := domainPartsRow.holds Try.pinned (OpenSpec.ofChange domainPartsWrong)

/-- 'mainsheetlaw09.DomainStays': WHATEVER THE INPUT: true; the input reads as it did. -/
def domainStaysSpec : ChangeSpec := { name := "domainStays", fn := fun _ => fun
  | [d] => { results := [.lit (.bool true)], args := [d] }
  | _ => none }
def domainStaysRow : OpenClaim := { program := "ytknimnopopnbhaa", sum := "0bd2ef8d6510d194203cbc1965c9a74b9d78dd9c86580496114ad2752e91bc5d", func := "mainsheet/mainsheetlaw09.DomainStays", spec := "domainStays", inPlace := ["slices.overlaps[mainsheet/api.Domain]", "slices.overlaps[mainsheet/api.Vcpu]"], unfollowed := true, recurses := true, apart := false }
def DomainStaysSaid : Prop := domainStaysRow.holds Try.pinned (OpenSpec.ofChange domainStaysSpec)

/-- ITS FALSE NEIGHBOUR: 'it returns false'. Refute it at one input. -/
def domainStaysWrong : ChangeSpec := { name := "domainStays", fn := fun _ => fun
  | [d] => { results := [.lit (.bool false)], args := [d] }
  | _ => none }
def DomainStaysWrongFalsely : Prop := domainStaysRow.holds Try.pinned (OpenSpec.ofChange domainStaysWrong)

/- THE SECOND FORM. 'bulk': how many values and letters a reading holds, each counted each time it is reached (what is shared counts as often as it is met; a slice's spare places count too). A statement '..UptoSaid' is the law's where the arguments, and the package variables that the reading takes, are together of bulk at most 1048576: NARROWER than '..Said'. Prove '..Said' where nothing that the law and all that it calls make is longer than what came in: it says more and counts as full. Else prove '..UptoSaid'. A law counts once. -/
mutual
def uptoBulk {H : Type} : DataW H → Nat
  | .lit (.string bytes) => bytes.length + 1
  | .lit _ => 1
  | .nil => 1
  | .ptr d => uptoBulk d + 1
  | .slice elems spare => uptoBulkAll elems + uptoBulkAll spare + 1
  | .agg parts => uptoBulkAll parts + 1
  | .iface _ d => uptoBulk d + 1
  | .map entries => uptoBulkEntries entries + 1
  | .held _ => 1
def uptoBulkAll {H : Type} : List (DataW H) → Nat
  | [] => 0
  | d :: r => uptoBulk d + uptoBulkAll r
def uptoBulkEntries {H : Type} : List (Lit × DataW H) → Nat
  | [] => 0
  | x :: r => uptoBulkEntry x + uptoBulkEntries r
def uptoBulkEntry {H : Type} : Lit × DataW H → Nat
  | (.string bytes, d) => bytes.length + uptoBulk d + 1
  | (_, d) => uptoBulk d + 1
 end
def uptoSmall : (H : Type) → List (DataW H) → Bool := fun _ ds => decide (uptoBulkAll ds ≤ 1048576)
def OpenSpec.upto (s : _root_.Go.ChangeSpec) : _root_.Go.OpenSpec := { _root_.Go.OpenSpec.ofChange s with cond := some uptoSmall }

/-- 'mainsheetlaw09.DomainMakes', WHERE WHAT IT READS IS OF BULK AT MOST 1048576: true; the input reads as it did. -/
def domainMakesUptoRow : OpenClaim := { program := "ytknimnopopnbhaa", sum := "0bd2ef8d6510d194203cbc1965c9a74b9d78dd9c86580496114ad2752e91bc5d", func := "mainsheet/mainsheetlaw09.DomainMakes", spec := "domainMakes", inPlace := ["slices.overlaps[mainsheet/api.Domain]", "slices.overlaps[mainsheet/api.Vcpu]"], unfollowed := true, recurses := true, apart := false, narrowed := true }
def DomainMakesUptoSaid : Prop := domainMakesUptoRow.holds Try.pinned (OpenSpec.upto domainMakesSpec)

/-- 'mainsheetlaw09.DomainVcpus', WHERE WHAT IT READS IS OF BULK AT MOST 1048576: true; the input reads as it did. -/
def domainVcpusUptoRow : OpenClaim := { program := "ytknimnopopnbhaa", sum := "0bd2ef8d6510d194203cbc1965c9a74b9d78dd9c86580496114ad2752e91bc5d", func := "mainsheet/mainsheetlaw09.DomainVcpus", spec := "domainVcpus", inPlace := ["slices.overlaps[mainsheet/api.Domain]", "slices.overlaps[mainsheet/api.Vcpu]"], unfollowed := true, recurses := true, apart := false, narrowed := true }
def DomainVcpusUptoSaid : Prop := domainVcpusUptoRow.holds Try.pinned (OpenSpec.upto domainVcpusSpec)

/-- 'mainsheetlaw09.DomainTells', WHERE WHAT IT READS IS OF BULK AT MOST 1048576: true; the input reads as it did. -/
def domainTellsUptoRow : OpenClaim := { program := "ytknimnopopnbhaa", sum := "0bd2ef8d6510d194203cbc1965c9a74b9d78dd9c86580496114ad2752e91bc5d", func := "mainsheet/mainsheetlaw09.DomainTells", spec := "domainTells", inPlace := ["slices.overlaps[mainsheet/api.Domain]", "slices.overlaps[mainsheet/api.Vcpu]"], unfollowed := true, recurses := true, apart := false, narrowed := true }
def DomainTellsUptoSaid : Prop := domainTellsUptoRow.holds Try.pinned (OpenSpec.upto domainTellsSpec)

/-- 'mainsheetlaw09.DomainParts', WHERE WHAT IT READS IS OF BULK AT MOST 1048576: true; the input reads as it did. -/
def domainPartsUptoRow : OpenClaim := { program := "ytknimnopopnbhaa", sum := "0bd2ef8d6510d194203cbc1965c9a74b9d78dd9c86580496114ad2752e91bc5d", func := "mainsheet/mainsheetlaw09.DomainParts", spec := "domainParts", inPlace := ["slices.overlaps[mainsheet/api.Domain]", "slices.overlaps[mainsheet/api.Vcpu]"], unfollowed := true, recurses := true, apart := false, narrowed := true }
def DomainPartsUptoSaid : Prop := domainPartsUptoRow.holds Try.pinned (OpenSpec.upto domainPartsSpec)

/-- 'mainsheetlaw09.DomainStays', WHERE WHAT IT READS IS OF BULK AT MOST 1048576: true; the input reads as it did. -/
def domainStaysUptoRow : OpenClaim := { program := "ytknimnopopnbhaa", sum := "0bd2ef8d6510d194203cbc1965c9a74b9d78dd9c86580496114ad2752e91bc5d", func := "mainsheet/mainsheetlaw09.DomainStays", spec := "domainStays", inPlace := ["slices.overlaps[mainsheet/api.Domain]", "slices.overlaps[mainsheet/api.Vcpu]"], unfollowed := true, recurses := true, apart := false, narrowed := true }
def DomainStaysUptoSaid : Prop := domainStaysUptoRow.holds Try.pinned (OpenSpec.upto domainStaysSpec)

end Rows
end Go.Proofs.Ytknimnopopnbhaa
