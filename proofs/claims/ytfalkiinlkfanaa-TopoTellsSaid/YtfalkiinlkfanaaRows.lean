/-
  No cell of these rows narrows 'for every input' (looked for: loops, veiled, ifaces, maps, wideKeys, modest, calm, conditions, laid).
  DERIVED. THE GIVEN ROWS OF THIS SEAT. 7 by the template 'for every input the law returns true; each argument reads behind the call as it read before'; 0 by the template 'total and deterministic' (their statements: YtfalkiinlkfanaaTotals.lean).
  GIVEN WITH THE SEED: the statements are not yours to turn. If you find one false, say at which input.
  Laid BY PROGRAM, IN A SANDBOX (cutbox-rows.mjs): the forced cells as the released guide's own fill.sh prints them over the translation 618c59bff62d98c2… (all of the seat's roots in one cut). By AI agents, Wed Nov 11 2026. No macro, syntax, notation, axiom, sorry.
-/
import Derived.Test.YtfalkiinlkfanaaChecked
import GoSem.Claim
import GoSem.ClaimJoined
import GoSem.ClaimMapViews
import Derived.JoinedTies
import Derived.KernelRfl
namespace Go.Proofs.Ytfalkiinlkfanaa
/- THE CELL 'sum', in the pinned program and in every row, IS THE sha256 OF THE DUMP (.gsa) THAT YtfalkiinlkfanaaProg.lean LOADS. Nothing in Lean hashes anything: it is a label: what it is worth is what the hold of that sum in a sandbox is worth. -/
noncomputable def Try.pinned : Pinned := { name := "ytfalkiinlkfanaa", sum := "618c59bff62d98c2513adc370847aac19d1112bba13da3de8108a085b15cde4f", checked := Try.checked }
namespace Rows
def none {H : Type} : Left H := { results := [], args := [] }

/-- 'mainsheetlaw06.TopoTells': WHATEVER THE INPUT: true; the input reads as it did. -/
def topoTellsSpec : ChangeSpec := { name := "topoTells", fn := fun _ => fun
  | [d1, d2] => { results := [.lit (.bool true)], args := [d1, d2] }
  | _ => none }
def topoTellsRow : OpenClaim := { program := "ytfalkiinlkfanaa", sum := "618c59bff62d98c2513adc370847aac19d1112bba13da3de8108a085b15cde4f", func := "mainsheet/mainsheetlaw06.TopoTells", spec := "topoTells", unfollowed := true, recurses := true, apart := false }
def TopoTellsSaid : Prop := topoTellsRow.holds Try.pinned (OpenSpec.ofChange topoTellsSpec)

/-- ITS FALSE NEIGHBOUR: 'it returns false'. Refute it at one input. -/
def topoTellsWrong : ChangeSpec := { name := "topoTells", fn := fun _ => fun
  | [d1, d2] => { results := [.lit (.bool false)], args := [d1, d2] }
  | _ => none }
def TopoTellsWrongFalsely : Prop := topoTellsRow.holds Try.pinned (OpenSpec.ofChange topoTellsWrong)

/-- 'mainsheetlaw06.TopoDists': WHATEVER THE INPUT: true; the input reads as it did. -/
def topoDistsSpec : ChangeSpec := { name := "topoDists", fn := fun _ => fun
  | [d1, d2, d3] => { results := [.lit (.bool true)], args := [d1, d2, d3] }
  | _ => none }
def topoDistsRow : OpenClaim := { program := "ytfalkiinlkfanaa", sum := "618c59bff62d98c2513adc370847aac19d1112bba13da3de8108a085b15cde4f", func := "mainsheet/mainsheetlaw06.TopoDists", spec := "topoDists", unfollowed := true, recurses := true, apart := false }
def TopoDistsSaid : Prop := topoDistsRow.holds Try.pinned (OpenSpec.ofChange topoDistsSpec)

/-- ITS FALSE NEIGHBOUR: 'it returns false'. Refute it at one input. -/
def topoDistsWrong : ChangeSpec := { name := "topoDists", fn := fun _ => fun
  | [d1, d2, d3] => { results := [.lit (.bool false)], args := [d1, d2, d3] }
  | _ => none }
def TopoDistsWrongFalsely : Prop := topoDistsRow.holds Try.pinned (OpenSpec.ofChange topoDistsWrong)

/-- 'mainsheetlaw06.TopoMakes': WHATEVER THE INPUT: true; the input reads as it did. -/
def topoMakesSpec : ChangeSpec := { name := "topoMakes", fn := fun _ => fun
  | [d1, d2] => { results := [.lit (.bool true)], args := [d1, d2] }
  | _ => none }
def topoMakesRow : OpenClaim := { program := "ytfalkiinlkfanaa", sum := "618c59bff62d98c2513adc370847aac19d1112bba13da3de8108a085b15cde4f", func := "mainsheet/mainsheetlaw06.TopoMakes", spec := "topoMakes", unfollowed := true, recurses := true, apart := false }
def TopoMakesSaid : Prop := topoMakesRow.holds Try.pinned (OpenSpec.ofChange topoMakesSpec)

/-- ITS FALSE NEIGHBOUR: 'it returns false'. Refute it at one input. -/
def topoMakesWrong : ChangeSpec := { name := "topoMakes", fn := fun _ => fun
  | [d1, d2] => { results := [.lit (.bool false)], args := [d1, d2] }
  | _ => none }
def TopoMakesWrongFalsely : Prop := topoMakesRow.holds Try.pinned (OpenSpec.ofChange topoMakesWrong)

/-- 'mainsheetlaw06.TopoBytes': WHATEVER THE INPUT: true; the input reads as it did. -/
def topoBytesSpec : ChangeSpec := { name := "topoBytes", fn := fun _ => fun
  | [d1, d2] => { results := [.lit (.bool true)], args := [d1, d2] }
  | _ => none }
def topoBytesRow : OpenClaim := { program := "ytfalkiinlkfanaa", sum := "618c59bff62d98c2513adc370847aac19d1112bba13da3de8108a085b15cde4f", func := "mainsheet/mainsheetlaw06.TopoBytes", spec := "topoBytes", unfollowed := true, recurses := true, apart := false }
def TopoBytesSaid : Prop := topoBytesRow.holds Try.pinned (OpenSpec.ofChange topoBytesSpec)

/-- ITS FALSE NEIGHBOUR: 'it returns false'. Refute it at one input. -/
def topoBytesWrong : ChangeSpec := { name := "topoBytes", fn := fun _ => fun
  | [d1, d2] => { results := [.lit (.bool false)], args := [d1, d2] }
  | _ => none }
def TopoBytesWrongFalsely : Prop := topoBytesRow.holds Try.pinned (OpenSpec.ofChange topoBytesWrong)

/-- 'mainsheetlaw06.TopoMetric': WHATEVER THE INPUT: true; the input reads as it did. -/
def topoMetricSpec : ChangeSpec := { name := "topoMetric", fn := fun _ => fun
  | [d] => { results := [.lit (.bool true)], args := [d] }
  | _ => none }
def topoMetricRow : OpenClaim := { program := "ytfalkiinlkfanaa", sum := "618c59bff62d98c2513adc370847aac19d1112bba13da3de8108a085b15cde4f", func := "mainsheet/mainsheetlaw06.TopoMetric", spec := "topoMetric", unfollowed := true, recurses := true, apart := false }
def TopoMetricSaid : Prop := topoMetricRow.holds Try.pinned (OpenSpec.ofChange topoMetricSpec)

/-- ITS FALSE NEIGHBOUR: 'it returns false'. Refute it at one input. -/
def topoMetricWrong : ChangeSpec := { name := "topoMetric", fn := fun _ => fun
  | [d] => { results := [.lit (.bool false)], args := [d] }
  | _ => none }
def TopoMetricWrongFalsely : Prop := topoMetricRow.holds Try.pinned (OpenSpec.ofChange topoMetricWrong)

/-- 'mainsheetlaw06.TopoParts': WHATEVER THE INPUT: true; the input reads as it did. -/
def topoPartsSpec : ChangeSpec := { name := "topoParts", fn := fun _ => fun
  | [d1, d2, d3] => { results := [.lit (.bool true)], args := [d1, d2, d3] }
  | _ => none }
def topoPartsRow : OpenClaim := { program := "ytfalkiinlkfanaa", sum := "618c59bff62d98c2513adc370847aac19d1112bba13da3de8108a085b15cde4f", func := "mainsheet/mainsheetlaw06.TopoParts", spec := "topoParts", unfollowed := true, recurses := true, apart := false }
def TopoPartsSaid : Prop := topoPartsRow.holds Try.pinned (OpenSpec.ofChange topoPartsSpec)

/-- ITS FALSE NEIGHBOUR: 'it returns false'. Refute it at one input. -/
def topoPartsWrong : ChangeSpec := { name := "topoParts", fn := fun _ => fun
  | [d1, d2, d3] => { results := [.lit (.bool false)], args := [d1, d2, d3] }
  | _ => none }
def TopoPartsWrongFalsely : Prop := topoPartsRow.holds Try.pinned (OpenSpec.ofChange topoPartsWrong)

/-- 'mainsheetlaw06.TopoBack': WHATEVER THE INPUT: true; the input reads as it did. -/
def topoBackSpec : ChangeSpec := { name := "topoBack", fn := fun _ => fun
  | [d1, d2] => { results := [.lit (.bool true)], args := [d1, d2] }
  | _ => none }
def topoBackRow : OpenClaim := { program := "ytfalkiinlkfanaa", sum := "618c59bff62d98c2513adc370847aac19d1112bba13da3de8108a085b15cde4f", func := "mainsheet/mainsheetlaw06.TopoBack", spec := "topoBack", unfollowed := true, recurses := true, apart := false }
def TopoBackSaid : Prop := topoBackRow.holds Try.pinned (OpenSpec.ofChange topoBackSpec)

/-- ITS FALSE NEIGHBOUR: 'it returns false'. Refute it at one input. -/
def topoBackWrong : ChangeSpec := { name := "topoBack", fn := fun _ => fun
  | [d1, d2] => { results := [.lit (.bool false)], args := [d1, d2] }
  | _ => none }
def TopoBackWrongFalsely : Prop := topoBackRow.holds Try.pinned (OpenSpec.ofChange topoBackWrong)

/- THE SECOND FORM. 'bulk': how many values and letters a reading holds, each counted each time it is reached (what is shared counts as often as it is met; a slice's spare places count too). A statement '..UptoSaid' is the law's where the arguments, and the package variables that the reading takes, are together of bulk at most 1048576: NARROWER than '..Said'. Prove '..Said' where nothing that the law and all that it calls make is longer than what came in: it says more and counts as full. Else prove '..UptoSaid'. A law counts once. -/
mutual
def uptoBulk {H : Type} : DataW H → Nat
  | .lit (.string bytes) => bytes.length + 1
  | .lit _ => 1
  | .nil => 1
  | .ptr d => uptoBulk d + 1
  | .slice elems spare => uptoBulkAll elems + uptoBulkAll spare + 1
  | .agg parts => uptoBulkAll parts + 1
  | .iface _ d => uptoBulk d + 1
  | .map entries => uptoBulkEntries entries + 1
  | .held _ => 1
def uptoBulkAll {H : Type} : List (DataW H) → Nat
  | [] => 0
  | d :: r => uptoBulk d + uptoBulkAll r
def uptoBulkEntries {H : Type} : List (Lit × DataW H) → Nat
  | [] => 0
  | x :: r => uptoBulkEntry x + uptoBulkEntries r
def uptoBulkEntry {H : Type} : Lit × DataW H → Nat
  | (.string bytes, d) => bytes.length + uptoBulk d + 1
  | (_, d) => uptoBulk d + 1
 end
def uptoSmall : (H : Type) → List (DataW H) → Bool := fun _ ds => decide (uptoBulkAll ds ≤ 1048576)
def OpenSpec.upto (s : _root_.Go.ChangeSpec) : _root_.Go.OpenSpec := { _root_.Go.OpenSpec.ofChange s with cond := some uptoSmall }

/-- 'mainsheetlaw06.TopoTells', WHERE WHAT IT READS IS OF BULK AT MOST 1048576: true; the input reads as it did. -/
def topoTellsUptoRow : OpenClaim := { program := "ytfalkiinlkfanaa", sum := "618c59bff62d98c2513adc370847aac19d1112bba13da3de8108a085b15cde4f", func := "mainsheet/mainsheetlaw06.TopoTells", spec := "topoTells", unfollowed := true, recurses := true, apart := false, narrowed := true }
def TopoTellsUptoSaid : Prop := topoTellsUptoRow.holds Try.pinned (OpenSpec.upto topoTellsSpec)

/-- 'mainsheetlaw06.TopoDists', WHERE WHAT IT READS IS OF BULK AT MOST 1048576: true; the input reads as it did. -/
def topoDistsUptoRow : OpenClaim := { program := "ytfalkiinlkfanaa", sum := "618c59bff62d98c2513adc370847aac19d1112bba13da3de8108a085b15cde4f", func := "mainsheet/mainsheetlaw06.TopoDists", spec := "topoDists", unfollowed := true, recurses := true, apart := false, narrowed := true }
def TopoDistsUptoSaid : Prop := topoDistsUptoRow.holds Try.pinned (OpenSpec.upto topoDistsSpec)

/-- 'mainsheetlaw06.TopoMakes', WHERE WHAT IT READS IS OF BULK AT MOST 1048576: true; the input reads as it did. -/
def topoMakesUptoRow : OpenClaim := { program := "ytfalkiinlkfanaa", sum := "618c59bff62d98c2513adc370847aac19d1112bba13da3de8108a085b15cde4f", func := "mainsheet/mainsheetlaw06.TopoMakes", spec := "topoMakes", unfollowed := true, recurses := true, apart := false, narrowed := true }
def TopoMakesUptoSaid : Prop := topoMakesUptoRow.holds Try.pinned (OpenSpec.upto topoMakesSpec)

/-- 'mainsheetlaw06.TopoBytes', WHERE WHAT IT READS IS OF BULK AT MOST 1048576: true; the input reads as it did. -/
def topoBytesUptoRow : OpenClaim := { program := "ytfalkiinlkfanaa", sum := "618c59bff62d98c2513adc370847aac19d1112bba13da3de8108a085b15cde4f", func := "mainsheet/mainsheetlaw06.TopoBytes", spec := "topoBytes", unfollowed := true, recurses := true, apart := false, narrowed := true }
def TopoBytesUptoSaid : Prop := topoBytesUptoRow.holds Try.pinned (OpenSpec.upto topoBytesSpec)

/-- 'mainsheetlaw06.TopoMetric', WHERE WHAT IT READS IS OF BULK AT MOST 1048576: true; the input reads as it did. -/
def topoMetricUptoRow : OpenClaim := { program := "ytfalkiinlkfanaa", sum := "618c59bff62d98c2513adc370847aac19d1112bba13da3de8108a085b15cde4f", func := "mainsheet/mainsheetlaw06.TopoMetric", spec := "topoMetric", unfollowed := true, recurses := true, apart := false, narrowed := true }
def TopoMetricUptoSaid : Prop := topoMetricUptoRow.holds Try.pinned (OpenSpec.upto topoMetricSpec)

/-- 'mainsheetlaw06.TopoParts', WHERE WHAT IT READS IS OF BULK AT MOST 1048576: true; the input reads as it did. -/
def topoPartsUptoRow : OpenClaim := { program := "ytfalkiinlkfanaa", sum := "618c59bff62d98c2513adc370847aac19d1112bba13da3de8108a085b15cde4f", func := "mainsheet/mainsheetlaw06.TopoParts", spec := "topoParts", unfollowed := true, recurses := true, apart := false, narrowed := true }
def TopoPartsUptoSaid : Prop := topoPartsUptoRow.holds Try.pinned (OpenSpec.upto topoPartsSpec)

/-- 'mainsheetlaw06.TopoBack', WHERE WHAT IT READS IS OF BULK AT MOST 1048576: true; the input reads as it did. -/
def topoBackUptoRow : OpenClaim := { program := "ytfalkiinlkfanaa", sum := "618c59bff62d98c2513adc370847aac19d1112bba13da3de8108a085b15cde4f", func := "mainsheet/mainsheetlaw06.TopoBack", spec := "topoBack", unfollowed := true, recurses := true, apart := false, narrowed := true }
def TopoBackUptoSaid : Prop := topoBackUptoRow.holds Try.pinned (OpenSpec.upto topoBackSpec)

end Rows
end Go.Proofs.Ytfalkiinlkfanaa
