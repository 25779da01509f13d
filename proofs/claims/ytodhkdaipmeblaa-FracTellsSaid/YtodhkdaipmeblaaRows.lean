/-
  No cell of these rows narrows 'for every input' (looked for: loops, veiled, ifaces, maps, wideKeys, modest, calm, conditions, laid).
  DERIVED. THE GIVEN ROWS OF THIS SEAT. 6 by the template 'for every input the law returns true; each argument reads behind the call as it read before'; 0 by the template 'total and deterministic' (their statements: YtodhkdaipmeblaaTotals.lean).
  GIVEN WITH THE SEED: the statements are not yours to turn. If you find one false, say at which input.
  Laid BY PROGRAM, IN A SANDBOX (cutbox-rows.mjs): the forced cells as the released guide's own fill.sh prints them over the translation 1d5ff29ed6cd1b4a… (all of the seat's roots in one cut). By AI agents, Wed Nov 11 2026. No macro, syntax, notation, axiom, sorry.
-/
import Derived.Test.YtodhkdaipmeblaaChecked
import GoSem.Claim
import GoSem.ClaimJoined
import GoSem.ClaimMapViews
import Derived.JoinedTies
import Derived.KernelRfl
namespace Go.Proofs.Ytodhkdaipmeblaa
/- THE CELL 'sum', in the pinned program and in every row, IS THE sha256 OF THE DUMP (.gsa) THAT YtodhkdaipmeblaaProg.lean LOADS. Nothing in Lean hashes anything: it is a label: what it is worth is what the hold of that sum in a sandbox is worth. -/
noncomputable def Try.pinned : Pinned := { name := "ytodhkdaipmeblaa", sum := "1d5ff29ed6cd1b4ad3769b4b41b20039176df8593c7f988cc9090938943fe9cd", checked := Try.checked }
namespace Rows
def none {H : Type} : Left H := { results := [], args := [] }

/-- 'mainsheetlaw05.FracTells': WHATEVER THE INPUT: true; the input reads as it did. -/
def fracTellsSpec : ChangeSpec := { name := "fracTells", fn := fun _ => fun
  | [d1, d2, d3] => { results := [.lit (.bool true)], args := [d1, d2, d3] }
  | _ => none }
def fracTellsRow : OpenClaim := { program := "ytodhkdaipmeblaa", sum := "1d5ff29ed6cd1b4ad3769b4b41b20039176df8593c7f988cc9090938943fe9cd", func := "mainsheet/mainsheetlaw05.FracTells", spec := "fracTells", inPlace := ["math/bits.Add64"], named := ["math/bits.divideError", "math/bits.overflowError"], apart := false }
def FracTellsSaid : Prop := fracTellsRow.holds Try.pinned (OpenSpec.ofChange fracTellsSpec)

/-- ITS FALSE NEIGHBOUR: 'it returns false'. Refute it at one input. -/
def fracTellsWrong : ChangeSpec := { name := "fracTells", fn := fun _ => fun
  | [d1, d2, d3] => { results := [.lit (.bool false)], args := [d1, d2, d3] }
  | _ => none }
def FracTellsWrongFalsely : Prop := fracTellsRow.holds Try.pinned (OpenSpec.ofChange fracTellsWrong)

/-- 'mainsheetlaw05.FracMoves': WHATEVER THE INPUT: true; the input reads as it did. -/
def fracMovesSpec : ChangeSpec := { name := "fracMoves", fn := fun _ => fun
  | [d1, d2, d3] => { results := [.lit (.bool true)], args := [d1, d2, d3] }
  | _ => none }
def fracMovesRow : OpenClaim := { program := "ytodhkdaipmeblaa", sum := "1d5ff29ed6cd1b4ad3769b4b41b20039176df8593c7f988cc9090938943fe9cd", func := "mainsheet/mainsheetlaw05.FracMoves", spec := "fracMoves", inPlace := ["math/bits.Add64", "math/bits.Sub64"], named := ["math/bits.divideError", "math/bits.overflowError"], apart := false }
def FracMovesSaid : Prop := fracMovesRow.holds Try.pinned (OpenSpec.ofChange fracMovesSpec)

/-- ITS FALSE NEIGHBOUR: 'it returns false'. Refute it at one input. -/
def fracMovesWrong : ChangeSpec := { name := "fracMoves", fn := fun _ => fun
  | [d1, d2, d3] => { results := [.lit (.bool false)], args := [d1, d2, d3] }
  | _ => none }
def FracMovesWrongFalsely : Prop := fracMovesRow.holds Try.pinned (OpenSpec.ofChange fracMovesWrong)

/-- 'mainsheetlaw05.FracEnds': WHATEVER THE INPUT: true; the input reads as it did. -/
def fracEndsSpec : ChangeSpec := { name := "fracEnds", fn := fun _ => fun
  | [d] => { results := [.lit (.bool true)], args := [d] }
  | _ => none }
def fracEndsRow : OpenClaim := { program := "ytodhkdaipmeblaa", sum := "1d5ff29ed6cd1b4ad3769b4b41b20039176df8593c7f988cc9090938943fe9cd", func := "mainsheet/mainsheetlaw05.FracEnds", spec := "fracEnds", inPlace := ["math/bits.Add64"], unfollowed := true, recurses := true, named := ["math/bits.divideError", "math/bits.overflowError"], apart := false }
def FracEndsSaid : Prop := fracEndsRow.holds Try.pinned (OpenSpec.ofChange fracEndsSpec)

/-- ITS FALSE NEIGHBOUR: 'it returns false'. Refute it at one input. -/
def fracEndsWrong : ChangeSpec := { name := "fracEnds", fn := fun _ => fun
  | [d] => { results := [.lit (.bool false)], args := [d] }
  | _ => none }
def FracEndsWrongFalsely : Prop := fracEndsRow.holds Try.pinned (OpenSpec.ofChange fracEndsWrong)

/-- 'mainsheetlaw05.FracOrder': WHATEVER THE INPUT: true; the input reads as it did. -/
def fracOrderSpec : ChangeSpec := { name := "fracOrder", fn := fun _ => fun
  | [d1, d2, d3] => { results := [.lit (.bool true)], args := [d1, d2, d3] }
  | _ => none }
def fracOrderRow : OpenClaim := { program := "ytodhkdaipmeblaa", sum := "1d5ff29ed6cd1b4ad3769b4b41b20039176df8593c7f988cc9090938943fe9cd", func := "mainsheet/mainsheetlaw05.FracOrder", spec := "fracOrder", inPlace := ["math/bits.Add64", "math/bits.Sub64"], named := ["math/bits.divideError", "math/bits.overflowError"], apart := false }
def FracOrderSaid : Prop := fracOrderRow.holds Try.pinned (OpenSpec.ofChange fracOrderSpec)

/-- ITS FALSE NEIGHBOUR: 'it returns false'. Refute it at one input. -/
def fracOrderWrong : ChangeSpec := { name := "fracOrder", fn := fun _ => fun
  | [d1, d2, d3] => { results := [.lit (.bool false)], args := [d1, d2, d3] }
  | _ => none }
def FracOrderWrongFalsely : Prop := fracOrderRow.holds Try.pinned (OpenSpec.ofChange fracOrderWrong)

/-- 'mainsheetlaw05.FracOver': WHATEVER THE INPUT: true; the input reads as it did. -/
def fracOverSpec : ChangeSpec := { name := "fracOver", fn := fun _ => fun
  | [d1, d2] => { results := [.lit (.bool true)], args := [d1, d2] }
  | _ => none }
def fracOverRow : OpenClaim := { program := "ytodhkdaipmeblaa", sum := "1d5ff29ed6cd1b4ad3769b4b41b20039176df8593c7f988cc9090938943fe9cd", func := "mainsheet/mainsheetlaw05.FracOver", spec := "fracOver", inPlace := ["math/bits.Add64", "math/bits.Sub64"], named := ["math/bits.divideError", "math/bits.overflowError"], apart := false }
def FracOverSaid : Prop := fracOverRow.holds Try.pinned (OpenSpec.ofChange fracOverSpec)

/-- ITS FALSE NEIGHBOUR: 'it returns false'. Refute it at one input. -/
def fracOverWrong : ChangeSpec := { name := "fracOver", fn := fun _ => fun
  | [d1, d2] => { results := [.lit (.bool false)], args := [d1, d2] }
  | _ => none }
def FracOverWrongFalsely : Prop := fracOverRow.holds Try.pinned (OpenSpec.ofChange fracOverWrong)

/-- 'mainsheetlaw05.FracClips': WHATEVER THE INPUT: true; the input reads as it did. -/
def fracClipsSpec : ChangeSpec := { name := "fracClips", fn := fun _ => fun
  | [d1, d2, d3] => { results := [.lit (.bool true)], args := [d1, d2, d3] }
  | _ => none }
def fracClipsRow : OpenClaim := { program := "ytodhkdaipmeblaa", sum := "1d5ff29ed6cd1b4ad3769b4b41b20039176df8593c7f988cc9090938943fe9cd", func := "mainsheet/mainsheetlaw05.FracClips", spec := "fracClips", inPlace := ["math/bits.Add64", "math/bits.Sub64"], named := ["math/bits.divideError", "math/bits.overflowError"], apart := false }
def FracClipsSaid : Prop := fracClipsRow.holds Try.pinned (OpenSpec.ofChange fracClipsSpec)

/-- ITS FALSE NEIGHBOUR: 'it returns false'. Refute it at one input. -/
def fracClipsWrong : ChangeSpec := { name := "fracClips", fn := fun _ => fun
  | [d1, d2, d3] => { results := [.lit (.bool false)], args := [d1, d2, d3] }
  | _ => none }
def FracClipsWrongFalsely : Prop := fracClipsRow.holds Try.pinned (OpenSpec.ofChange fracClipsWrong)

/- THE SECOND FORM. 'bulk': how many values and letters a reading holds, each counted each time it is reached (what is shared counts as often as it is met; a slice's spare places count too). A statement '..UptoSaid' is the law's where the arguments, and the package variables that the reading takes, are together of bulk at most 1048576: NARROWER than '..Said'. Prove '..Said' where nothing that the law and all that it calls make is longer than what came in: it says more and counts as full. Else prove '..UptoSaid'. A law counts once. -/
mutual
def uptoBulk {H : Type} : DataW H → Nat
  | .lit (.string bytes) => bytes.length + 1
  | .lit _ => 1
  | .nil => 1
  | .ptr d => uptoBulk d + 1
  | .slice elems spare => uptoBulkAll elems + uptoBulkAll spare + 1
  | .agg parts => uptoBulkAll parts + 1
  | .iface _ d => uptoBulk d + 1
  | .map entries => uptoBulkEntries entries + 1
  | .held _ => 1
def uptoBulkAll {H : Type} : List (DataW H) → Nat
  | [] => 0
  | d :: r => uptoBulk d + uptoBulkAll r
def uptoBulkEntries {H : Type} : List (Lit × DataW H) → Nat
  | [] => 0
  | x :: r => uptoBulkEntry x + uptoBulkEntries r
def uptoBulkEntry {H : Type} : Lit × DataW H → Nat
  | (.string bytes, d) => bytes.length + uptoBulk d + 1
  | (_, d) => uptoBulk d + 1
 end
def uptoSmall : (H : Type) → List (DataW H) → Bool := fun _ ds => decide (uptoBulkAll ds ≤ 1048576)
def OpenSpec.upto (s : _root_.Go.ChangeSpec) : _root_.Go.OpenSpec := { _root_.Go.OpenSpec.ofChange s with cond := some uptoSmall }

/-- 'mainsheetlaw05.FracTells', WHERE WHAT IT READS IS OF BULK AT MOST 1048576: true; the input reads as it did. -/
def fracTellsUptoRow : OpenClaim := { program := "ytodhkdaipmeblaa", sum := "1d5ff29ed6cd1b4ad3769b4b41b20039176df8593c7f988cc9090938943fe9cd", func := "mainsheet/mainsheetlaw05.FracTells", spec := "fracTells", inPlace := ["math/bits.Add64"], named := ["math/bits.divideError", "math/bits.overflowError"], apart := false, narrowed := true }
def FracTellsUptoSaid : Prop := fracTellsUptoRow.holds Try.pinned (OpenSpec.upto fracTellsSpec)

/-- 'mainsheetlaw05.FracMoves', WHERE WHAT IT READS IS OF BULK AT MOST 1048576: true; the input reads as it did. -/
def fracMovesUptoRow : OpenClaim := { program := "ytodhkdaipmeblaa", sum := "1d5ff29ed6cd1b4ad3769b4b41b20039176df8593c7f988cc9090938943fe9cd", func := "mainsheet/mainsheetlaw05.FracMoves", spec := "fracMoves", inPlace := ["math/bits.Add64", "math/bits.Sub64"], named := ["math/bits.divideError", "math/bits.overflowError"], apart := false, narrowed := true }
def FracMovesUptoSaid : Prop := fracMovesUptoRow.holds Try.pinned (OpenSpec.upto fracMovesSpec)

/-- 'mainsheetlaw05.FracEnds', WHERE WHAT IT READS IS OF BULK AT MOST 1048576: true; the input reads as it did. -/
def fracEndsUptoRow : OpenClaim := { program := "ytodhkdaipmeblaa", sum := "1d5ff29ed6cd1b4ad3769b4b41b20039176df8593c7f988cc9090938943fe9cd", func := "mainsheet/mainsheetlaw05.FracEnds", spec := "fracEnds", inPlace := ["math/bits.Add64"], unfollowed := true, recurses := true, named := ["math/bits.divideError", "math/bits.overflowError"], apart := false, narrowed := true }
def FracEndsUptoSaid : Prop := fracEndsUptoRow.holds Try.pinned (OpenSpec.upto fracEndsSpec)

/-- 'mainsheetlaw05.FracOrder', WHERE WHAT IT READS IS OF BULK AT MOST 1048576: true; the input reads as it did. -/
def fracOrderUptoRow : OpenClaim := { program := "ytodhkdaipmeblaa", sum := "1d5ff29ed6cd1b4ad3769b4b41b20039176df8593c7f988cc9090938943fe9cd", func := "mainsheet/mainsheetlaw05.FracOrder", spec := "fracOrder", inPlace := ["math/bits.Add64", "math/bits.Sub64"], named := ["math/bits.divideError", "math/bits.overflowError"], apart := false, narrowed := true }
def FracOrderUptoSaid : Prop := fracOrderUptoRow.holds Try.pinned (OpenSpec.upto fracOrderSpec)

/-- 'mainsheetlaw05.FracOver', WHERE WHAT IT READS IS OF BULK AT MOST 1048576: true; the input reads as it did. -/
def fracOverUptoRow : OpenClaim := { program := "ytodhkdaipmeblaa", sum := "1d5ff29ed6cd1b4ad3769b4b41b20039176df8593c7f988cc9090938943fe9cd", func := "mainsheet/mainsheetlaw05.FracOver", spec := "fracOver", inPlace := ["math/bits.Add64", "math/bits.Sub64"], named := ["math/bits.divideError", "math/bits.overflowError"], apart := false, narrowed := true }
def FracOverUptoSaid : Prop := fracOverUptoRow.holds Try.pinned (OpenSpec.upto fracOverSpec)

/-- 'mainsheetlaw05.FracClips', WHERE WHAT IT READS IS OF BULK AT MOST 1048576: true; the input reads as it did. -/
def fracClipsUptoRow : OpenClaim := { program := "ytodhkdaipmeblaa", sum := "1d5ff29ed6cd1b4ad3769b4b41b20039176df8593c7f988cc9090938943fe9cd", func := "mainsheet/mainsheetlaw05.FracClips", spec := "fracClips", inPlace := ["math/bits.Add64", "math/bits.Sub64"], named := ["math/bits.divideError", "math/bits.overflowError"], apart := false, narrowed := true }
def FracClipsUptoSaid : Prop := fracClipsUptoRow.holds Try.pinned (OpenSpec.upto fracClipsSpec)

end Rows
end Go.Proofs.Ytodhkdaipmeblaa
