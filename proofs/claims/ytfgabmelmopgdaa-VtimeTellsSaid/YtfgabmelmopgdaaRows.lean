/-
  No cell of these rows narrows 'for every input' (looked for: loops, veiled, ifaces, maps, wideKeys, modest, calm, conditions, laid).
  DERIVED. THE GIVEN ROWS OF THIS SEAT. 6 by the template 'for every input the law returns true; each argument reads behind the call as it read before'; 0 by the template 'total and deterministic' (their statements: YtfgabmelmopgdaaTotals.lean).
  GIVEN WITH THE SEED: the statements are not yours to turn. If you find one false, say at which input.
  Laid BY PROGRAM, IN A SANDBOX (cutbox-rows.mjs): the forced cells as the released guide's own fill.sh prints them over the translation 3ea0b443d37fd34e… (all of the seat's roots in one cut). By AI agents, Wed Nov 11 2026. No macro, syntax, notation, axiom, sorry.
-/
import Derived.Test.YtfgabmelmopgdaaChecked
import GoSem.Claim
import GoSem.ClaimJoined
import GoSem.ClaimMapViews
import Derived.JoinedTies
import Derived.KernelRfl
namespace Go.Proofs.Ytfgabmelmopgdaa
/- THE CELL 'sum', in the pinned program and in every row, IS THE sha256 OF THE DUMP (.gsa) THAT YtfgabmelmopgdaaProg.lean LOADS. Nothing in Lean hashes anything: it is a label: what it is worth is what the hold of that sum in a sandbox is worth. -/
noncomputable def Try.pinned : Pinned := { name := "ytfgabmelmopgdaa", sum := "3ea0b443d37fd34e1c74611b49809b2dbd81623f2f0c9473c0314ec00ac398ba", checked := Try.checked }
namespace Rows
def none {H : Type} : Left H := { results := [], args := [] }

/-- 'mainsheetlaw10.VtimeTells': WHATEVER THE INPUT: true; the input reads as it did. -/
def vtimeTellsSpec : ChangeSpec := { name := "vtimeTells", fn := fun _ => fun
  | [d1, d2] => { results := [.lit (.bool true)], args := [d1, d2] }
  | _ => none }
def vtimeTellsRow : OpenClaim := { program := "ytfgabmelmopgdaa", sum := "3ea0b443d37fd34e1c74611b49809b2dbd81623f2f0c9473c0314ec00ac398ba", func := "mainsheet/mainsheetlaw10.VtimeTells", spec := "vtimeTells", inPlace := ["math/bits.Sub64", "math/bits.Add64", "slices.overlaps[mainsheet/api.Runner]"], unfollowed := true, recurses := true, named := ["math/bits.divideError", "math/bits.overflowError"], apart := false }
def VtimeTellsSaid : Prop := vtimeTellsRow.holds Try.pinned (OpenSpec.ofChange vtimeTellsSpec)

/-- ITS FALSE NEIGHBOUR: 'it returns false'. Refute it at one input. -/
def vtimeTellsWrong : ChangeSpec := { name := "vtimeTells", fn := fun _ => fun
  | [d1, d2] => { results := [.lit (.bool false)], args := [d1, d2] }
  | _ => none }
def VtimeTellsWrongFalsely : Prop := vtimeTellsRow.holds Try.pinned (OpenSpec.ofChange vtimeTellsWrong)

/-- 'mainsheetlaw10.VtimeNear': WHATEVER THE INPUT: true; the input reads as it did. -/
def vtimeNearSpec : ChangeSpec := { name := "vtimeNear", fn := fun _ => fun
  | [d1, d2, d3] => { results := [.lit (.bool true)], args := [d1, d2, d3] }
  | _ => none }
def vtimeNearRow : OpenClaim := { program := "ytfgabmelmopgdaa", sum := "3ea0b443d37fd34e1c74611b49809b2dbd81623f2f0c9473c0314ec00ac398ba", func := "mainsheet/mainsheetlaw10.VtimeNear", spec := "vtimeNear", inPlace := ["math/bits.Sub64", "math/bits.Add64", "slices.overlaps[mainsheet/api.Runner]"], unfollowed := true, recurses := true, named := ["math/bits.divideError", "math/bits.overflowError"], apart := false }
def VtimeNearSaid : Prop := vtimeNearRow.holds Try.pinned (OpenSpec.ofChange vtimeNearSpec)

/-- ITS FALSE NEIGHBOUR: 'it returns false'. Refute it at one input. -/
def vtimeNearWrong : ChangeSpec := { name := "vtimeNear", fn := fun _ => fun
  | [d1, d2, d3] => { results := [.lit (.bool false)], args := [d1, d2, d3] }
  | _ => none }
def VtimeNearWrongFalsely : Prop := vtimeNearRow.holds Try.pinned (OpenSpec.ofChange vtimeNearWrong)

/-- 'mainsheetlaw10.VtimeGains': WHATEVER THE INPUT: true; the input reads as it did. -/
def vtimeGainsSpec : ChangeSpec := { name := "vtimeGains", fn := fun _ => fun
  | [d1, d2] => { results := [.lit (.bool true)], args := [d1, d2] }
  | _ => none }
def vtimeGainsRow : OpenClaim := { program := "ytfgabmelmopgdaa", sum := "3ea0b443d37fd34e1c74611b49809b2dbd81623f2f0c9473c0314ec00ac398ba", func := "mainsheet/mainsheetlaw10.VtimeGains", spec := "vtimeGains", inPlace := ["math/bits.Sub64", "math/bits.Add64", "slices.overlaps[mainsheet/api.Runner]"], unfollowed := true, recurses := true, named := ["math/bits.divideError", "math/bits.overflowError"], apart := false }
def VtimeGainsSaid : Prop := vtimeGainsRow.holds Try.pinned (OpenSpec.ofChange vtimeGainsSpec)

/-- ITS FALSE NEIGHBOUR: 'it returns false'. Refute it at one input. -/
def vtimeGainsWrong : ChangeSpec := { name := "vtimeGains", fn := fun _ => fun
  | [d1, d2] => { results := [.lit (.bool false)], args := [d1, d2] }
  | _ => none }
def VtimeGainsWrongFalsely : Prop := vtimeGainsRow.holds Try.pinned (OpenSpec.ofChange vtimeGainsWrong)

/-- 'mainsheetlaw10.VtimeClips': WHATEVER THE INPUT: true; the input reads as it did. -/
def vtimeClipsSpec : ChangeSpec := { name := "vtimeClips", fn := fun _ => fun
  | [d] => { results := [.lit (.bool true)], args := [d] }
  | _ => none }
def vtimeClipsRow : OpenClaim := { program := "ytfgabmelmopgdaa", sum := "3ea0b443d37fd34e1c74611b49809b2dbd81623f2f0c9473c0314ec00ac398ba", func := "mainsheet/mainsheetlaw10.VtimeClips", spec := "vtimeClips", inPlace := ["math/bits.Sub64", "math/bits.Add64", "slices.overlaps[mainsheet/api.Runner]"], unfollowed := true, recurses := true, named := ["math/bits.divideError", "math/bits.overflowError"], apart := false }
def VtimeClipsSaid : Prop := vtimeClipsRow.holds Try.pinned (OpenSpec.ofChange vtimeClipsSpec)

/-- ITS FALSE NEIGHBOUR: 'it returns false'. Refute it at one input. -/
def vtimeClipsWrong : ChangeSpec := { name := "vtimeClips", fn := fun _ => fun
  | [d] => { results := [.lit (.bool false)], args := [d] }
  | _ => none }
def VtimeClipsWrongFalsely : Prop := vtimeClipsRow.holds Try.pinned (OpenSpec.ofChange vtimeClipsWrong)

/-- 'mainsheetlaw10.VtimeRuns': WHATEVER THE INPUT: true; the input reads as it did. -/
def vtimeRunsSpec : ChangeSpec := { name := "vtimeRuns", fn := fun _ => fun
  | [d1, d2, d3] => { results := [.lit (.bool true)], args := [d1, d2, d3] }
  | _ => none }
def vtimeRunsRow : OpenClaim := { program := "ytfgabmelmopgdaa", sum := "3ea0b443d37fd34e1c74611b49809b2dbd81623f2f0c9473c0314ec00ac398ba", func := "mainsheet/mainsheetlaw10.VtimeRuns", spec := "vtimeRuns", inPlace := ["math/bits.Sub64", "math/bits.Add64", "slices.overlaps[mainsheet/api.Runner]"], unfollowed := true, recurses := true, named := ["math/bits.divideError", "math/bits.overflowError"], apart := false }
def VtimeRunsSaid : Prop := vtimeRunsRow.holds Try.pinned (OpenSpec.ofChange vtimeRunsSpec)

/-- ITS FALSE NEIGHBOUR: 'it returns false'. Refute it at one input. -/
def vtimeRunsWrong : ChangeSpec := { name := "vtimeRuns", fn := fun _ => fun
  | [d1, d2, d3] => { results := [.lit (.bool false)], args := [d1, d2, d3] }
  | _ => none }
def VtimeRunsWrongFalsely : Prop := vtimeRunsRow.holds Try.pinned (OpenSpec.ofChange vtimeRunsWrong)

/-- 'mainsheetlaw10.VtimeWeighs': WHATEVER THE INPUT: true; the input reads as it did. -/
def vtimeWeighsSpec : ChangeSpec := { name := "vtimeWeighs", fn := fun _ => fun
  | [d1, d2, d3] => { results := [.lit (.bool true)], args := [d1, d2, d3] }
  | _ => none }
def vtimeWeighsRow : OpenClaim := { program := "ytfgabmelmopgdaa", sum := "3ea0b443d37fd34e1c74611b49809b2dbd81623f2f0c9473c0314ec00ac398ba", func := "mainsheet/mainsheetlaw10.VtimeWeighs", spec := "vtimeWeighs", inPlace := ["math/bits.Sub64", "math/bits.Add64", "slices.overlaps[mainsheet/api.Runner]"], unfollowed := true, recurses := true, named := ["math/bits.divideError", "math/bits.overflowError"], apart := false }
def VtimeWeighsSaid : Prop := vtimeWeighsRow.holds Try.pinned (OpenSpec.ofChange vtimeWeighsSpec)

/-- ITS FALSE NEIGHBOUR: 'it returns false'. Refute it at one input. -/
def vtimeWeighsWrong : ChangeSpec := { name := "vtimeWeighs", fn := fun _ => fun
  | [d1, d2, d3] => { results := [.lit (.bool false)], args := [d1, d2, d3] }
  | _ => none }
def VtimeWeighsWrongFalsely : Prop := vtimeWeighsRow.holds Try.pinned (OpenSpec.ofChange vtimeWeighsWrong)

/- THE SECOND FORM. 'bulk': how many values and letters a reading holds, each counted each time it is reached (what is shared counts as often as it is met; a slice's spare places count too). A statement '..UptoSaid' is the law's where the arguments, and the package variables that the reading takes, are together of bulk at most 1048576: NARROWER than '..Said'. Prove '..Said' where nothing that the law and all that it calls make is longer than what came in: it says more and counts as full. Else prove '..UptoSaid'. A law counts once. -/
mutual
def uptoBulk {H : Type} : DataW H → Nat
  | .lit (.string bytes) => bytes.length + 1
  | .lit _ => 1
  | .nil => 1
  | .ptr d => uptoBulk d + 1
  | .slice elems spare => uptoBulkAll elems + uptoBulkAll spare + 1
  | .agg parts => uptoBulkAll parts + 1
  | .iface _ d => uptoBulk d + 1
  | .map entries => uptoBulkEntries entries + 1
  | .held _ => 1
def uptoBulkAll {H : Type} : List (DataW H) → Nat
  | [] => 0
  | d :: r => uptoBulk d + uptoBulkAll r
def uptoBulkEntries {H : Type} : List (Lit × DataW H) → Nat
  | [] => 0
  | x :: r => uptoBulkEntry x + uptoBulkEntries r
def uptoBulkEntry {H : Type} : Lit × DataW H → Nat
  | (.string bytes, d) => bytes.length + uptoBulk d + 1
  | (_, d) => uptoBulk d + 1
 end
def uptoSmall : (H : Type) → List (DataW H) → Bool := fun _ ds => decide (uptoBulkAll ds ≤ 1048576)
def OpenSpec.upto (s : _root_.Go.ChangeSpec) : _root_.Go.OpenSpec := { _root_.Go.OpenSpec.ofChange s with cond := some uptoSmall }

/-- 'mainsheetlaw10.VtimeTells', WHERE WHAT IT READS IS OF BULK AT MOST 1048576: true; the input reads as it did. -/
def vtimeTellsUptoRow : OpenClaim := { program := "ytfgabmelmopgdaa", sum := "3ea0b443d37fd34e1c74611b49809b2dbd81623f2f0c9473c0314ec00ac398ba", func := "mainsheet/mainsheetlaw10.VtimeTells", spec := "vtimeTells", inPlace := ["math/bits.Sub64", "math/bits.Add64", "slices.overlaps[mainsheet/api.Runner]"], unfollowed := true, recurses := true, named := ["math/bits.divideError", "math/bits.overflowError"], apart := false, narrowed := true }
def VtimeTellsUptoSaid : Prop := vtimeTellsUptoRow.holds Try.pinned (OpenSpec.upto vtimeTellsSpec)

/-- 'mainsheetlaw10.VtimeNear', WHERE WHAT IT READS IS OF BULK AT MOST 1048576: true; the input reads as it did. -/
def vtimeNearUptoRow : OpenClaim := { program := "ytfgabmelmopgdaa", sum := "3ea0b443d37fd34e1c74611b49809b2dbd81623f2f0c9473c0314ec00ac398ba", func := "mainsheet/mainsheetlaw10.VtimeNear", spec := "vtimeNear", inPlace := ["math/bits.Sub64", "math/bits.Add64", "slices.overlaps[mainsheet/api.Runner]"], unfollowed := true, recurses := true, named := ["math/bits.divideError", "math/bits.overflowError"], apart := false, narrowed := true }
def VtimeNearUptoSaid : Prop := vtimeNearUptoRow.holds Try.pinned (OpenSpec.upto vtimeNearSpec)

/-- 'mainsheetlaw10.VtimeGains', WHERE WHAT IT READS IS OF BULK AT MOST 1048576: true; the input reads as it did. -/
def vtimeGainsUptoRow : OpenClaim := { program := "ytfgabmelmopgdaa", sum := "3ea0b443d37fd34e1c74611b49809b2dbd81623f2f0c9473c0314ec00ac398ba", func := "mainsheet/mainsheetlaw10.VtimeGains", spec := "vtimeGains", inPlace := ["math/bits.Sub64", "math/bits.Add64", "slices.overlaps[mainsheet/api.Runner]"], unfollowed := true, recurses := true, named := ["math/bits.divideError", "math/bits.overflowError"], apart := false, narrowed := true }
def VtimeGainsUptoSaid : Prop := vtimeGainsUptoRow.holds Try.pinned (OpenSpec.upto vtimeGainsSpec)

/-- 'mainsheetlaw10.VtimeClips', WHERE WHAT IT READS IS OF BULK AT MOST 1048576: true; the input reads as it did. -/
def vtimeClipsUptoRow : OpenClaim := { program := "ytfgabmelmopgdaa", sum := "3ea0b443d37fd34e1c74611b49809b2dbd81623f2f0c9473c0314ec00ac398ba", func := "mainsheet/mainsheetlaw10.VtimeClips", spec := "vtimeClips", inPlace := ["math/bits.Sub64", "math/bits.Add64", "slices.overlaps[mainsheet/api.Runner]"], unfollowed := true, recurses := true, named := ["math/bits.divideError", "math/bits.overflowError"], apart := false, narrowed := true }
def VtimeClipsUptoSaid : Prop := vtimeClipsUptoRow.holds Try.pinned (OpenSpec.upto vtimeClipsSpec)

/-- 'mainsheetlaw10.VtimeRuns', WHERE WHAT IT READS IS OF BULK AT MOST 1048576: true; the input reads as it did. -/
def vtimeRunsUptoRow : OpenClaim := { program := "ytfgabmelmopgdaa", sum := "3ea0b443d37fd34e1c74611b49809b2dbd81623f2f0c9473c0314ec00ac398ba", func := "mainsheet/mainsheetlaw10.VtimeRuns", spec := "vtimeRuns", inPlace := ["math/bits.Sub64", "math/bits.Add64", "slices.overlaps[mainsheet/api.Runner]"], unfollowed := true, recurses := true, named := ["math/bits.divideError", "math/bits.overflowError"], apart := false, narrowed := true }
def VtimeRunsUptoSaid : Prop := vtimeRunsUptoRow.holds Try.pinned (OpenSpec.upto vtimeRunsSpec)

/-- 'mainsheetlaw10.VtimeWeighs', WHERE WHAT IT READS IS OF BULK AT MOST 1048576: true; the input reads as it did. -/
def vtimeWeighsUptoRow : OpenClaim := { program := "ytfgabmelmopgdaa", sum := "3ea0b443d37fd34e1c74611b49809b2dbd81623f2f0c9473c0314ec00ac398ba", func := "mainsheet/mainsheetlaw10.VtimeWeighs", spec := "vtimeWeighs", inPlace := ["math/bits.Sub64", "math/bits.Add64", "slices.overlaps[mainsheet/api.Runner]"], unfollowed := true, recurses := true, named := ["math/bits.divideError", "math/bits.overflowError"], apart := false, narrowed := true }
def VtimeWeighsUptoSaid : Prop := vtimeWeighsUptoRow.holds Try.pinned (OpenSpec.upto vtimeWeighsSpec)

end Rows
end Go.Proofs.Ytfgabmelmopgdaa
