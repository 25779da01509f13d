/-
  The contract of the document's Split, of pools that may be. No statement is proved here.
-/
import Derived.Test.YtnckfgnhlnichaaDoorVd
import Derived.Deep.CutBlock
import Derived.Deep.RegionHeld3
namespace Go.Proofs.YtnckfgnhlnichaaDoor
open Go.RowKit

theorem results_pools3 {P : Program} {fn : Func} {p q r : Tmp} {ty : TypeId} (h : fn.results = #[.cell p ty, .tmp q, .tmp r]) (tmps : Array Value) (w : World) (g : Nat) (t : TypeId) (cs : Array Value) (d : TypeDesc)
    (hp : tmps.getD p undef = .pointer (some ⟨g, 0, none⟩)) (hg : w.heap[g]? = some (.cells cs t (0, 0)))
    (hu : P.underlying ty = some d) (hd : (match d with | .struct _ | .array _ _ => true | _ => false) = true) (hi : (P.info? ty).map (·.size) = some cs.size) :
    (results fn tmps).run P w = .ok (.tuple #[.agg cs, tmps.getD q undef, tmps.getD r undef]) w := by
  have hp' : tmps[p]?.getD undef = .pointer (some ⟨g, 0, none⟩) := by simpa using hp
  simp [results, h, hp', asAddr, run_loadVar_row w g t ty cs (0, 0) d hg hu hd hi]
theorem results_pools2 {P : Program} {fn : Func} {p q : Tmp} {ty : TypeId} (h : fn.results = #[.cell p ty, .tmp q]) (tmps : Array Value) (w : World) (g : Nat) (t : TypeId) (cs : Array Value) (d : TypeDesc)
    (hp : tmps.getD p undef = .pointer (some ⟨g, 0, none⟩)) (hg : w.heap[g]? = some (.cells cs t (0, 0)))
    (hu : P.underlying ty = some d) (hd : (match d with | .struct _ | .array _ _ => true | _ => false) = true) (hi : (P.info? ty).map (·.size) = some cs.size) :
    (results fn tmps).run P w = .ok (.tuple #[.agg cs, tmps.getD q undef]) w := by
  have hp' : tmps[p]?.getD undef = .pointer (some ⟨g, 0, none⟩) := by simpa using hp
  simp [results, h, hp', asAddr, run_loadVar_row w g t ty cs (0, 0) d hg hu hd hi]
/-- a call answers pools in memory of their own, a number and an error -/
def GivesP3 (r : List Nat × Int × Int) (w : World) (e : Ending) (w' : World) : Prop :=
  ∃ A c, e = .returned (.tuple #[.agg #[.slice A r.1.length c], .int .i64 r.2.1, .int .i64 r.2.2]) ∧ w'.ownsRow w.heap.size 32 1 (.slice A r.1.length c) r.1.length (us r.1) ∧ Below w.heap.size w w'
theorem GivesP3.none_ {w w' : World} {n c : Int} (hb : Below w.heap.size w w') : GivesP3 ([], n, c) w (.returned (.tuple #[.agg #[.slice none 0 0], .int .i64 n, .int .i64 c])) w' :=
  ⟨none, 0, rfl, World.ownsRow_nil _ _ _ _, hb⟩
def GivesP2 (r : List Nat × Int) (w : World) (e : Ending) (w' : World) : Prop :=
  ∃ A c, e = .returned (.tuple #[.agg #[.slice A r.1.length c], .int .i64 r.2]) ∧ w'.ownsRow w.heap.size 32 1 (.slice A r.1.length c) r.1.length (us r.1) ∧ Below w.heap.size w w'
theorem GivesP2.none_ {w w' : World} {c : Int} (hb : Below w.heap.size w w') : GivesP2 ([], c) w (.returned (.tuple #[.agg #[.slice none 0 0], .int .i64 c])) w' :=
  ⟨none, 0, rfl, World.ownsRow_nil _ _ _ _, hb⟩
theorem reads_u1 (w : World) (t : TypeId) (x : Nat) : Reads (w.alloc (.cells #[.int .u32 (x : Int)] t)) (w.alloc (.cells #[.int .u32 (x : Int)] t)).heap.size 1 (some ⟨w.heap.size, 0, none⟩) 1 (us [x]) := by
  refine ⟨rfl, fun _ => ⟨_, rfl, by simp, fun j u hu => ?_⟩⟩
  have hb := Blk.new w t #[.int .u32 (x : Int)]
  match j, hu with
  | 0, hu => simp [us] at hu; subst hu; exact hb.cell 0
  | j + 1, hu => simp [us] at hu

theorem reads_u1' (w : World) (t : TypeId) (x : Nat) {g : Nat} (hg : g = w.heap.size) : Reads (w.alloc (.cells #[.int .u32 (x : Int)] t)) (w.alloc (.cells #[.int .u32 (x : Int)] t)).heap.size 1 (some ⟨g, 0, none⟩) 1 (us [x]) := by
  subst hg
  exact reads_u1 w t x


end Go.Proofs.YtnckfgnhlnichaaDoor
