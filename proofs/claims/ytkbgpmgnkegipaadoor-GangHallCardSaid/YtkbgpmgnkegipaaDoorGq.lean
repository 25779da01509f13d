/-
  The statements' few. No statement is proved here.
-/
import Derived.Test.YtkbgpmgnkegipaaDoorGp
namespace Go.Proofs.YtkbgpmgnkegipaaDoor
open Go.RowKit Go.Maps

theorem reads_new (w : World) (t : TypeId) (cs : Array Value) {k : Nat} (hk : cs.size = k) {g : Nat} (hg : g = w.heap.size) : Reads (w.alloc (.cells cs t)) (w.alloc (.cells cs t)).heap.size k (some ⟨g, 0, none⟩) 1 cs.toList := by
  subst hg
  refine reads_blk (Blk.new _ _ _) rfl ?_
  rw [Array.length_toList, hk, Nat.one_mul]
theorem gv_ones (gs : List Gg) : ∀ u ∈ flat gv gs, u.oneCell' = true := flat_all gv (fun a u hu => by simp [gv] at hu; rw [hu]; rfl) gs
def fewL (gs : List Gg) : List (List Int) := (gs.map fun g => g.2.2.2.take 9).take 9
/-- no two rows share memory -/
def Apart (G : List Gg) : Prop := G.Pairwise fun x y => ∀ p q, (slG x).ownBlock = some p → (slG y).ownBlock = some q → p ≠ q
def FewSaid (gs : List Gg) (w : World) (e : Ending) (w' : World) : Prop := ∃ A n c G, e = .returned (.slice A n c) ∧ GO w' w.heap.size A n c G ∧ gsI G = fewL gs ∧ (∀ g ∈ G, g.2.1 ≤ 9) ∧ n ≤ 9 ∧ Below w.heap.size w w' ∧ Apart G


end Go.Proofs.YtkbgpmgnkegipaaDoor
