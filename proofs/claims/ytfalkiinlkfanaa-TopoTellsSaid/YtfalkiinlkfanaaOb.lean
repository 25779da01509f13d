/-
  Rows of topologies and rows of rows of bytes that come in, opened. No statement is proved here.
-/
import Derived.Test.YtfalkiinlkfanaaOa
import Derived.Test.YtfalkiinlkfanaaTn
namespace Go.Proofs.Ytfalkiinlkfanaa
open Go.Joins Go.ChangeShapes Go.WideShapes Go.ChangeAt Go.RowKit Go.Deep

section
variable {H : Type} {enc : TypeId × Value → H} {W : World}
set_option maxRecDepth 100000 in
theorem open_topos {A : Option Addr} {n c : Nat} {d : DataW H} {ps : List MemPlace} (h : DataW.Trod enc Try.prog W 0 (fun _ => true) true 22 (.slice A n c) d ps) :
    ∃ l : List InnerT, (∀ (k : Nat) (x : InnerT), l[k]? = some x → x.ok W) ∧ Reads W W.heap.size 1 A n (l.map InnerT.val) ∧ n ≤ maxLen := by
  obtain ⟨l, _, h2, h3, _, h4⟩ := open_many (fun r : InnerT => [r.val]) 1 (fun _ => rfl) (by omega) (fun r => r.ok W) Try.underlying22 cells_topo (fun _ h => by
    obtain ⟨A, n, c, l, e, h1, h2⟩ := topo_cells h
    exact ⟨⟨A, n, c, l⟩, e, h1, h2⟩) h
  rw [flat_map] at h3
  exact ⟨l, h2, h3, h4⟩
set_option maxRecDepth 100000 in
theorem open_brows {A : Option Addr} {n c : Nat} {d : DataW H} {ps : List MemPlace} (h : DataW.Trod enc Try.prog W 0 (fun _ => true) true 61 (.slice A n c) d ps) :
    ∃ l : List InnerB, (∀ (k : Nat) (x : InnerB), l[k]? = some x → x.ok W) ∧ Reads W W.heap.size 1 A n (l.map InnerB.val) ∧ n ≤ maxLen := by
  obtain ⟨l, _, h2, h3, _, h4⟩ := open_many (fun r : InnerB => [r.val]) 1 (fun _ => rfl) (by omega) (fun r => r.ok W) Try.underlying61 cells_bytes (fun {fuel cs x} _ h => by
    have h0 := h
    rcases Go.Deep.open_slice Try.underlying62 h with ⟨hcs, _⟩ | ⟨a, len, cap, m, n', D, Pl, hcs, _, hlc, _, _, _, _⟩
    · exact ⟨⟨none, 0, 0, []⟩, hcs, rfl, fun k x h => by simp at h, Reads.none_, Nat.le_refl _⟩
    · subst hcs
      obtain ⟨l, h1, h2, h3, h4⟩ := open_bytes (A := some a) (n := len) (c := cap) (d := x.1) (ps := x.2) ⟨fuel, h0⟩
      exact ⟨⟨some a, len, cap, l⟩, rfl, h1, h2, h3, h4⟩) h
  rw [flat_map] at h3
  exact ⟨l, h2, h3, h4⟩
end

end Go.Proofs.Ytfalkiinlkfanaa
