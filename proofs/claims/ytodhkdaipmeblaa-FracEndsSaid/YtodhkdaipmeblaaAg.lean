/-
  A row of fractions that comes in, opened. No statement is proved here.
-/
import Derived.Test.YtodhkdaipmeblaaAf
import Derived.Test.YtodhkdaipmeblaaEn
namespace Go.Proofs.Ytodhkdaipmeblaa
open Go.Joins Go.ChangeShapes Go.WideShapes Go.ChangeAt Go.RowKit Go.Deep

theorem list_of {α : Type} (P : Nat → α → Prop) : ∀ n, (∀ i, i < n → ∃ x, P i x) → ∃ l : List α, l.length = n ∧ ∀ (k : Nat) (x : α), l[k]? = some x → P k x
  | 0, _ => ⟨[], rfl, fun k x h => by simp at h⟩
  | n + 1, h => by
    obtain ⟨l, h1, h2⟩ := list_of P n (fun i hi => h i (by omega))
    obtain ⟨x, hx⟩ := h n (by omega)
    refine ⟨l ++ [x], by simp [h1], fun k y hy => ?_⟩
    rcases Nat.lt_or_ge k n with hk | hk
    · rw [List.getElem?_append_left (by omega)] at hy
      exact h2 k y hy
    · rw [List.getElem?_append_right (by omega)] at hy
      have hkn : k - l.length = 0 := by
        have := (List.getElem?_eq_some_iff.1 hy).1
        simp at this
        exact this
      rw [hkn] at hy
      simp only [List.getElem?_cons_zero, Option.some.injEq] at hy
      subst hy
      rw [show k = n by omega]
      exact hx

section
variable {H : Type} {enc : TypeId × Value → H} {W : World}
theorem open_fracs {A : Option Addr} {n c : Nat} {d : DataW H} {ps : List MemPlace} (h : DataW.Trod enc Try.prog W 0 (fun _ => true) true 49 (.slice A n c) d ps) :
    ∃ l : List (Nat × Nat × Nat), l.length = n ∧ Small l ∧ Reads W W.heap.size 3 A n (fvs l) ∧ n ≤ maxLen := by
  obtain ⟨fuel, hf⟩ := h
  rcases open_slice Try.underlying49 hf with ⟨hcs, hx⟩ | ⟨a, len, cap, m, q, D, Pl, hcs, _, hl, hm, hmm, hx, hi⟩
  · simp [Value.cells] at hcs
    obtain ⟨rfl, rfl, rfl⟩ := hcs
    exact ⟨[], rfl, fun k p q x h => by simp at h, Reads.none_, by unfold maxLen; omega⟩
  · simp [Value.cells] at hcs
    obtain ⟨rfl, rfl, rfl⟩ := hcs
    have each : ∀ i, i < n → ∃ f : Nat × Nat × Nat, (f.1 < 2 ^ 64 ∧ f.2.1 < 2 ^ 64 ∧ f.2.2 < 2 ^ 64) ∧ W.cell? (a.add (i * 3)) = some (.int .u64 (f.1 : Int)) ∧ W.cell? (a.add (i * 3 + 1)) = some (.int .u64 (f.2.1 : Int)) ∧ W.cell? (a.add (i * 3 + 2)) = some (.int .u64 (f.2.2 : Int)) := fun i hin => by
      obtain ⟨cs', hc, ht⟩ := hi i (by rw [hmm]; simp; omega)
      rw [cells_frac] at hc
      obtain ⟨x, y, z, rfl, hx, hy, hz⟩ := frac_cells ht
      obtain ⟨_, _, hat⟩ := World.cells?_some hc
      have c0 := hat 0 (by omega)
      have c1 := hat 1 (by omega)
      have c2 := hat 2 (by omega)
      rw [add_of_add] at c0 c1 c2
      exact ⟨(x, y, z), ⟨hx, hy, hz⟩, c0, c1, c2⟩
    obtain ⟨l, h1, h2⟩ := list_of _ n each
    refine ⟨l, h1, fun k p q x hk => (h2 k _ hk).1, ⟨by rw [length_fvs, h1], fun h0 => ⟨a, rfl, ?_, fun j u hu => ?_⟩⟩, by omega⟩
    · obtain ⟨f, _, h3, _⟩ := each 0 h0
      have := World.block_lt_of_cell? W _ h3
      rwa [block_of_add] at this
    · have hj := (List.getElem?_eq_some_iff.1 hu).1
      rw [length_fvs, h1] at hj
      have hjn : j / 3 < n := by omega
      obtain ⟨p, q, x, hk⟩ := each_at (l := l) (k := j / 3) (by omega)
      obtain ⟨g0, g1, g2⟩ := fvs_at hk
      obtain ⟨_, c0, c1, c2⟩ := h2 _ _ hk
      have hr : j = j / 3 * 3 ∨ j = j / 3 * 3 + 1 ∨ j = j / 3 * 3 + 2 := by omega
      rcases hr with e | e | e
      · rw [e] at hu ⊢
        rw [← e] at hu
        rw [e, g0] at hu
        rw [← Option.some.inj hu]
        exact c0
      · rw [e, g1] at hu
        rw [e, ← Option.some.inj hu]
        exact c1
      · rw [e, g2] at hu
        rw [e, ← Option.some.inj hu]
        exact c2
end

end Go.Proofs.Ytodhkdaipmeblaa
