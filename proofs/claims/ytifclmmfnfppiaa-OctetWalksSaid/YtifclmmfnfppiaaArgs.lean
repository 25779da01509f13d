/-
  Arguments of this seat's statements that are slices: opened, and read again behind the call. No statement is proved here.
-/
import Derived.Test.YtifclmmfnfppiaaMixedArg
import Derived.Test.YtifclmmfnfppiaaMem
import Derived.Deep.Slices
import Derived.Deep.Fields
namespace Go.Proofs.Ytifclmmfnfppiaa
open Go.ChangeShapes Go.WideShapes Go.ChangeAt Go.RowKit Go.Deep

theorem laidOut : laidOutB Try.prog = true := by kernel_rfl

section
variable {H : Type} {enc : TypeId × Value → H} {P : Program} {w : World} {base : Nat} {spare : Nat → Bool} {held : Bool}
theorem open_slice_fields {t e : TypeId} {fs : Array Field} {fuel : Nat} {cs : List Value} {x : DataW H × List MemPlace} (ht : P.underlying t = some (.slice e)) (he : P.underlying e = some (.struct fs))
    (hone : oneCellFields P fs = true) (hC : P.cellsOf e = fs.size) (h : DataW.trod enc P w base spare held fuel t cs = some x) :
    (cs = [.slice none 0 0] ∧ x = (.nil, [])) ∨
    ∃ (a : Addr) (len cap m : Nat) (D : Nat → DataW H) (Pl : Nat → List MemPlace), cs = [.slice (some a) len cap] ∧ base ≤ a.block ∧ len ≤ cap ∧ cap ≤ maxLen ∧ m = (if spare a.block then cap else len) ∧
      x = (.slice ((List.range len).map D) ((List.range (m - len)).map fun j => D (len + j)), MemPlace.row a (m * fs.size) ++ (List.range m).flatMap Pl) ∧
      ∀ i, i < m → ∃ (ys : List (DataW H × List MemPlace)) (n : Nat), D i = .agg (ys.map (·.1)) ∧ Pl i = ys.flatMap (·.2) ∧ ys.length = fs.size ∧
        ∀ (j : Nat) (f : Field), fs[j]? = some f → ∃ (v : Value) (y : DataW H × List MemPlace), w.cell? (a.add (i * fs.size + j)) = some v ∧ ys[j]? = some y ∧ DataW.trod enc P w base spare held n f.type [v] = some y := by
  rcases open_slice ht h with h0 | ⟨a, len, cap, m, n, D, Pl, hcs, hb, hl, hm, hmm, hx, hi⟩
  · exact .inl h0
  · refine .inr ⟨a, len, cap, m, D, Pl, hcs, hb, hl, hm, hmm, by rw [hC] at hx; exact hx, fun i him => ?_⟩
    obtain ⟨cs', hc, ht'⟩ := hi i him
    rw [hC] at hc
    obtain ⟨ys, n', hn', hy, hlen, hyl, hf⟩ := DataW.trod_struct he ht'
    obtain ⟨_, hcl, hat⟩ := World.cells?_some hc
    simp only [Prod.mk.injEq] at hy
    refine ⟨ys, n', hy.1, hy.2, hyl, fun j f hj => ?_⟩
    obtain ⟨ho, hk⟩ := hone_of hone j f hj
    have hjl : j < fs.size := (Array.getElem?_eq_some_iff.1 hj).1
    have hcell := hat j hjl
    have hv : cs'[j]? = some (cs'[j]'(by omega)) := List.getElem?_eq_getElem (by omega)
    have h1 := hf j f hj
    rw [ho, hk] at h1
    have hone' : (cs'.drop j).take 1 = [cs'[j]'(by omega)] := by
      rw [List.drop_eq_getElem_cons (by omega)]
      rfl
    rw [hone'] at h1
    have hys : ys[j]? = some (ys[j]'(by omega)) := List.getElem?_eq_getElem (by omega)
    refine ⟨_, _, ?_, hys, h1.trans hys⟩
    rw [← Go.Deep.add_add, hcell, hv]
end

section
variable {H : Type} {enc : TypeId × Value → H} {W : World}
theorem arg_stays {t : TypeId} (hr : Try.prog.readableRec t = true) (hrow : t < Try.prog.types.size) {W' : World} {v : Value} {d : DataW H} {ps : List MemPlace}
    (h : DataW.Trod enc Try.prog W 0 (fun _ => true) true t v d ps) (hb : Below W.heap.size W W') (hlt : ∀ x ∈ ps, x.block < W.heap.size) {sp : Nat → Bool} (hsp : ∀ x ∈ ps, sp x.block = true) :
    DataW.Trod enc Try.prog W' 0 sp true t v d ps :=
  WideElems.Trod_stays laidOut hr hrow h (fun x hx => hb.same (hlt x hx)) (fun x hx => hsp x hx)

theorem open_mixeds {A : Option Addr} {n c : Nat} {d : DataW H} {ps : List MemPlace} (h : DataW.Trod enc Try.prog W 0 (fun _ => true) true 51 (.slice A n c) d ps) :
    ∃ ms : List (Nat × Int), ms.length = n ∧ (∀ (k x : Nat) (z : Int), ms[k]? = some (x, z) → (x : Int) ≤ 18446744073709551615) ∧
      ∀ (k x : Nat) (z : Int), ms[k]? = some (x, z) → ∃ ad, A = some ad ∧ ad.block < W.heap.size ∧ W.cell? (ad.add (k * 2)) = some (.int .u64 x) ∧ W.cell? (ad.add (k * 2 + 1)) = some (.int .i64 z) := by
  obtain ⟨fuel, hf⟩ := h
  rcases open_slice_fields Try.underlying51 Try.underlying53 (by kernel_rfl) mixed_cells hf with ⟨hcs, hx⟩ | ⟨a, len, cap, m, D, Pl, hcs, _, hl, hm, hmm, hx, hi⟩
  · simp [Value.cells] at hcs
    obtain ⟨rfl, rfl, rfl⟩ := hcs
    exact ⟨[], rfl, by simp, by simp⟩
  · simp [Value.cells] at hcs
    obtain ⟨rfl, rfl, rfl⟩ := hcs
    have each : ∀ i, i < n → ∃ (x : Nat) (z : Int), (x : Int) ≤ 18446744073709551615 ∧ W.cell? (a.add (i * 2)) = some (.int .u64 x) ∧ W.cell? (a.add (i * 2 + 1)) = some (.int .i64 z) := fun i hin => by
      obtain ⟨ys, k, _, _, _, hfld⟩ := hi i (by rw [hmm]; simp; omega)
      obtain ⟨v0, y0, hc0, _, ht0⟩ := hfld 0 _ rfl
      obtain ⟨v1, y1, hc1, _, ht1⟩ := hfld 1 _ rfl
      obtain ⟨x', e0, rfl, wx⟩ := DataW.trod_int Try.underlying23 ht0
      obtain ⟨z, e1, rfl, wz⟩ := DataW.trod_int Try.underlying3 ht1
      simp at e0 e1
      subst e0 e1
      have hx : 0 ≤ x' ∧ x' ≤ 18446744073709551615 := by simpa [Lit.wf, IntKind.min, IntKind.max, IntKind.signed, IntKind.bits] using wx
      obtain ⟨x, rfl⟩ := Int.eq_ofNat_of_zero_le hx.1
      exact ⟨x, z, hx.2, hc0, hc1⟩
    have hbl : 0 < n → a.block < W.heap.size := fun h0 => by
      obtain ⟨x, z, _, h1, _⟩ := each 0 h0
      have := World.block_lt_of_cell? W _ h1
      rwa [block_of_add] at this
    have hall : ∃ ms : List (Nat × Int), ms.length = n ∧ ∀ (k x : Nat) (z : Int), ms[k]? = some (x, z) → (x : Int) ≤ 18446744073709551615 ∧ W.cell? (a.add (k * 2)) = some (.int .u64 x) ∧ W.cell? (a.add (k * 2 + 1)) = some (.int .i64 z) := by
      have go : ∀ j, j ≤ n → ∃ ms : List (Nat × Int), ms.length = j ∧ ∀ (k x : Nat) (z : Int), ms[k]? = some (x, z) → (x : Int) ≤ 18446744073709551615 ∧ W.cell? (a.add (k * 2)) = some (.int .u64 x) ∧ W.cell? (a.add (k * 2 + 1)) = some (.int .i64 z) := fun j => by
        induction j with
        | zero => intro _; exact ⟨[], rfl, by simp⟩
        | succ j ih =>
          intro hj
          obtain ⟨ms, h1, h2⟩ := ih (by omega)
          obtain ⟨x, z, hx, hc0, hc1⟩ := each j (by omega)
          refine ⟨ms ++ [(x, z)], by simp [h1], fun k x' z' hk => ?_⟩
          rcases Nat.lt_or_ge k ms.length with hlt' | hge
          · rw [List.getElem?_append_left hlt'] at hk
            exact h2 k x' z' hk
          · rw [List.getElem?_append_right hge] at hk
            have hk0 : k - ms.length = 0 := by
              rcases Nat.eq_zero_or_pos (k - ms.length) with h | h
              · exact h
              · rw [List.getElem?_eq_none (by simp; omega)] at hk; cases hk
            rw [hk0] at hk
            simp at hk
            obtain ⟨rfl, rfl⟩ := hk
            obtain rfl : k = j := by omega
            exact ⟨hx, hc0, hc1⟩
      exact go n (Nat.le_refl _)
    obtain ⟨ms, h1, h2⟩ := hall
    refine ⟨ms, h1, fun k x z hk => (h2 k x z hk).1, fun k x z hk => ⟨a, rfl, hbl ?_, (h2 k x z hk).2⟩⟩
    have := (List.getElem?_eq_some_iff.1 hk).1
    omega
end

end Go.Proofs.Ytifclmmfnfppiaa
