/-
  Arguments of this seat's statements: numbers, sets, masks and rows of them, opened, and read again behind the call; what the rows' listed variable gives. No statement is proved here.
-/
import Derived.Test.YtkbgpmgnkegipaaDoorEnd
import Derived.Test.YtkbgpmgnkegipaaDoorDj
import Derived.Deep.Slices
import Derived.Deep.Fields
import Derived.Lib.SmallJoins
import Derived.Stop.LaidErr
import Derived.Lay
import Derived.MakeChecks
namespace Go.Proofs.YtkbgpmgnkegipaaDoor
open Go.Joins Go.ChangeShapes Go.WideShapes Go.ChangeAt Go.RowKit Go.Deep

theorem laidOut : laidOutB Tryd.prog = true := by kernel_rfl
theorem list_of {α : Type} (P : Nat → α → Prop) : ∀ n, (∀ i, i < n → ∃ x, P i x) → ∃ l : List α, l.length = n ∧ ∀ (k : Nat) (x : α), l[k]? = some x → P k x
  | 0, _ => ⟨[], rfl, fun k x h => by simp at h⟩
  | n + 1, h => by
    obtain ⟨l, h1, h2⟩ := list_of P n (fun i hi => h i (by omega))
    obtain ⟨x, hx⟩ := h n (by omega)
    refine ⟨l ++ [x], by simp [h1], fun k y hy => ?_⟩
    rcases Nat.lt_or_ge k n with hk | hk
    · rw [List.getElem?_append_left (by omega)] at hy
      exact h2 k y hy
    · rw [List.getElem?_append_right (by omega)] at hy
      have hkn : k - l.length = 0 := by
        have := (List.getElem?_eq_some_iff.1 hy).1
        simp at this
        exact this
      rw [hkn] at hy
      simp only [List.getElem?_cons_zero, Option.some.injEq] at hy
      subst hy
      rw [show k = n by omega]
      exact hx
theorem flat_map {α : Type} (g : α → Value) (l : List α) : flat (fun x => [g x]) l = l.map g := by
  induction l with
  | nil => rfl
  | cons a l ih => rw [flat_cons, ih]; rfl

section
variable {H : Type} {enc : TypeId × Value → H} {W : World}
theorem arg_stays {t : TypeId} (hr : Tryd.prog.readableRec t = true) (hrow : t < Tryd.prog.types.size) {W' : World} {v : Value} {d : DataW H} {ps : List MemPlace}
    (h : DataW.Trod enc Tryd.prog W 0 (fun _ => true) true t v d ps) (hb : Below W.heap.size W W') (hlt : ∀ x ∈ ps, x.block < W.heap.size) {sp : Nat → Bool} (hsp : ∀ x ∈ ps, sp x.block = true) :
    DataW.Trod enc Tryd.prog W' 0 sp true t v d ps :=
  WideElems.Trod_stays laidOut hr hrow h (fun x hx => hb.same (hlt x hx)) (fun x hx => hsp x hx)

set_option maxRecDepth 100000 in
/-- a row whose elements are of so many cells each -/
theorem open_many {α : Type} (f : α → List Value) (size : Nat) (hs : ∀ a, (f a).length = size) (hs0 : 0 < size) (Q : α → Prop) {t e : TypeId} (ht : Tryd.prog.underlying t = some (.slice e)) (hc : Tryd.prog.cellsOf e = size)
    (hone : ∀ {fuel : Nat} {cs : List Value} {x : DataW H × List MemPlace}, cs.length = size → DataW.trod enc Tryd.prog W 0 (fun _ => true) true fuel e cs = some x → ∃ y, cs = f y ∧ Q y)
    {A : Option Addr} {n c : Nat} {d : DataW H} {ps : List MemPlace} (h : DataW.Trod enc Tryd.prog W 0 (fun _ => true) true t (.slice A n c) d ps) :
    ∃ l : List α, l.length = n ∧ (∀ (k : Nat) (x : α), l[k]? = some x → Q x) ∧ Reads W W.heap.size size A n (flat f l) ∧ n ≤ c ∧ n ≤ maxLen := by
  obtain ⟨fuel, hf⟩ := h
  rcases Go.Deep.open_slice ht hf with ⟨hcs, hx⟩ | ⟨a, len, cap, m, n', D, Pl, hcs, _, hl, hm, hmm, hx, hi⟩
  · simp [Value.cells] at hcs
    obtain ⟨rfl, rfl, rfl⟩ := hcs
    exact ⟨[], rfl, fun k x h => by simp at h, ⟨by simp [flat], fun h => absurd h (by omega)⟩, Nat.le_refl _, by unfold maxLen; omega⟩
  · simp [Value.cells] at hcs
    obtain ⟨rfl, rfl, rfl⟩ := hcs
    have each : ∀ i, i < n → ∃ y : α, Q y ∧ ∀ (j : Nat) (u : Value), (f y)[j]? = some u → W.cell? (a.add (i * size + j)) = some u := fun i hin => by
      obtain ⟨cs', hc', ht'⟩ := hi i (by rw [hmm]; simp; omega)
      rw [hc] at hc'
      obtain ⟨_, hcl, hat⟩ := World.cells?_some hc'
      obtain ⟨y, rfl, hy⟩ := hone hcl ht'
      refine ⟨y, hy, fun j u hu => ?_⟩
      have hj := (List.getElem?_eq_some_iff.1 hu).1
      rw [hs] at hj
      have := hat j hj
      rw [add_of_add] at this
      rw [this]
      exact hu
    obtain ⟨l, h1, h2⟩ := list_of _ n each
    refine ⟨l, h1, fun k x hk => (h2 k _ hk).1, ⟨by rw [length_flat f hs, h1], fun h0 => ⟨a, rfl, ?_, fun j u hu => ?_⟩⟩, hl, by omega⟩
    · obtain ⟨y, _, h3⟩ := each 0 h0
      obtain ⟨u, hu⟩ := elem_at (l := f y) (k := 0) (by rw [hs]; exact hs0)
      have := World.block_lt_of_cell? W _ (h3 0 u hu)
      rwa [block_of_add] at this
    · have hj := (List.getElem?_eq_some_iff.1 hu).1
      rw [length_flat f hs, h1] at hj
      have hjn : j / size < n := Nat.div_lt_of_lt_mul (by rw [Nat.mul_comm]; exact hj)
      obtain ⟨y, hk⟩ := elem_at (l := l) (k := j / size) (by omega)
      have hm0 := Nat.mod_lt j hs0
      have e : j = j / size * size + j % size := by rw [Nat.mul_comm]; exact (Nat.div_add_mod j size).symm
      have h3 := flat_at f hs hk (j % size) hm0
      rw [← e, hu] at h3
      have := (h2 _ _ hk).2 (j % size) u h3.symm
      rwa [← e] at this

theorem cells_cpus : Tryd.prog.cellsOf 31 = 1 := by kernel_rfl

set_option maxRecDepth 100000 in
theorem cpus_of {base : Nat} {spare : Nat → Bool} {held : Bool} {fuel : Nat} {c : Value} {x : DataW H × List MemPlace} (h : DataW.trod enc Tryd.prog W base spare held fuel 31 [c] = some x) : ∃ i : Int, c = .int .u32 i ∧ 0 ≤ i ∧ i < 4294967296 := by
  obtain ⟨z, e, _, w⟩ := DataW.trod_int Tryd.underlying31 h
  have hx : 0 ≤ z ∧ z ≤ 4294967295 := by simpa [Lit.wf, IntKind.min, IntKind.max, IntKind.signed, IntKind.bits] using w
  exact ⟨z, by simpa using e, hx.1, by omega⟩
set_option maxRecDepth 100000 in
theorem cells_sets : Tryd.prog.cellsOf 24 = 1 := by kernel_rfl
theorem all_of {α : Type} {l : List α} {Q : α → Prop} (h : ∀ (k : Nat) (x : α), l[k]? = some x → Q x) : ∀ x ∈ l, Q x := fun x hx => by
  obtain ⟨k, hk⟩ := List.mem_iff_getElem?.1 hx
  exact h k x hk
set_option maxRecDepth 100000 in
theorem open_sets {A : Option Addr} {n c : Nat} {d : DataW H} {ps : List MemPlace} (h : DataW.Trod enc Tryd.prog W 0 (fun _ => true) true 24 (.slice A n c) d ps) :
    ∃ l : List Int, SA W (A, n, c, l) ∧ n ≤ maxLen := by
  obtain ⟨l, h1, h2, h3, h4, h5⟩ := open_many (fun i => [Value.int .u32 i]) 1 (fun _ => rfl) (by omega) (fun i => 0 ≤ i ∧ i < 4294967296) Tryd.underlying24 cells_cpus (fun {_ cs _} hl h => by
    match cs, hl with
    | [c0], _ =>
      obtain ⟨i, e, hi⟩ := cpus_of h
      exact ⟨i, by rw [e], hi⟩) h
  rw [flat_map] at h3
  exact ⟨l, ⟨h3, h4, all_of h2⟩, h5⟩
set_option maxRecDepth 100000 in
theorem sets_cells {fuel : Nat} {c0 : Value} {x : DataW H × List MemPlace} (h : DataW.trod enc Tryd.prog W 0 (fun _ => true) true fuel 24 [c0] = some x) :
    ∃ y : Gg, c0 = .slice y.1 y.2.1 y.2.2.1 ∧ SA W y := by
  have h0 := h
  rcases Go.Deep.open_slice Tryd.underlying24 h with ⟨hcs, _⟩ | ⟨a, len, cap, m, n', D, Pl, hcs, _, hlc, _, _, _, _⟩
  · exact ⟨(none, 0, 0, []), by simpa using hcs, ⟨Reads.none_, Nat.le_refl _, fun s hs => (by cases hs)⟩⟩
  · rw [hcs] at h0
    obtain ⟨l, h1, _⟩ := open_sets (A := some a) (n := len) (c := cap) (d := x.1) (ps := x.2) ⟨fuel, h0⟩
    exact ⟨(some a, len, cap, l), by simpa using hcs, h1⟩
set_option maxRecDepth 100000 in
theorem open_rows {A : Option Addr} {n c : Nat} {d : DataW H} {ps : List MemPlace} (h : DataW.Trod enc Tryd.prog W 0 (fun _ => true) true 22 (.slice A n c) d ps) : ∃ l : List Gg, RA W A n l := by
  obtain ⟨l, _, h2, h3, _, h5⟩ := open_many gv 1 length_gv (by omega) (fun g : Gg => SA W g) Tryd.underlying22 cells_sets (fun {_ cs _} hl h => by
    match cs, hl with
    | [c0], _ =>
      obtain ⟨y, rfl, hy⟩ := sets_cells h
      exact ⟨y, rfl, hy⟩) h
  exact ⟨l, h3, h5, all_of h2⟩
end

/-- what the rows list gives the table -/
theorem db_of_laid {W : World} (h : laidMetH Tryd.prog Rows.gangRoomRow.laid W) : Db W := by
  rw [MakeChecks.laidMetH_plain _ _ _ (by kernel_rfl)] at h
  exact Lib.tabIs_of_head (rest := _) (g := 0) (t := 90) (e := 5) (n := 32) (by kernel_rfl) (by kernel_rfl) Tryd.underlying90 Tryd.underlying5 (by kernel_rfl) (by kernel_rfl) h

end Go.Proofs.YtkbgpmgnkegipaaDoor
