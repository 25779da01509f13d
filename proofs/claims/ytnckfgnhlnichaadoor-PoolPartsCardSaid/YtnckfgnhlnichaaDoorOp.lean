/-
  Arguments of this seat's statements: numbers, sets, pools, what is done, rows of them, and of bytes, opened, and read again behind the call. No statement is proved here.
-/
import Derived.Test.YtnckfgnhlnichaaDoorEnd
import Derived.Test.YtnckfgnhlnichaaDoorWa
import Derived.Deep.Slices
import Derived.Deep.Fields
import Derived.Lib.SmallJoins
namespace Go.Proofs.YtnckfgnhlnichaaDoor
open Go.Joins Go.ChangeShapes Go.WideShapes Go.ChangeAt Go.RowKit Go.Deep

theorem laidOut : laidOutB Tryd.prog = true := by kernel_rfl
theorem list_of {α : Type} (P : Nat → α → Prop) : ∀ n, (∀ i, i < n → ∃ x, P i x) → ∃ l : List α, l.length = n ∧ ∀ (k : Nat) (x : α), l[k]? = some x → P k x
  | 0, _ => ⟨[], rfl, fun k x h => by simp at h⟩
  | n + 1, h => by
    obtain ⟨l, h1, h2⟩ := list_of P n (fun i hi => h i (by omega))
    obtain ⟨x, hx⟩ := h n (by omega)
    refine ⟨l ++ [x], by simp [h1], fun k y hy => ?_⟩
    rcases Nat.lt_or_ge k n with hk | hk
    · rw [List.getElem?_append_left (by omega)] at hy
      exact h2 k y hy
    · rw [List.getElem?_append_right (by omega)] at hy
      have hkn : k - l.length = 0 := by
        have := (List.getElem?_eq_some_iff.1 hy).1
        simp at this
        exact this
      rw [hkn] at hy
      simp only [List.getElem?_cons_zero, Option.some.injEq] at hy
      subst hy
      rw [show k = n by omega]
      exact hx
theorem flat_map {α : Type} (g : α → Value) (l : List α) : flat (fun x => [g x]) l = l.map g := by
  induction l with
  | nil => rfl
  | cons a l ih => rw [flat_cons, ih]; rfl

section
variable {H : Type} {enc : TypeId × Value → H} {W : World}
theorem arg_stays {t : TypeId} (hr : Tryd.prog.readableRec t = true) (hrow : t < Tryd.prog.types.size) {W' : World} {v : Value} {d : DataW H} {ps : List MemPlace}
    (h : DataW.Trod enc Tryd.prog W 0 (fun _ => true) true t v d ps) (hb : Below W.heap.size W W') (hlt : ∀ x ∈ ps, x.block < W.heap.size) {sp : Nat → Bool} (hsp : ∀ x ∈ ps, sp x.block = true) :
    DataW.Trod enc Tryd.prog W' 0 sp true t v d ps :=
  WideElems.Trod_stays laidOut hr hrow h (fun x hx => hb.same (hlt x hx)) (fun x hx => hsp x hx)

set_option maxRecDepth 100000 in
/-- a row whose elements are of so many cells each -/
theorem open_many {α : Type} (f : α → List Value) (size : Nat) (hs : ∀ a, (f a).length = size) (hs0 : 0 < size) (Q : α → Prop) {t e : TypeId} (ht : Tryd.prog.underlying t = some (.slice e)) (hc : Tryd.prog.cellsOf e = size)
    (hone : ∀ {fuel : Nat} {cs : List Value} {x : DataW H × List MemPlace}, cs.length = size → DataW.trod enc Tryd.prog W 0 (fun _ => true) true fuel e cs = some x → ∃ y, cs = f y ∧ Q y)
    {A : Option Addr} {n c : Nat} {d : DataW H} {ps : List MemPlace} (h : DataW.Trod enc Tryd.prog W 0 (fun _ => true) true t (.slice A n c) d ps) :
    ∃ l : List α, l.length = n ∧ (∀ (k : Nat) (x : α), l[k]? = some x → Q x) ∧ Reads W W.heap.size size A n (flat f l) ∧ n ≤ c ∧ n ≤ maxLen := by
  obtain ⟨fuel, hf⟩ := h
  rcases Go.Deep.open_slice ht hf with ⟨hcs, hx⟩ | ⟨a, len, cap, m, n', D, Pl, hcs, _, hl, hm, hmm, hx, hi⟩
  · simp [Value.cells] at hcs
    obtain ⟨rfl, rfl, rfl⟩ := hcs
    exact ⟨[], rfl, fun k x h => by simp at h, ⟨by simp [flat], fun h => absurd h (by omega)⟩, Nat.le_refl _, by unfold maxLen; omega⟩
  · simp [Value.cells] at hcs
    obtain ⟨rfl, rfl, rfl⟩ := hcs
    have each : ∀ i, i < n → ∃ y : α, Q y ∧ ∀ (j : Nat) (u : Value), (f y)[j]? = some u → W.cell? (a.add (i * size + j)) = some u := fun i hin => by
      obtain ⟨cs', hc', ht'⟩ := hi i (by rw [hmm]; simp; omega)
      rw [hc] at hc'
      obtain ⟨_, hcl, hat⟩ := World.cells?_some hc'
      obtain ⟨y, rfl, hy⟩ := hone hcl ht'
      refine ⟨y, hy, fun j u hu => ?_⟩
      have hj := (List.getElem?_eq_some_iff.1 hu).1
      rw [hs] at hj
      have := hat j hj
      rw [add_of_add] at this
      rw [this]
      exact hu
    obtain ⟨l, h1, h2⟩ := list_of _ n each
    refine ⟨l, h1, fun k x hk => (h2 k _ hk).1, ⟨by rw [length_flat f hs, h1], fun h0 => ⟨a, rfl, ?_, fun j u hu => ?_⟩⟩, hl, by omega⟩
    · obtain ⟨y, _, h3⟩ := each 0 h0
      obtain ⟨u, hu⟩ := elem_at (l := f y) (k := 0) (by rw [hs]; exact hs0)
      have := World.block_lt_of_cell? W _ (h3 0 u hu)
      rwa [block_of_add] at this
    · have hj := (List.getElem?_eq_some_iff.1 hu).1
      rw [length_flat f hs, h1] at hj
      have hjn : j / size < n := Nat.div_lt_of_lt_mul (by rw [Nat.mul_comm]; exact hj)
      obtain ⟨y, hk⟩ := elem_at (l := l) (k := j / size) (by omega)
      have hm0 := Nat.mod_lt j hs0
      have e : j = j / size * size + j % size := by rw [Nat.mul_comm]; exact (Nat.div_add_mod j size).symm
      have h3 := flat_at f hs hk (j % size) hm0
      rw [← e, hu] at h3
      have := (h2 _ _ hk).2 (j % size) u h3.symm
      rwa [← e] at this

theorem cells_int : Tryd.prog.cellsOf 3 = 1 := by kernel_rfl
theorem cells_byte : Tryd.prog.cellsOf 5 = 1 := by kernel_rfl
theorem cells_cpus : Tryd.prog.cellsOf 32 = 1 := by kernel_rfl
theorem cells_sets : Tryd.prog.cellsOf 24 = 1 := by kernel_rfl
theorem cells_pools : Tryd.prog.cellsOf 26 = 1 := by kernel_rfl
theorem cells_op : Tryd.prog.cellsOf 35 = 5 := by kernel_rfl
theorem all_of {α : Type} {l : List α} {Q : α → Prop} (h : ∀ (k : Nat) (x : α), l[k]? = some x → Q x) : ∀ x ∈ l, Q x := fun x hx => by
  obtain ⟨k, hk⟩ := List.mem_iff_getElem?.1 hx
  exact h k x hk

set_option maxRecDepth 100000 in
theorem int_of {base : Nat} {spare : Nat → Bool} {held : Bool} {fuel : Nat} {c : Value} {x : DataW H × List MemPlace} (h : DataW.trod enc Tryd.prog W base spare held fuel 3 [c] = some x) : ∃ i : Int, c = .int .i64 i := by
  obtain ⟨z, e, _, _⟩ := DataW.trod_int Tryd.underlying3 h
  exact ⟨z, by simpa using e⟩
set_option maxRecDepth 100000 in
theorem set_of {base : Nat} {spare : Nat → Bool} {held : Bool} {fuel : Nat} {cs : List Value} {x : DataW H × List MemPlace} (h : DataW.trod enc Tryd.prog W base spare held fuel 32 cs = some x) : ∃ i : Nat, cs = [.int .u32 (i : Int)] ∧ i < 4294967296 := by
  obtain ⟨k, e, _, w⟩ := DataW.trod_int Tryd.underlying32 h
  have hx : 0 ≤ k ∧ k ≤ 4294967295 := by simpa [Lit.wf, IntKind.min, IntKind.max, IntKind.signed, IntKind.bits] using w
  exact ⟨k.toNat, by rw [Int.toNat_of_nonneg hx.1]; exact e, by omega⟩
set_option maxRecDepth 100000 in
theorem byte_of {base : Nat} {spare : Nat → Bool} {held : Bool} {fuel : Nat} {cs : List Value} {x : DataW H × List MemPlace} (h : DataW.trod enc Tryd.prog W base spare held fuel 5 cs = some x) : ∃ i : Nat, cs = [.int .u8 (i : Int)] ∧ i < 256 := by
  obtain ⟨k, e, _, w⟩ := DataW.trod_int Tryd.underlying5 h
  have hx : 0 ≤ k ∧ k ≤ 255 := by simpa [Lit.wf, IntKind.min, IntKind.max, IntKind.signed, IntKind.bits] using w
  exact ⟨k.toNat, by rw [Int.toNat_of_nonneg hx.1]; exact e, by omega⟩
set_option maxRecDepth 100000 in
theorem open_ints {A : Option Addr} {n c : Nat} {d : DataW H} {ps : List MemPlace} (h : DataW.Trod enc Tryd.prog W 0 (fun _ => true) true 48 (.slice A n c) d ps) :
    ∃ l : List Int, Reads W W.heap.size 1 A n (vs l) ∧ n ≤ maxLen := by
  obtain ⟨l, h1, _, h3, _, h4⟩ := open_many (fun i => [Value.int .i64 i]) 1 (fun _ => rfl) (by omega) (fun _ => True) Tryd.underlying48 cells_int (fun _ h => by
    obtain ⟨k, e, _, _⟩ := DataW.trod_int Tryd.underlying3 h
    exact ⟨k, e, trivial⟩) h
  rw [flat_map] at h3
  exact ⟨l, h3, h4⟩
set_option maxRecDepth 100000 in
theorem open_sets {A : Option Addr} {n c : Nat} {d : DataW H} {ps : List MemPlace} (h : DataW.Trod enc Tryd.prog W 0 (fun _ => true) true 24 (.slice A n c) d ps) :
    ∃ l : List Nat, U32s l ∧ Reads W W.heap.size 1 A n (us l) ∧ n ≤ c := by
  obtain ⟨l, _, h2, h3, h4, _⟩ := open_many (fun (i : Nat) => [Value.int .u32 (i : Int)]) 1 (fun _ => rfl) (by omega) (fun x => x < 4294967296) Tryd.underlying24 cells_cpus (fun _ h => set_of h) h
  rw [flat_map] at h3
  exact ⟨l, all_of h2, h3, h4⟩
set_option maxRecDepth 100000 in
theorem op_cells {fuel : Nat} {cs : List Value} {x : DataW H × List MemPlace} (hl : cs.length = 5) (h : DataW.trod enc Tryd.prog W 0 (fun _ => true) true fuel 35 cs = some x) : ∃ o : OpT, cs = opv o ∧ o.2.2.2.2 < 4294967296 := by
  obtain ⟨xs, n, rfl, _, hlen, hxl, hf⟩ := DataW.trod_struct Tryd.underlying35 h
  match cs, hl with
  | [c0, c1, c2, c3, c4], _ =>
    match xs, hxl with
    | [y0, y1, y2, y3, y4], _ =>
      have g0 : DataW.trod enc Tryd.prog W 0 (fun _ => true) true n 3 (([c0, c1, c2, c3, c4].drop 0).take (Tryd.prog.cellsOf 3)) = some y0 := hf 0 _ rfl
      have g1 : DataW.trod enc Tryd.prog W 0 (fun _ => true) true n 3 (([c0, c1, c2, c3, c4].drop 1).take (Tryd.prog.cellsOf 3)) = some y1 := hf 1 _ rfl
      have g2 : DataW.trod enc Tryd.prog W 0 (fun _ => true) true n 3 (([c0, c1, c2, c3, c4].drop 2).take (Tryd.prog.cellsOf 3)) = some y2 := hf 2 _ rfl
      have g3 : DataW.trod enc Tryd.prog W 0 (fun _ => true) true n 3 (([c0, c1, c2, c3, c4].drop 3).take (Tryd.prog.cellsOf 3)) = some y3 := hf 3 _ rfl
      have g4 : DataW.trod enc Tryd.prog W 0 (fun _ => true) true n 32 (([c0, c1, c2, c3, c4].drop 4).take (Tryd.prog.cellsOf 32)) = some y4 := hf 4 _ rfl
      rw [cells_int] at g0 g1 g2 g3
      rw [cells_cpus] at g4
      have g0 : DataW.trod enc Tryd.prog W 0 (fun _ => true) true n 3 [c0] = some y0 := g0
      have g1 : DataW.trod enc Tryd.prog W 0 (fun _ => true) true n 3 [c1] = some y1 := g1
      have g2 : DataW.trod enc Tryd.prog W 0 (fun _ => true) true n 3 [c2] = some y2 := g2
      have g3 : DataW.trod enc Tryd.prog W 0 (fun _ => true) true n 3 [c3] = some y3 := g3
      have g4 : DataW.trod enc Tryd.prog W 0 (fun _ => true) true n 32 [c4] = some y4 := g4
      obtain ⟨a, rfl⟩ := int_of g0
      obtain ⟨b, rfl⟩ := int_of g1
      obtain ⟨c, rfl⟩ := int_of g2
      obtain ⟨d, rfl⟩ := int_of g3
      obtain ⟨s, e, hs⟩ := set_of g4
      injection e with e
      subst e
      exact ⟨(a, b, c, d, s), rfl, hs⟩
set_option maxRecDepth 100000 in
theorem open_ops {A : Option Addr} {n c : Nat} {d : DataW H} {ps : List MemPlace} (h : DataW.Trod enc Tryd.prog W 0 (fun _ => true) true 22 (.slice A n c) d ps) :
    ∃ l : List OpT, (∀ (j : Nat) (o : OpT), l[j]? = some o → o.2.2.2.2 < 4294967296) ∧ Reads W W.heap.size 5 A n (flat opv l) := by
  obtain ⟨l, _, h2, h3, _, _⟩ := open_many opv 5 length_opv (by omega) (fun o => o.2.2.2.2 < 4294967296) Tryd.underlying22 cells_op (fun hl h => op_cells hl h) h
  exact ⟨l, h2, h3⟩
set_option maxRecDepth 100000 in
theorem open_op {r : Reach} {b0 : Nat} {v : Value} {d : DataW H} {p : List MemPlace} (hv : Value.okWide Tryd.prog W r b0 35 v) (h : DataW.Trod enc Tryd.prog W 0 (fun _ => true) true 35 v d p) :
    ∃ (k a b cpu : Int) (s : Nat), v = .agg #[.int .i64 k, .int .i64 a, .int .i64 b, .int .i64 cpu, .int .u32 (s : Int)] ∧ s < 4294967296 := by
  obtain ⟨cs, rfl, hsz⟩ := okWide_struct Tryd.underlying35 hv
  obtain ⟨fuel, hf⟩ := h
  have hl : cs.toList.length = 5 := by
    obtain ⟨xs, n, _, _, hlen, _, _⟩ := DataW.trod_struct Tryd.underlying35 hf
    rw [cells_op] at hlen
    simpa [Value.cells] using hlen
  obtain ⟨o, e, hs⟩ := op_cells (by simpa [Value.cells] using hl) hf
  obtain ⟨k, a, b, cpu, s⟩ := o
  obtain ⟨q⟩ := cs
  simp only [Value.cells] at e
  exact ⟨k, a, b, cpu, s, by rw [show q = _ from e]; rfl, hs⟩
set_option maxRecDepth 100000 in
theorem pools_cells {fuel : Nat} {cs : List Value} {x : DataW H × List MemPlace} (h : DataW.trod enc Tryd.prog W 0 (fun _ => true) true fuel 26 cs = some x) :
    ∃ (A : Option Addr) (n c : Nat) (l : List Nat), cs = [.slice A n c] ∧ U32s l ∧ Reads W W.heap.size 1 A n (us l) ∧ n ≤ c := by
  obtain ⟨xs, n, rfl, _, hlen, hxl, hf⟩ := DataW.trod_struct Tryd.underlying26 h
  rw [cells_pools] at hlen
  match cs, hlen with
  | [c0], _ =>
    match xs, hxl with
    | [y0], _ =>
      have g0 : DataW.trod enc Tryd.prog W 0 (fun _ => true) true n 24 (([c0].drop 0).take (Tryd.prog.cellsOf 24)) = some y0 := hf 0 _ rfl
      rw [cells_sets] at g0
      have g0 : DataW.trod enc Tryd.prog W 0 (fun _ => true) true n 24 [c0] = some y0 := g0
      have h0 := g0
      rcases Go.Deep.open_slice Tryd.underlying24 g0 with ⟨hcs, _⟩ | ⟨a, len, cap, m, n', D, Pl, hcs, _, hlc, _, _, _, _⟩
      · exact ⟨none, 0, 0, [], hcs, fun x hx => (by cases hx), Reads.none_, Nat.le_refl _⟩
      · rw [hcs] at h0
        obtain ⟨l, h1, h2, h3⟩ := open_sets (A := some a) (n := len) (c := cap) (d := y0.1) (ps := y0.2) ⟨n, h0⟩
        exact ⟨some a, len, cap, l, hcs, h1, h2, h3⟩
set_option maxRecDepth 100000 in
theorem open_pools {r : Reach} {b0 : Nat} {v : Value} {d : DataW H} {p : List MemPlace} (hv : Value.okWide Tryd.prog W r b0 26 v) (h : DataW.Trod enc Tryd.prog W 0 (fun _ => true) true 26 v d p) :
    ∃ (A : Option Addr) (n c : Nat) (l : List Nat), v = .agg #[.slice A n c] ∧ U32s l ∧ Reads W W.heap.size 1 A n (us l) ∧ n ≤ c := by
  obtain ⟨cs, rfl, hsz⟩ := okWide_struct Tryd.underlying26 hv
  obtain ⟨fuel, hf⟩ := h
  obtain ⟨A, n, c, l, e, h1, h2, h3⟩ := pools_cells hf
  obtain ⟨q⟩ := cs
  simp only [Value.cells] at e
  exact ⟨A, n, c, l, by rw [show q = _ from e], h1, h2, h3⟩
set_option maxRecDepth 100000 in
theorem open_i {r : Reach} {b0 : Nat} {v : Value} {d : DataW H} {p : List MemPlace} (hv : Value.okWide Tryd.prog W r b0 3 v) (h : DataW.Trod enc Tryd.prog W 0 (fun _ => true) true 3 v d p) : ∃ t : Int, v = .int .i64 t := by
  obtain ⟨t, rfl, rfl, rfl, _⟩ := open_int Tryd.underlying3 hv h
  exact ⟨t, rfl⟩
end

end Go.Proofs.YtnckfgnhlnichaaDoor
