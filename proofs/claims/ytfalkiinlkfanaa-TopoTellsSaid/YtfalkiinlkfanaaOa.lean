/-
  Arguments of this seat's statements: numbers, sets, rows of them, of seats, pairs, triples and bytes, and topologies, opened, and read again behind the call. No statement is proved here.
-/
import Derived.Test.YtfalkiinlkfanaaEnd
import Derived.Test.YtfalkiinlkfanaaTf
import Derived.Deep.Slices
import Derived.Deep.Fields
import Derived.Lib.SmallJoins
namespace Go.Proofs.Ytfalkiinlkfanaa
open Go.Joins Go.ChangeShapes Go.WideShapes Go.ChangeAt Go.RowKit Go.Deep

theorem laidOut : laidOutB Try.prog = true := by kernel_rfl
theorem list_of {α : Type} (P : Nat → α → Prop) : ∀ n, (∀ i, i < n → ∃ x, P i x) → ∃ l : List α, l.length = n ∧ ∀ (k : Nat) (x : α), l[k]? = some x → P k x
  | 0, _ => ⟨[], rfl, fun k x h => by simp at h⟩
  | n + 1, h => by
    obtain ⟨l, h1, h2⟩ := list_of P n (fun i hi => h i (by omega))
    obtain ⟨x, hx⟩ := h n (by omega)
    refine ⟨l ++ [x], by simp [h1], fun k y hy => ?_⟩
    rcases Nat.lt_or_ge k n with hk | hk
    · rw [List.getElem?_append_left (by omega)] at hy
      exact h2 k y hy
    · rw [List.getElem?_append_right (by omega)] at hy
      have hkn : k - l.length = 0 := by
        have := (List.getElem?_eq_some_iff.1 hy).1
        simp at this
        exact this
      rw [hkn] at hy
      simp only [List.getElem?_cons_zero, Option.some.injEq] at hy
      subst hy
      rw [show k = n by omega]
      exact hx
theorem flat_map {α : Type} (g : α → Value) (l : List α) : flat (fun x => [g x]) l = l.map g := by
  induction l with
  | nil => rfl
  | cons a l ih => rw [flat_cons, ih]; rfl

section
variable {H : Type} {enc : TypeId × Value → H} {W : World}
theorem arg_stays {t : TypeId} (hr : Try.prog.readableRec t = true) (hrow : t < Try.prog.types.size) {W' : World} {v : Value} {d : DataW H} {ps : List MemPlace}
    (h : DataW.Trod enc Try.prog W 0 (fun _ => true) true t v d ps) (hb : Below W.heap.size W W') (hlt : ∀ x ∈ ps, x.block < W.heap.size) {sp : Nat → Bool} (hsp : ∀ x ∈ ps, sp x.block = true) :
    DataW.Trod enc Try.prog W' 0 sp true t v d ps :=
  WideElems.Trod_stays laidOut hr hrow h (fun x hx => hb.same (hlt x hx)) (fun x hx => hsp x hx)

set_option maxRecDepth 100000 in
/-- a row whose elements are of so many cells each -/
theorem open_many {α : Type} (f : α → List Value) (size : Nat) (hs : ∀ a, (f a).length = size) (hs0 : 0 < size) (Q : α → Prop) {t e : TypeId} (ht : Try.prog.underlying t = some (.slice e)) (hc : Try.prog.cellsOf e = size)
    (hone : ∀ {fuel : Nat} {cs : List Value} {x : DataW H × List MemPlace}, cs.length = size → DataW.trod enc Try.prog W 0 (fun _ => true) true fuel e cs = some x → ∃ y, cs = f y ∧ Q y)
    {A : Option Addr} {n c : Nat} {d : DataW H} {ps : List MemPlace} (h : DataW.Trod enc Try.prog W 0 (fun _ => true) true t (.slice A n c) d ps) :
    ∃ l : List α, l.length = n ∧ (∀ (k : Nat) (x : α), l[k]? = some x → Q x) ∧ Reads W W.heap.size size A n (flat f l) ∧ n ≤ c ∧ n ≤ maxLen := by
  obtain ⟨fuel, hf⟩ := h
  rcases Go.Deep.open_slice ht hf with ⟨hcs, hx⟩ | ⟨a, len, cap, m, n', D, Pl, hcs, _, hl, hm, hmm, hx, hi⟩
  · simp [Value.cells] at hcs
    obtain ⟨rfl, rfl, rfl⟩ := hcs
    exact ⟨[], rfl, fun k x h => by simp at h, ⟨by simp [flat], fun h => absurd h (by omega)⟩, Nat.le_refl _, by unfold maxLen; omega⟩
  · simp [Value.cells] at hcs
    obtain ⟨rfl, rfl, rfl⟩ := hcs
    have each : ∀ i, i < n → ∃ y : α, Q y ∧ ∀ (j : Nat) (u : Value), (f y)[j]? = some u → W.cell? (a.add (i * size + j)) = some u := fun i hin => by
      obtain ⟨cs', hc', ht'⟩ := hi i (by rw [hmm]; simp; omega)
      rw [hc] at hc'
      obtain ⟨_, hcl, hat⟩ := World.cells?_some hc'
      obtain ⟨y, rfl, hy⟩ := hone hcl ht'
      refine ⟨y, hy, fun j u hu => ?_⟩
      have hj := (List.getElem?_eq_some_iff.1 hu).1
      rw [hs] at hj
      have := hat j hj
      rw [add_of_add] at this
      rw [this]
      exact hu
    obtain ⟨l, h1, h2⟩ := list_of _ n each
    refine ⟨l, h1, fun k x hk => (h2 k _ hk).1, ⟨by rw [length_flat f hs, h1], fun h0 => ⟨a, rfl, ?_, fun j u hu => ?_⟩⟩, hl, by omega⟩
    · obtain ⟨y, _, h3⟩ := each 0 h0
      obtain ⟨u, hu⟩ := elem_at (l := f y) (k := 0) (by rw [hs]; exact hs0)
      have := World.block_lt_of_cell? W _ (h3 0 u hu)
      rwa [block_of_add] at this
    · have hj := (List.getElem?_eq_some_iff.1 hu).1
      rw [length_flat f hs, h1] at hj
      have hjn : j / size < n := Nat.div_lt_of_lt_mul (by rw [Nat.mul_comm]; exact hj)
      obtain ⟨y, hk⟩ := elem_at (l := l) (k := j / size) (by omega)
      have hm0 := Nat.mod_lt j hs0
      have e : j = j / size * size + j % size := by rw [Nat.mul_comm]; exact (Nat.div_add_mod j size).symm
      have h3 := flat_at f hs hk (j % size) hm0
      rw [← e, hu] at h3
      have := (h2 _ _ hk).2 (j % size) u h3.symm
      rwa [← e] at this

theorem cells_int : Try.prog.cellsOf 3 = 1 := by kernel_rfl
theorem cells_byte : Try.prog.cellsOf 5 = 1 := by kernel_rfl
theorem cells_cpus : Try.prog.cellsOf 34 = 1 := by kernel_rfl
theorem cells_seat : Try.prog.cellsOf 37 = 2 := by kernel_rfl
theorem cells_topo : Try.prog.cellsOf 27 = 1 := by kernel_rfl
theorem cells_seats : Try.prog.cellsOf 25 = 1 := by kernel_rfl
theorem cells_bytes : Try.prog.cellsOf 62 = 1 := by kernel_rfl
theorem cells_two : Try.prog.cellsOf 43 = 2 := by kernel_rfl
theorem cells_three : Try.prog.cellsOf 56 = 3 := by kernel_rfl

set_option maxRecDepth 100000 in
theorem int_of {base : Nat} {spare : Nat → Bool} {held : Bool} {fuel : Nat} {c : Value} {x : DataW H × List MemPlace} (h : DataW.trod enc Try.prog W base spare held fuel 3 [c] = some x) : ∃ i : Int, c = .int .i64 i := by
  obtain ⟨z, e, _, _⟩ := DataW.trod_int Try.underlying3 h
  exact ⟨z, by simpa using e⟩
set_option maxRecDepth 100000 in
theorem open_ints {A : Option Addr} {n c : Nat} {d : DataW H} {ps : List MemPlace} (h : DataW.Trod enc Try.prog W 0 (fun _ => true) true 23 (.slice A n c) d ps) :
    ∃ l : List Int, Reads W W.heap.size 1 A n (vs l) ∧ n ≤ maxLen := by
  obtain ⟨l, h1, _, h3, _, h4⟩ := open_many (fun i => [Value.int .i64 i]) 1 (fun _ => rfl) (by omega) (fun _ => True) Try.underlying23 cells_int (fun _ h => by
    obtain ⟨k, e, _, _⟩ := DataW.trod_int Try.underlying3 h
    exact ⟨k, e, trivial⟩) h
  rw [flat_map] at h3
  exact ⟨l, h3, h4⟩
set_option maxRecDepth 100000 in
theorem open_sets {A : Option Addr} {n c : Nat} {d : DataW H} {ps : List MemPlace} (h : DataW.Trod enc Try.prog W 0 (fun _ => true) true 42 (.slice A n c) d ps) :
    ∃ l : List Int, (∀ (k : Nat) (x : Int), l[k]? = some x → 0 ≤ x ∧ x < 4294967296) ∧ Reads W W.heap.size 1 A n (l.map fun i => Value.int .u32 i) ∧ n ≤ maxLen := by
  obtain ⟨l, h1, h2, h3, _, h4⟩ := open_many (fun i => [Value.int .u32 i]) 1 (fun _ => rfl) (by omega) (fun x => 0 ≤ x ∧ x < 4294967296) Try.underlying42 cells_cpus (fun _ h => by
    obtain ⟨k, e, _, w⟩ := DataW.trod_int Try.underlying34 h
    have hx : 0 ≤ k ∧ k ≤ 4294967295 := by simpa [Lit.wf, IntKind.min, IntKind.max, IntKind.signed, IntKind.bits] using w
    exact ⟨k, e, hx.1, by omega⟩) h
  rw [flat_map] at h3
  exact ⟨l, h2, h3, h4⟩
set_option maxRecDepth 100000 in
theorem open_bytes {A : Option Addr} {n c : Nat} {d : DataW H} {ps : List MemPlace} (h : DataW.Trod enc Try.prog W 0 (fun _ => true) true 62 (.slice A n c) d ps) :
    ∃ l : List Int, l.length = n ∧ (∀ (k : Nat) (x : Int), l[k]? = some x → 0 ≤ x ∧ x < 256) ∧ Reads W W.heap.size 1 A n (bv l) ∧ n ≤ c := by
  obtain ⟨l, h1, h2, h3, h4, _⟩ := open_many (fun i => [Value.int .u8 i]) 1 (fun _ => rfl) (by omega) (fun x => 0 ≤ x ∧ x < 256) Try.underlying62 cells_byte (fun _ h => by
    obtain ⟨k, e, _, w⟩ := DataW.trod_int Try.underlying5 h
    have hx : 0 ≤ k ∧ k ≤ 255 := by simpa [Lit.wf, IntKind.min, IntKind.max, IntKind.signed, IntKind.bits] using w
    exact ⟨k, e, hx.1, by omega⟩) h
  rw [flat_map] at h3
  exact ⟨l, h1, h2, h3, h4⟩
set_option maxRecDepth 100000 in
theorem open_seats {A : Option Addr} {n c : Nat} {d : DataW H} {ps : List MemPlace} (h : DataW.Trod enc Try.prog W 0 (fun _ => true) true 25 (.slice A n c) d ps) :
    ∃ l : List (Int × Int), Reads W W.heap.size 2 A n (svs l) ∧ n ≤ c := by
  obtain ⟨l, h1, _, h3, h4, _⟩ := open_many sv 2 length_sv (by omega) (fun _ => True) Try.underlying25 cells_seat (fun {fuel cs x} hl h => by
    obtain ⟨xs, n, rfl, _, hlen, hxl, hf⟩ := DataW.trod_struct Try.underlying37 h
    match cs, hl with
    | [c0, c1], _ =>
      match xs, hxl with
      | [y0, y1], _ =>
        have g0 : DataW.trod enc Try.prog W 0 (fun _ => true) true n 3 (([c0, c1].drop 0).take (Try.prog.cellsOf 3)) = some y0 := hf 0 _ rfl
        have g1 : DataW.trod enc Try.prog W 0 (fun _ => true) true n 3 (([c0, c1].drop 1).take (Try.prog.cellsOf 3)) = some y1 := hf 1 _ rfl
        rw [cells_int] at g0 g1
        have g0 : DataW.trod enc Try.prog W 0 (fun _ => true) true n 3 [c0] = some y0 := g0
        have g1 : DataW.trod enc Try.prog W 0 (fun _ => true) true n 3 [c1] = some y1 := g1
        obtain ⟨a, rfl⟩ := int_of g0
        obtain ⟨b, rfl⟩ := int_of g1
        exact ⟨(a, b), rfl, trivial⟩) h
  exact ⟨l, h3, h4⟩
set_option maxRecDepth 100000 in
theorem open_twos {A : Option Addr} {n c : Nat} {d : DataW H} {ps : List MemPlace} (h : DataW.Trod enc Try.prog W 0 (fun _ => true) true 41 (.slice A n c) d ps) :
    ∃ l : List (Int × Int), l.length = n ∧ Reads W W.heap.size 2 A n (flat sv l) ∧ n ≤ maxLen := by
  obtain ⟨l, h1, _, h3, _, h4⟩ := open_many sv 2 length_sv (by omega) (fun _ => True) Try.underlying41 cells_two (fun {fuel cs x} hl h => by
    obtain ⟨xs, _, _, _, _, hxl, hat⟩ := DataW.trod_array Try.underlying43 h
    rw [cells_int] at hat
    have g0 := hat 0 (by omega)
    have g1 := hat 1 (by omega)
    match cs, hl with
    | [u, v], _ =>
      have x0 : xs[0]? = some (xs[0]'(by omega)) := List.getElem?_eq_getElem (by omega)
      have x1 : xs[1]? = some (xs[1]'(by omega)) := List.getElem?_eq_getElem (by omega)
      rw [x0] at g0
      rw [x1] at g1
      obtain ⟨a, rfl⟩ := int_of g0
      obtain ⟨b, rfl⟩ := int_of g1
      exact ⟨(a, b), rfl, trivial⟩) h
  exact ⟨l, h1, h3, h4⟩
def tv (r : Int × Int × Int) : List Value := [.int .i64 r.1, .int .i64 r.2.1, .int .i64 r.2.2]
set_option maxRecDepth 100000 in
theorem open_threes {A : Option Addr} {n c : Nat} {d : DataW H} {ps : List MemPlace} (h : DataW.Trod enc Try.prog W 0 (fun _ => true) true 53 (.slice A n c) d ps) :
    ∃ l : List (Int × Int × Int), l.length = n ∧ Reads W W.heap.size 3 A n (flat tv l) ∧ n ≤ maxLen := by
  obtain ⟨l, h1, _, h3, _, h4⟩ := open_many tv 3 (fun _ => rfl) (by omega) (fun _ => True) Try.underlying53 cells_three (fun {fuel cs x} hl h => by
    obtain ⟨xs, _, _, _, _, hxl, hat⟩ := DataW.trod_array Try.underlying56 h
    rw [cells_int] at hat
    have g0 := hat 0 (by omega)
    have g1 := hat 1 (by omega)
    have g2 := hat 2 (by omega)
    match cs, hl with
    | [u, v, y], _ =>
      have x0 : xs[0]? = some (xs[0]'(by omega)) := List.getElem?_eq_getElem (by omega)
      have x1 : xs[1]? = some (xs[1]'(by omega)) := List.getElem?_eq_getElem (by omega)
      have x2 : xs[2]? = some (xs[2]'(by omega)) := List.getElem?_eq_getElem (by omega)
      rw [x0] at g0
      rw [x1] at g1
      rw [x2] at g2
      obtain ⟨a, rfl⟩ := int_of g0
      obtain ⟨b, rfl⟩ := int_of g1
      obtain ⟨c, rfl⟩ := int_of g2
      exact ⟨(a, b, c), rfl, trivial⟩) h
  exact ⟨l, h1, h3, h4⟩
set_option maxRecDepth 100000 in
theorem topo_cells {fuel : Nat} {cs : List Value} {x : DataW H × List MemPlace} (h : DataW.trod enc Try.prog W 0 (fun _ => true) true fuel 27 cs = some x) :
    ∃ (A : Option Addr) (n c : Nat) (l : List (Int × Int)), cs = [.slice A n c] ∧ Reads W W.heap.size 2 A n (svs l) ∧ n ≤ c := by
  obtain ⟨xs, n, rfl, _, hlen, hxl, hf⟩ := DataW.trod_struct Try.underlying27 h
  rw [cells_topo] at hlen
  match cs, hlen with
  | [c0], _ =>
    match xs, hxl with
    | [y0], _ =>
      have g0 : DataW.trod enc Try.prog W 0 (fun _ => true) true n 25 (([c0].drop 0).take (Try.prog.cellsOf 25)) = some y0 := hf 0 _ rfl
      rw [cells_seats] at g0
      have g0 : DataW.trod enc Try.prog W 0 (fun _ => true) true n 25 [c0] = some y0 := g0
      have h0 := g0
      rcases Go.Deep.open_slice Try.underlying25 g0 with ⟨hcs, _⟩ | ⟨a, len, cap, m, n', D, Pl, hcs, _, hlc, _, _, _, _⟩
      · exact ⟨none, 0, 0, [], hcs, Reads.none_, Nat.le_refl _⟩
      · rw [hcs] at h0
        obtain ⟨l, h1, h2⟩ := open_seats (A := some a) (n := len) (c := cap) (d := y0.1) (ps := y0.2) ⟨n, h0⟩
        exact ⟨some a, len, cap, l, hcs, h1, h2⟩
set_option maxRecDepth 100000 in
theorem open_topo {r : Reach} {b0 : Nat} {v : Value} {d : DataW H} {p : List MemPlace} (hv : Value.okWide Try.prog W r b0 27 v) (h : DataW.Trod enc Try.prog W 0 (fun _ => true) true 27 v d p) :
    ∃ (A : Option Addr) (n c : Nat) (l : List (Int × Int)), v = .agg #[.slice A n c] ∧ Reads W W.heap.size 2 A n (svs l) ∧ n ≤ c := by
  obtain ⟨cs, rfl, hsz⟩ := okWide_struct Try.underlying27 hv
  obtain ⟨fuel, hf⟩ := h
  obtain ⟨A, n, c, l, e, h1, h2⟩ := topo_cells hf
  obtain ⟨q⟩ := cs
  simp only [Value.cells] at e
  exact ⟨A, n, c, l, by rw [show q = _ from e], h1, h2⟩
set_option maxRecDepth 100000 in
theorem open_i {r : Reach} {b0 : Nat} {v : Value} {d : DataW H} {p : List MemPlace} (hv : Value.okWide Try.prog W r b0 3 v) (h : DataW.Trod enc Try.prog W 0 (fun _ => true) true 3 v d p) : ∃ t : Int, v = .int .i64 t := by
  obtain ⟨t, rfl, rfl, rfl, _⟩ := open_int Try.underlying3 hv h
  exact ⟨t, rfl⟩
set_option maxRecDepth 100000 in
theorem open_set {r : Reach} {b0 : Nat} {v : Value} {d : DataW H} {p : List MemPlace} (hv : Value.okWide Try.prog W r b0 34 v) (h : DataW.Trod enc Try.prog W 0 (fun _ => true) true 34 v d p) : ∃ t : Int, v = .int .u32 t ∧ 0 ≤ t ∧ t < 4294967296 := by
  obtain ⟨t, rfl, rfl, rfl, w⟩ := open_int Try.underlying34 hv h
  have hx : 0 ≤ t ∧ t ≤ 4294967295 := by simpa [Lit.wf, IntKind.min, IntKind.max, IntKind.signed, IntKind.bits] using w
  exact ⟨t, rfl, hx.1, by omega⟩
end

end Go.Proofs.Ytfalkiinlkfanaa
