/-
  Arguments of this seat's statements: wheels, numbers, pairs, opened, and read again behind the call. No statement is proved here.
-/
import Derived.Test.YtbhcpkmofnfjgaaEnd
import Derived.Test.YtbhcpkmofnfjgaaGa
import Derived.Test.YtbhcpkmofnfjgaaWa
import Derived.Deep.Slices
import Derived.Deep.Fields
import Derived.Lib.SmallJoins
namespace Go.Proofs.Ytbhcpkmofnfjgaa
open Go.Joins Go.ChangeShapes Go.WideShapes Go.ChangeAt Go.RowKit Go.Deep

set_option maxRecDepth 100000 in
theorem laidOut : laidOutB Try.prog = true := by kernel_rfl
set_option maxRecDepth 100000 in
theorem list_of {α : Type} (P : Nat → α → Prop) : ∀ n, (∀ i, i < n → ∃ x, P i x) → ∃ l : List α, l.length = n ∧ ∀ (k : Nat) (x : α), l[k]? = some x → P k x
  | 0, _ => ⟨[], rfl, fun k x h => by simp at h⟩
  | n + 1, h => by
    obtain ⟨l, h1, h2⟩ := list_of P n (fun i hi => h i (by omega))
    obtain ⟨x, hx⟩ := h n (by omega)
    refine ⟨l ++ [x], by simp [h1], fun k y hy => ?_⟩
    rcases Nat.lt_or_ge k n with hk | hk
    · rw [List.getElem?_append_left (by omega)] at hy
      exact h2 k y hy
    · rw [List.getElem?_append_right (by omega)] at hy
      have hkn : k - l.length = 0 := by
        have := (List.getElem?_eq_some_iff.1 hy).1
        simp at this
        exact this
      rw [hkn] at hy
      simp only [List.getElem?_cons_zero, Option.some.injEq] at hy
      subst hy
      rw [show k = n by omega]
      exact hx
set_option maxRecDepth 100000 in
theorem flat_map {α : Type} (g : α → Value) (l : List α) : flat (fun x => [g x]) l = l.map g := by
  induction l with
  | nil => rfl
  | cons a l ih => rw [flat_cons, ih]; rfl

section
variable {H : Type} {enc : TypeId × Value → H} {W : World}
set_option maxRecDepth 100000 in
theorem arg_stays {t : TypeId} (hr : Try.prog.readableRec t = true) (hrow : t < Try.prog.types.size) {W' : World} {v : Value} {d : DataW H} {ps : List MemPlace}
    (h : DataW.Trod enc Try.prog W 0 (fun _ => true) true t v d ps) (hb : Below W.heap.size W W') (hlt : ∀ x ∈ ps, x.block < W.heap.size) {sp : Nat → Bool} (hsp : ∀ x ∈ ps, sp x.block = true) :
    DataW.Trod enc Try.prog W' 0 sp true t v d ps :=
  WideElems.Trod_stays laidOut hr hrow h (fun x hx => hb.same (hlt x hx)) (fun x hx => hsp x hx)

set_option maxRecDepth 100000 in
/-- a row whose elements are of so many cells each -/
theorem open_many {α : Type} (f : α → List Value) (size : Nat) (hs : ∀ a, (f a).length = size) (hs0 : 0 < size) (Q : α → Prop) {t e : TypeId} (ht : Try.prog.underlying t = some (.slice e)) (hc : Try.prog.cellsOf e = size)
    (hone : ∀ {fuel : Nat} {cs : List Value} {x : DataW H × List MemPlace}, cs.length = size → DataW.trod enc Try.prog W 0 (fun _ => true) true fuel e cs = some x → ∃ y, cs = f y ∧ Q y)
    {A : Option Addr} {n c : Nat} {d : DataW H} {ps : List MemPlace} (h : DataW.Trod enc Try.prog W 0 (fun _ => true) true t (.slice A n c) d ps) :
    ∃ l : List α, l.length = n ∧ (∀ (k : Nat) (x : α), l[k]? = some x → Q x) ∧ Reads W W.heap.size size A n (flat f l) ∧ n ≤ c ∧ n ≤ maxLen := by
  obtain ⟨fuel, hf⟩ := h
  rcases Go.Deep.open_slice ht hf with ⟨hcs, hx⟩ | ⟨a, len, cap, m, n', D, Pl, hcs, _, hl, hm, hmm, hx, hi⟩
  · simp [Value.cells] at hcs
    obtain ⟨rfl, rfl, rfl⟩ := hcs
    exact ⟨[], rfl, fun k x h => by simp at h, ⟨by simp [flat], fun h => absurd h (by omega)⟩, Nat.le_refl _, by unfold maxLen; omega⟩
  · simp [Value.cells] at hcs
    obtain ⟨rfl, rfl, rfl⟩ := hcs
    have each : ∀ i, i < n → ∃ y : α, Q y ∧ ∀ (j : Nat) (u : Value), (f y)[j]? = some u → W.cell? (a.add (i * size + j)) = some u := fun i hin => by
      obtain ⟨cs', hc', ht'⟩ := hi i (by rw [hmm]; simp; omega)
      rw [hc] at hc'
      obtain ⟨_, hcl, hat⟩ := World.cells?_some hc'
      obtain ⟨y, rfl, hy⟩ := hone hcl ht'
      refine ⟨y, hy, fun j u hu => ?_⟩
      have hj := (List.getElem?_eq_some_iff.1 hu).1
      rw [hs] at hj
      have := hat j hj
      rw [add_of_add] at this
      rw [this]
      exact hu
    obtain ⟨l, h1, h2⟩ := list_of _ n each
    refine ⟨l, h1, fun k x hk => (h2 k _ hk).1, ⟨by rw [length_flat f hs, h1], fun h0 => ⟨a, rfl, ?_, fun j u hu => ?_⟩⟩, hl, by omega⟩
    · obtain ⟨y, _, h3⟩ := each 0 h0
      obtain ⟨u, hu⟩ := elem_at (l := f y) (k := 0) (by rw [hs]; exact hs0)
      have := World.block_lt_of_cell? W _ (h3 0 u hu)
      rwa [block_of_add] at this
    · have hj := (List.getElem?_eq_some_iff.1 hu).1
      rw [length_flat f hs, h1] at hj
      have hjn : j / size < n := Nat.div_lt_of_lt_mul (by rw [Nat.mul_comm]; exact hj)
      obtain ⟨y, hk⟩ := elem_at (l := l) (k := j / size) (by omega)
      have hm0 := Nat.mod_lt j hs0
      have e : j = j / size * size + j % size := by rw [Nat.mul_comm]; exact (Nat.div_add_mod j size).symm
      have h3 := flat_at f hs hk (j % size) hm0
      rw [← e, hu] at h3
      have := (h2 _ _ hk).2 (j % size) u h3.symm
      rwa [← e] at this

set_option maxRecDepth 100000 in
theorem cells_int : Try.prog.cellsOf 3 = 1 := by kernel_rfl
set_option maxRecDepth 100000 in
theorem cells_i64 : Try.prog.cellsOf 2 = 1 := by kernel_rfl
set_option maxRecDepth 100000 in
theorem cells_timer : Try.prog.cellsOf 44 = 2 := by kernel_rfl
set_option maxRecDepth 100000 in
theorem cells_timers : Try.prog.cellsOf 22 = 1 := by kernel_rfl
set_option maxRecDepth 100000 in
theorem cells_wheel : Try.prog.cellsOf 24 = 2 := by kernel_rfl
set_option maxRecDepth 100000 in
theorem cells_pair : Try.prog.cellsOf 51 = 2 := by kernel_rfl
set_option maxRecDepth 100000 in
theorem int_of {base : Nat} {spare : Nat → Bool} {held : Bool} {fuel : Nat} {c : Value} {x : DataW H × List MemPlace} (h : DataW.trod enc Try.prog W base spare held fuel 3 [c] = some x) : ∃ i : Int, c = .int .i64 i := by
  obtain ⟨z, e, _, _⟩ := DataW.trod_int Try.underlying3 h
  exact ⟨z, by simpa using e⟩
set_option maxRecDepth 100000 in
theorem i64_of {base : Nat} {spare : Nat → Bool} {held : Bool} {fuel : Nat} {c : Value} {x : DataW H × List MemPlace} (h : DataW.trod enc Try.prog W base spare held fuel 2 [c] = some x) : ∃ i : Int, c = .int .i64 i := by
  obtain ⟨z, e, _, _⟩ := DataW.trod_int Try.underlying2 h
  exact ⟨z, by simpa using e⟩
set_option maxRecDepth 100000 in
theorem open_i {r : Reach} {b0 : Nat} {v : Value} {d : DataW H} {p : List MemPlace} (hv : Value.okWide Try.prog W r b0 3 v) (h : DataW.Trod enc Try.prog W 0 (fun _ => true) true 3 v d p) : ∃ t : Int, v = .int .i64 t := by
  obtain ⟨t, rfl, rfl, rfl, _⟩ := open_int Try.underlying3 hv h
  exact ⟨t, rfl⟩
set_option maxRecDepth 100000 in
theorem open_i64 {r : Reach} {b0 : Nat} {v : Value} {d : DataW H} {p : List MemPlace} (hv : Value.okWide Try.prog W r b0 2 v) (h : DataW.Trod enc Try.prog W 0 (fun _ => true) true 2 v d p) : ∃ t : Int, v = .int .i64 t := by
  obtain ⟨t, rfl, rfl, rfl, _⟩ := open_int Try.underlying2 hv h
  exact ⟨t, rfl⟩
set_option maxRecDepth 100000 in
theorem timer_cells {fuel : Nat} {cs : List Value} {x : DataW H × List MemPlace} (hl : cs.length = 2) (h : DataW.trod enc Try.prog W 0 (fun _ => true) true fuel 44 cs = some x) : ∃ r : Tm, cs = tv r ∧ True := by
  obtain ⟨xs, n, rfl, _, hlen, hxl, hf⟩ := DataW.trod_struct Try.underlying44 h
  match cs, hl with
  | [c0, c1], _ =>
    match xs, hxl with
    | [y0, y1], _ =>
      have g0 : DataW.trod enc Try.prog W 0 (fun _ => true) true n 3 (([c0, c1].drop 0).take (Try.prog.cellsOf 3)) = some y0 := hf 0 _ rfl
      rw [cells_int] at g0
      have g0 : DataW.trod enc Try.prog W 0 (fun _ => true) true n 3 [c0] = some y0 := g0
      have g1 : DataW.trod enc Try.prog W 0 (fun _ => true) true n 2 (([c0, c1].drop 1).take (Try.prog.cellsOf 2)) = some y1 := hf 1 _ rfl
      rw [cells_i64] at g1
      have g1 : DataW.trod enc Try.prog W 0 (fun _ => true) true n 2 [c1] = some y1 := g1
      obtain ⟨a, rfl⟩ := int_of g0
      obtain ⟨b, rfl⟩ := i64_of g1
      exact ⟨(a, b), rfl, trivial⟩
set_option maxRecDepth 100000 in
theorem open_timers {A : Option Addr} {n c : Nat} {d : DataW H} {ps : List MemPlace} (h : DataW.Trod enc Try.prog W 0 (fun _ => true) true 22 (.slice A n c) d ps) :
    ∃ l : List Tm, Reads W W.heap.size 2 A n (flat tv l) ∧ n ≤ maxLen := by
  obtain ⟨l, _, _, h3, _, h5⟩ := open_many tv 2 length_tv (by omega) (fun _ => True) Try.underlying22 cells_timer (fun hl h => timer_cells hl h) h
  exact ⟨l, h3, h5⟩
set_option maxRecDepth 100000 in
theorem open_wheel {r : Reach} {b0 : Nat} {v : Value} {d : DataW H} {p : List MemPlace} (hv : Value.okWide Try.prog W r b0 24 v) (h : DataW.Trod enc Try.prog W 0 (fun _ => true) true 24 v d p) :
    ∃ (now : Int) (A : Option Addr) (n c : Nat) (l : List Tm), v = .agg #[.int .i64 now, .slice A n c] ∧ Reads W W.heap.size 2 A n (flat tv l) ∧ n ≤ maxLen := by
  obtain ⟨cs, rfl, hsz⟩ := okWide_struct Try.underlying24 hv
  obtain ⟨fuel, hf⟩ := h
  obtain ⟨xs, n, _, _, hlen, hxl, hf⟩ := DataW.trod_struct Try.underlying24 hf
  rw [cells_wheel] at hlen
  obtain ⟨q⟩ := cs
  simp only [Value.cells] at hlen hf
  match q, hlen with
  | [c0, c1], _ =>
    match xs, hxl with
    | [y0, y1], _ =>
      have g0 : DataW.trod enc Try.prog W 0 (fun _ => true) true n 2 (([c0, c1].drop 0).take (Try.prog.cellsOf 2)) = some y0 := hf 0 _ rfl
      have g1 : DataW.trod enc Try.prog W 0 (fun _ => true) true n 22 (([c0, c1].drop 1).take (Try.prog.cellsOf 22)) = some y1 := hf 1 _ rfl
      rw [cells_i64] at g0
      rw [cells_timers] at g1
      have g0 : DataW.trod enc Try.prog W 0 (fun _ => true) true n 2 [c0] = some y0 := g0
      have g1 : DataW.trod enc Try.prog W 0 (fun _ => true) true n 22 [c1] = some y1 := g1
      obtain ⟨a, rfl⟩ := i64_of g0
      have h0 := g1
      rcases Go.Deep.open_slice Try.underlying22 g1 with ⟨hcs, _⟩ | ⟨ad, len, cap, m, n', D, Pl, hcs, _, hlc, _, _, _, _⟩
      · simp at hcs
        subst hcs
        exact ⟨a, none, 0, 0, [], rfl, Reads.none_, by unfold maxLen; omega⟩
      · rw [hcs] at h0
        simp at hcs
        subst hcs
        obtain ⟨l, h1, h2⟩ := open_timers (A := some ad) (n := len) (c := cap) (d := y1.1) (ps := y1.2) ⟨n, h0⟩
        exact ⟨a, some ad, len, cap, l, rfl, h1, h2⟩
set_option maxRecDepth 100000 in
theorem open_pair {r : Reach} {b0 : Nat} {v : Value} {d : DataW H} {p : List MemPlace} (hv : Value.okWide Try.prog W r b0 51 v) (h : DataW.Trod enc Try.prog W 0 (fun _ => true) true 51 v d p) :
    ∃ a b : Int, v = .agg #[.int .i64 a, .int .i64 b] := by
  have hv2 := hv
  simp only [Value.okWide, Try.underlying51] at hv2
  obtain ⟨cs, rfl, hsz, _⟩ := hv2
  rw [cells_pair] at hsz
  obtain ⟨fuel, hf⟩ := h
  obtain ⟨xs, _, _, _, _, hxl, hat⟩ := DataW.trod_array Try.underlying51 hf
  rw [cells_int] at hat
  have g0 := hat 0 (by omega)
  have g1 := hat 1 (by omega)
  obtain ⟨q⟩ := cs
  simp only [Value.cells] at g0 g1
  match q, hsz with
  | [u, v], _ =>
    have x0 : xs[0]? = some (xs[0]'(by omega)) := List.getElem?_eq_getElem (by omega)
    have x1 : xs[1]? = some (xs[1]'(by omega)) := List.getElem?_eq_getElem (by omega)
    rw [x0] at g0
    rw [x1] at g1
    obtain ⟨a, rfl⟩ := int_of g0
    obtain ⟨b, rfl⟩ := int_of g1
    exact ⟨a, b, rfl⟩
end
end Go.Proofs.Ytbhcpkmofnfjgaa
