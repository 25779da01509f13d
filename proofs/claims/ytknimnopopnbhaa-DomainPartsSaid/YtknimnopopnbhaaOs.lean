/-
  Arguments of this seat's statements: numbers, guests, domains, virtual CPUs, rows of what is done, opened, and read again behind the call. No statement is proved here.
-/
import Derived.Test.YtknimnopopnbhaaEnd
import Derived.Test.YtknimnopopnbhaaEr
import Derived.Deep.Slices
import Derived.Deep.Fields
import Derived.Lib.SmallJoins
namespace Go.Proofs.Ytknimnopopnbhaa
open Go.Joins Go.ChangeShapes Go.WideShapes Go.ChangeAt Go.RowKit Go.Deep

theorem laidOut : laidOutB Try.prog = true := by kernel_rfl
theorem list_of {α : Type} (P : Nat → α → Prop) : ∀ n, (∀ i, i < n → ∃ x, P i x) → ∃ l : List α, l.length = n ∧ ∀ (k : Nat) (x : α), l[k]? = some x → P k x
  | 0, _ => ⟨[], rfl, fun k x h => by simp at h⟩
  | n + 1, h => by
    obtain ⟨l, h1, h2⟩ := list_of P n (fun i hi => h i (by omega))
    obtain ⟨x, hx⟩ := h n (by omega)
    refine ⟨l ++ [x], by simp [h1], fun k y hy => ?_⟩
    rcases Nat.lt_or_ge k n with hk | hk
    · rw [List.getElem?_append_left (by omega)] at hy
      exact h2 k y hy
    · rw [List.getElem?_append_right (by omega)] at hy
      have hkn : k - l.length = 0 := by
        have := (List.getElem?_eq_some_iff.1 hy).1
        simp at this
        exact this
      rw [hkn] at hy
      simp only [List.getElem?_cons_zero, Option.some.injEq] at hy
      subst hy
      rw [show k = n by omega]
      exact hx
theorem flat_map {α : Type} (g : α → Value) (l : List α) : flat (fun x => [g x]) l = l.map g := by
  induction l with
  | nil => rfl
  | cons a l ih => rw [flat_cons, ih]; rfl

section
variable {H : Type} {enc : TypeId × Value → H} {W : World}
theorem arg_stays {t : TypeId} (hr : Try.prog.readableRec t = true) (hrow : t < Try.prog.types.size) {W' : World} {v : Value} {d : DataW H} {ps : List MemPlace}
    (h : DataW.Trod enc Try.prog W 0 (fun _ => true) true t v d ps) (hb : Below W.heap.size W W') (hlt : ∀ x ∈ ps, x.block < W.heap.size) {sp : Nat → Bool} (hsp : ∀ x ∈ ps, sp x.block = true) :
    DataW.Trod enc Try.prog W' 0 sp true t v d ps :=
  WideElems.Trod_stays laidOut hr hrow h (fun x hx => hb.same (hlt x hx)) (fun x hx => hsp x hx)

set_option maxRecDepth 100000 in
/-- a row whose elements are of so many cells each -/
theorem open_many {α : Type} (f : α → List Value) (size : Nat) (hs : ∀ a, (f a).length = size) (hs0 : 0 < size) (Q : α → Prop) {t e : TypeId} (ht : Try.prog.underlying t = some (.slice e)) (hc : Try.prog.cellsOf e = size)
    (hone : ∀ {fuel : Nat} {cs : List Value} {x : DataW H × List MemPlace}, cs.length = size → DataW.trod enc Try.prog W 0 (fun _ => true) true fuel e cs = some x → ∃ y, cs = f y ∧ Q y)
    {A : Option Addr} {n c : Nat} {d : DataW H} {ps : List MemPlace} (h : DataW.Trod enc Try.prog W 0 (fun _ => true) true t (.slice A n c) d ps) :
    ∃ l : List α, l.length = n ∧ (∀ (k : Nat) (x : α), l[k]? = some x → Q x) ∧ Reads W W.heap.size size A n (flat f l) ∧ n ≤ c ∧ n ≤ maxLen := by
  obtain ⟨fuel, hf⟩ := h
  rcases Go.Deep.open_slice ht hf with ⟨hcs, hx⟩ | ⟨a, len, cap, m, n', D, Pl, hcs, _, hl, hm, hmm, hx, hi⟩
  · simp [Value.cells] at hcs
    obtain ⟨rfl, rfl, rfl⟩ := hcs
    exact ⟨[], rfl, fun k x h => by simp at h, ⟨by simp [flat], fun h => absurd h (by omega)⟩, Nat.le_refl _, by unfold maxLen; omega⟩
  · simp [Value.cells] at hcs
    obtain ⟨rfl, rfl, rfl⟩ := hcs
    have each : ∀ i, i < n → ∃ y : α, Q y ∧ ∀ (j : Nat) (u : Value), (f y)[j]? = some u → W.cell? (a.add (i * size + j)) = some u := fun i hin => by
      obtain ⟨cs', hc', ht'⟩ := hi i (by rw [hmm]; simp; omega)
      rw [hc] at hc'
      obtain ⟨_, hcl, hat⟩ := World.cells?_some hc'
      obtain ⟨y, rfl, hy⟩ := hone hcl ht'
      refine ⟨y, hy, fun j u hu => ?_⟩
      have hj := (List.getElem?_eq_some_iff.1 hu).1
      rw [hs] at hj
      have := hat j hj
      rw [add_of_add] at this
      rw [this]
      exact hu
    obtain ⟨l, h1, h2⟩ := list_of _ n each
    refine ⟨l, h1, fun k x hk => (h2 k _ hk).1, ⟨by rw [length_flat f hs, h1], fun h0 => ⟨a, rfl, ?_, fun j u hu => ?_⟩⟩, hl, by omega⟩
    · obtain ⟨y, _, h3⟩ := each 0 h0
      obtain ⟨u, hu⟩ := elem_at (l := f y) (k := 0) (by rw [hs]; exact hs0)
      have := World.block_lt_of_cell? W _ (h3 0 u hu)
      rwa [block_of_add] at this
    · have hj := (List.getElem?_eq_some_iff.1 hu).1
      rw [length_flat f hs, h1] at hj
      have hjn : j / size < n := Nat.div_lt_of_lt_mul (by rw [Nat.mul_comm]; exact hj)
      obtain ⟨y, hk⟩ := elem_at (l := l) (k := j / size) (by omega)
      have hm0 := Nat.mod_lt j hs0
      have e : j = j / size * size + j % size := by rw [Nat.mul_comm]; exact (Nat.div_add_mod j size).symm
      have h3 := flat_at f hs hk (j % size) hm0
      rw [← e, hu] at h3
      have := (h2 _ _ hk).2 (j % size) u h3.symm
      rwa [← e] at this

theorem cells_int : Try.prog.cellsOf 3 = 1 := by kernel_rfl
theorem cells_cpus : Try.prog.cellsOf 46 = 1 := by kernel_rfl
theorem cells_mask : Try.prog.cellsOf 48 = 2 := by kernel_rfl
theorem cells_dom : Try.prog.cellsOf 27 = 4 := by kernel_rfl
theorem cells_vc : Try.prog.cellsOf 50 = 4 := by kernel_rfl
theorem cells_doms : Try.prog.cellsOf 22 = 1 := by kernel_rfl
theorem cells_vcs : Try.prog.cellsOf 23 = 1 := by kernel_rfl
theorem cells_guests : Try.prog.cellsOf 25 = 2 := by kernel_rfl
theorem cells_deed : Try.prog.cellsOf 69 = 9 := by kernel_rfl
theorem all_of {α : Type} {l : List α} {Q : α → Prop} (h : ∀ (k : Nat) (x : α), l[k]? = some x → Q x) : ∀ x ∈ l, Q x := fun x hx => by
  obtain ⟨k, hk⟩ := List.mem_iff_getElem?.1 hx
  exact h k x hk

set_option maxRecDepth 100000 in
theorem int_of {base : Nat} {spare : Nat → Bool} {held : Bool} {fuel : Nat} {c : Value} {x : DataW H × List MemPlace} (h : DataW.trod enc Try.prog W base spare held fuel 3 [c] = some x) : ∃ i : Int, c = .int .i64 i := by
  obtain ⟨z, e, _, _⟩ := DataW.trod_int Try.underlying3 h
  exact ⟨z, by simpa using e⟩
set_option maxRecDepth 100000 in
theorem set_of {base : Nat} {spare : Nat → Bool} {held : Bool} {fuel : Nat} {cs : List Value} {x : DataW H × List MemPlace} (h : DataW.trod enc Try.prog W base spare held fuel 46 cs = some x) : ∃ i : Nat, cs = [.int .u32 (i : Int)] ∧ i < 4294967296 := by
  obtain ⟨k, e, _, w⟩ := DataW.trod_int Try.underlying46 h
  have hx : 0 ≤ k ∧ k ≤ 4294967295 := by simpa [Lit.wf, IntKind.min, IntKind.max, IntKind.signed, IntKind.bits] using w
  exact ⟨k.toNat, by rw [Int.toNat_of_nonneg hx.1]; exact e, by omega⟩
set_option maxRecDepth 100000 in
theorem dom_cells {fuel : Nat} {cs : List Value} {x : DataW H × List MemPlace} (hl : cs.length = 4) (h : DataW.trod enc Try.prog W 0 (fun _ => true) true fuel 27 cs = some x) : ∃ d : Dom, cs = dv d := by
  obtain ⟨xs, n, rfl, _, hlen, hxl, hf⟩ := DataW.trod_struct Try.underlying27 h
  match cs, hl with
  | [c0, c1, c2, c3], _ =>
    match xs, hxl with
    | [y0, y1, y2, y3], _ =>
      have g0 : DataW.trod enc Try.prog W 0 (fun _ => true) true n 3 (([c0, c1, c2, c3].drop 0).take (Try.prog.cellsOf 3)) = some y0 := hf 0 _ rfl
      have g1 : DataW.trod enc Try.prog W 0 (fun _ => true) true n 3 (([c0, c1, c2, c3].drop 1).take (Try.prog.cellsOf 3)) = some y1 := hf 1 _ rfl
      have g2 : DataW.trod enc Try.prog W 0 (fun _ => true) true n 3 (([c0, c1, c2, c3].drop 2).take (Try.prog.cellsOf 3)) = some y2 := hf 2 _ rfl
      have g3 : DataW.trod enc Try.prog W 0 (fun _ => true) true n 3 (([c0, c1, c2, c3].drop 3).take (Try.prog.cellsOf 3)) = some y3 := hf 3 _ rfl
      rw [cells_int] at g0
      have g0 : DataW.trod enc Try.prog W 0 (fun _ => true) true n 3 [c0] = some y0 := g0
      rw [cells_int] at g1
      have g1 : DataW.trod enc Try.prog W 0 (fun _ => true) true n 3 [c1] = some y1 := g1
      rw [cells_int] at g2
      have g2 : DataW.trod enc Try.prog W 0 (fun _ => true) true n 3 [c2] = some y2 := g2
      rw [cells_int] at g3
      have g3 : DataW.trod enc Try.prog W 0 (fun _ => true) true n 3 [c3] = some y3 := g3
      obtain ⟨a0, rfl⟩ := int_of g0
      obtain ⟨a1, rfl⟩ := int_of g1
      obtain ⟨a2, rfl⟩ := int_of g2
      obtain ⟨a3, rfl⟩ := int_of g3
      exact ⟨(a0, a1, a2, a3), rfl⟩
set_option maxRecDepth 100000 in
theorem mask_cells {fuel : Nat} {cs : List Value} {x : DataW H × List MemPlace} (hl : cs.length = 2) (h : DataW.trod enc Try.prog W 0 (fun _ => true) true fuel 48 cs = some x) : ∃ a b : Nat, cs = [.int .u32 (a : Int), .int .u32 (b : Int)] ∧ a < 4294967296 ∧ b < 4294967296 := by
  obtain ⟨xs, n, rfl, _, hlen, hxl, hf⟩ := DataW.trod_struct Try.underlying48 h
  match cs, hl with
  | [c0, c1], _ =>
    match xs, hxl with
    | [y0, y1], _ =>
      have g0 : DataW.trod enc Try.prog W 0 (fun _ => true) true n 46 (([c0, c1].drop 0).take (Try.prog.cellsOf 46)) = some y0 := hf 0 _ rfl
      have g1 : DataW.trod enc Try.prog W 0 (fun _ => true) true n 46 (([c0, c1].drop 1).take (Try.prog.cellsOf 46)) = some y1 := hf 1 _ rfl
      rw [cells_cpus] at g0
      have g0 : DataW.trod enc Try.prog W 0 (fun _ => true) true n 46 [c0] = some y0 := g0
      rw [cells_cpus] at g1
      have g1 : DataW.trod enc Try.prog W 0 (fun _ => true) true n 46 [c1] = some y1 := g1
      obtain ⟨a, e0, h0⟩ := set_of g0
      obtain ⟨b, e1, h1⟩ := set_of g1
      injection e0 with e0
      injection e1 with e1
      subst e0 e1
      exact ⟨a, b, rfl, h0, h1⟩
set_option maxRecDepth 100000 in
theorem vc_cells {fuel : Nat} {cs : List Value} {x : DataW H × List MemPlace} (hl : cs.length = 4) (h : DataW.trod enc Try.prog W 0 (fun _ => true) true fuel 50 cs = some x) : ∃ v : Vc, cs = cv v ∧ v.2.2.1 < 4294967296 ∧ v.2.2.2 < 4294967296 := by
  obtain ⟨xs, n, rfl, _, hlen, hxl, hf⟩ := DataW.trod_struct Try.underlying50 h
  match cs, hl with
  | [c0, c1, c2, c3], _ =>
    match xs, hxl with
    | [y0, y1, y2], _ =>
      have g0 : DataW.trod enc Try.prog W 0 (fun _ => true) true n 3 (([c0, c1, c2, c3].drop 0).take (Try.prog.cellsOf 3)) = some y0 := hf 0 _ rfl
      have g1 : DataW.trod enc Try.prog W 0 (fun _ => true) true n 3 (([c0, c1, c2, c3].drop 1).take (Try.prog.cellsOf 3)) = some y1 := hf 1 _ rfl
      have g2 : DataW.trod enc Try.prog W 0 (fun _ => true) true n 48 (([c0, c1, c2, c3].drop 2).take (Try.prog.cellsOf 48)) = some y2 := hf 2 _ rfl
      rw [cells_int] at g0
      have g0 : DataW.trod enc Try.prog W 0 (fun _ => true) true n 3 [c0] = some y0 := g0
      rw [cells_int] at g1
      have g1 : DataW.trod enc Try.prog W 0 (fun _ => true) true n 3 [c1] = some y1 := g1
      rw [cells_mask] at g2
      have g2 : DataW.trod enc Try.prog W 0 (fun _ => true) true n 48 [c2, c3] = some y2 := g2
      obtain ⟨a0, rfl⟩ := int_of g0
      obtain ⟨a1, rfl⟩ := int_of g1
      obtain ⟨a, b, e, h1, h2⟩ := mask_cells rfl g2
      injection e with e0 e
      injection e with e1
      subst e0 e1
      exact ⟨(a0, a1, a, b), rfl, h1, h2⟩
/-- what is done: its kind, a domain, a virtual CPU -/
abbrev DeedT : Type := Int × Dom × Vc
def dev (o : DeedT) : List Value := .int .i64 o.1 :: (dv o.2.1 ++ cv o.2.2)
theorem length_dev (o : DeedT) : (dev o).length = 9 := rfl
set_option maxRecDepth 100000 in
theorem deed_cells {fuel : Nat} {cs : List Value} {x : DataW H × List MemPlace} (hl : cs.length = 9) (h : DataW.trod enc Try.prog W 0 (fun _ => true) true fuel 69 cs = some x) : ∃ o : DeedT, cs = dev o ∧ o.2.2.2.2.1 < 4294967296 ∧ o.2.2.2.2.2 < 4294967296 := by
  obtain ⟨xs, n, rfl, _, hlen, hxl, hf⟩ := DataW.trod_struct Try.underlying69 h
  match cs, hl with
  | [c0, c1, c2, c3, c4, c5, c6, c7, c8], _ =>
    match xs, hxl with
    | [y0, y1, y2], _ =>
      have g0 : DataW.trod enc Try.prog W 0 (fun _ => true) true n 3 (([c0, c1, c2, c3, c4, c5, c6, c7, c8].drop 0).take (Try.prog.cellsOf 3)) = some y0 := hf 0 _ rfl
      have g1 : DataW.trod enc Try.prog W 0 (fun _ => true) true n 27 (([c0, c1, c2, c3, c4, c5, c6, c7, c8].drop 1).take (Try.prog.cellsOf 27)) = some y1 := hf 1 _ rfl
      have g2 : DataW.trod enc Try.prog W 0 (fun _ => true) true n 50 (([c0, c1, c2, c3, c4, c5, c6, c7, c8].drop 5).take (Try.prog.cellsOf 50)) = some y2 := hf 2 _ rfl
      rw [cells_int] at g0
      have g0 : DataW.trod enc Try.prog W 0 (fun _ => true) true n 3 [c0] = some y0 := g0
      rw [cells_dom] at g1
      have g1 : DataW.trod enc Try.prog W 0 (fun _ => true) true n 27 [c1, c2, c3, c4] = some y1 := g1
      rw [cells_vc] at g2
      have g2 : DataW.trod enc Try.prog W 0 (fun _ => true) true n 50 [c5, c6, c7, c8] = some y2 := g2
      obtain ⟨a0, rfl⟩ := int_of g0
      obtain ⟨d, e1⟩ := dom_cells rfl g1
      obtain ⟨v, e2, h1, h2⟩ := vc_cells rfl g2
      have e1 : [c1, c2, c3, c4] = dv d := e1
      have e2 : [c5, c6, c7, c8] = cv v := e2
      refine ⟨(a0, d, v), ?_, h1, h2⟩
      show .int .i64 a0 :: ([c1, c2, c3, c4] ++ [c5, c6, c7, c8]) = .int .i64 a0 :: (dv d ++ cv v)
      rw [e1, e2]
set_option maxRecDepth 100000 in
theorem open_doms {A : Option Addr} {n c : Nat} {d : DataW H} {ps : List MemPlace} (h : DataW.Trod enc Try.prog W 0 (fun _ => true) true 22 (.slice A n c) d ps) :
    ∃ l : List Dom, Reads W W.heap.size 4 A n (flat dv l) ∧ n ≤ c ∧ ∀ (k : Nat) (x : Dom), l[k]? = some x → True := by
  obtain ⟨l, _, h2, h3, h4, _⟩ := open_many dv 4 length_dv (by omega) (fun x => True) Try.underlying22 cells_dom (fun hl h => (dom_cells hl h).imp fun _ e => ⟨e, trivial⟩) h
  exact ⟨l, h3, h4, h2⟩
set_option maxRecDepth 100000 in
theorem open_vcs {A : Option Addr} {n c : Nat} {d : DataW H} {ps : List MemPlace} (h : DataW.Trod enc Try.prog W 0 (fun _ => true) true 23 (.slice A n c) d ps) :
    ∃ l : List Vc, Reads W W.heap.size 4 A n (flat cv l) ∧ n ≤ c ∧ ∀ (k : Nat) (x : Vc), l[k]? = some x → x.2.2.1 < 4294967296 ∧ x.2.2.2 < 4294967296 := by
  obtain ⟨l, _, h2, h3, h4, _⟩ := open_many cv 4 length_cv (by omega) (fun x => x.2.2.1 < 4294967296 ∧ x.2.2.2 < 4294967296) Try.underlying23 cells_vc (fun hl h => vc_cells hl h) h
  exact ⟨l, h3, h4, h2⟩
set_option maxRecDepth 100000 in
theorem open_deeds {A : Option Addr} {n c : Nat} {d : DataW H} {ps : List MemPlace} (h : DataW.Trod enc Try.prog W 0 (fun _ => true) true 67 (.slice A n c) d ps) :
    ∃ l : List DeedT, Reads W W.heap.size 9 A n (flat dev l) ∧ n ≤ c ∧ ∀ (k : Nat) (x : DeedT), l[k]? = some x → x.2.2.2.2.1 < 4294967296 ∧ x.2.2.2.2.2 < 4294967296 := by
  obtain ⟨l, _, h2, h3, h4, _⟩ := open_many dev 9 length_dev (by omega) (fun x => x.2.2.2.2.1 < 4294967296 ∧ x.2.2.2.2.2 < 4294967296) Try.underlying67 cells_deed (fun hl h => deed_cells hl h) h
  exact ⟨l, h3, h4, h2⟩
set_option maxRecDepth 100000 in
theorem open_dom {r : Reach} {b0 : Nat} {v : Value} {d : DataW H} {p : List MemPlace} (hv : Value.okWide Try.prog W r b0 27 v) (h : DataW.Trod enc Try.prog W 0 (fun _ => true) true 27 v d p) :
    ∃ x1 x2 x3 x4 : Int, v = .agg #[.int .i64 x1, .int .i64 x2, .int .i64 x3, .int .i64 x4] := by
  obtain ⟨cs, rfl, hsz⟩ := okWide_struct Try.underlying27 hv
  obtain ⟨fuel, hf⟩ := h
  have hl : cs.toList.length = 4 := by
    obtain ⟨xs, n, _, _, hlen, _, _⟩ := DataW.trod_struct Try.underlying27 hf
    rw [cells_dom] at hlen
    simpa [Value.cells] using hlen
  obtain ⟨⟨x1, x2, x3, x4⟩, e⟩ := dom_cells (by simpa [Value.cells] using hl) hf
  obtain ⟨q⟩ := cs
  simp only [Value.cells] at e
  exact ⟨x1, x2, x3, x4, by rw [show q = _ from e]; rfl⟩
set_option maxRecDepth 100000 in
theorem open_vc {r : Reach} {b0 : Nat} {v : Value} {d : DataW H} {p : List MemPlace} (hv : Value.okWide Try.prog W r b0 50 v) (h : DataW.Trod enc Try.prog W 0 (fun _ => true) true 50 v d p) :
    ∃ (x1 x2 : Int) (x3 x4 : Nat), v = .agg #[.int .i64 x1, .int .i64 x2, .int .u32 (x3 : Int), .int .u32 (x4 : Int)] ∧ x3 < 4294967296 ∧ x4 < 4294967296 := by
  obtain ⟨cs, rfl, hsz⟩ := okWide_struct Try.underlying50 hv
  obtain ⟨fuel, hf⟩ := h
  have hl : cs.toList.length = 4 := by
    obtain ⟨xs, n, _, _, hlen, _, _⟩ := DataW.trod_struct Try.underlying50 hf
    rw [cells_vc] at hlen
    simpa [Value.cells] using hlen
  obtain ⟨⟨x1, x2, x3, x4⟩, e, h1, h2⟩ := vc_cells (by simpa [Value.cells] using hl) hf
  obtain ⟨q⟩ := cs
  simp only [Value.cells] at e
  exact ⟨x1, x2, x3, x4, by rw [show q = _ from e]; rfl, h1, h2⟩
/-- a slice among a struct's fields -/
theorem field_slice {n : Nat} {t e : TypeId} {c0 : Value} {y : DataW H × List MemPlace} (ht : Try.prog.underlying t = some (.slice e)) (g : DataW.trod enc Try.prog W 0 (fun _ => true) true n t [c0] = some y) : ∃ (A : Option Addr) (m c : Nat), c0 = .slice A m c ∧ DataW.Trod enc Try.prog W 0 (fun _ => true) true t (.slice A m c) y.1 y.2 := by
  have h0 := g
  rcases Go.Deep.open_slice ht g with ⟨hcs, _⟩ | ⟨a, len, cap, m, n', D, Pl, hcs, _, hlc, _, _, _, _⟩
  · injection hcs with hcs
    subst hcs
    exact ⟨none, 0, 0, rfl, ⟨n, h0⟩⟩
  · injection hcs with hcs
    subst hcs
    exact ⟨some a, len, cap, rfl, ⟨n, h0⟩⟩
set_option maxRecDepth 100000 in
theorem guests_cells {fuel : Nat} {cs : List Value} {x : DataW H × List MemPlace} (hl : cs.length = 2) (h : DataW.trod enc Try.prog W 0 (fun _ => true) true fuel 25 cs = some x) : ∃ (A : Option Addr) (m c : Nat) (ds : List Dom) (B : Option Addr) (k d : Nat) (us : List Vc), cs = [.slice A m c, .slice B k d] ∧ Reads W W.heap.size 4 A m (flat dv ds) ∧ Reads W W.heap.size 4 B k (flat cv us) ∧ m ≤ c ∧ k ≤ d ∧ UV us := by
  obtain ⟨xs, n, rfl, _, hlen, hxl, hf⟩ := DataW.trod_struct Try.underlying25 h
  match cs, hl with
  | [c0, c1], _ =>
    match xs, hxl with
    | [y0, y1], _ =>
      have g0 : DataW.trod enc Try.prog W 0 (fun _ => true) true n 22 (([c0, c1].drop 0).take (Try.prog.cellsOf 22)) = some y0 := hf 0 _ rfl
      have g1 : DataW.trod enc Try.prog W 0 (fun _ => true) true n 23 (([c0, c1].drop 1).take (Try.prog.cellsOf 23)) = some y1 := hf 1 _ rfl
      rw [cells_doms] at g0
      have g0 : DataW.trod enc Try.prog W 0 (fun _ => true) true n 22 [c0] = some y0 := g0
      rw [cells_vcs] at g1
      have g1 : DataW.trod enc Try.prog W 0 (fun _ => true) true n 23 [c1] = some y1 := g1
      obtain ⟨A, m, c, rfl, t0⟩ := field_slice Try.underlying22 g0
      obtain ⟨B, k, d, rfl, t1⟩ := field_slice Try.underlying23 g1
      obtain ⟨ds, r0, h0, _⟩ := open_doms t0
      obtain ⟨us, r1, h1, hu⟩ := open_vcs t1
      exact ⟨A, m, c, ds, B, k, d, us, rfl, r0, r1, h0, h1, all_of hu⟩
set_option maxRecDepth 100000 in
theorem open_guests {r : Reach} {b0 : Nat} {v : Value} {d : DataW H} {p : List MemPlace} (hv : Value.okWide Try.prog W r b0 25 v) (h : DataW.Trod enc Try.prog W 0 (fun _ => true) true 25 v d p) :
    ∃ (A : Option Addr) (m c : Nat) (ds : List Dom) (B : Option Addr) (k d : Nat) (us : List Vc), v = .agg #[.slice A m c, .slice B k d] ∧ Reads W W.heap.size 4 A m (flat dv ds) ∧ Reads W W.heap.size 4 B k (flat cv us) ∧ m ≤ c ∧ k ≤ d ∧ UV us := by
  obtain ⟨cs, rfl, hsz⟩ := okWide_struct Try.underlying25 hv
  obtain ⟨fuel, hf⟩ := h
  have hl : cs.toList.length = 2 := by
    obtain ⟨xs, n, _, _, hlen, _, _⟩ := DataW.trod_struct Try.underlying25 hf
    rw [cells_guests] at hlen
    simpa [Value.cells] using hlen
  obtain ⟨A, m, c, ds, B, k, d9, us, e, r0, r1, h0, h1, hu⟩ := guests_cells (by simpa [Value.cells] using hl) hf
  obtain ⟨q⟩ := cs
  simp only [Value.cells] at e
  exact ⟨A, m, c, ds, B, k, d9, us, by rw [show q = _ from e], r0, r1, h0, h1, hu⟩
set_option maxRecDepth 100000 in
theorem open_i {r : Reach} {b0 : Nat} {v : Value} {d : DataW H} {p : List MemPlace} (hv : Value.okWide Try.prog W r b0 3 v) (h : DataW.Trod enc Try.prog W 0 (fun _ => true) true 3 v d p) : ∃ t : Int, v = .int .i64 t := by
  obtain ⟨t, rfl, rfl, rfl, _⟩ := open_int Try.underlying3 hv h
  exact ⟨t, rfl⟩
end

end Go.Proofs.Ytknimnopopnbhaa
