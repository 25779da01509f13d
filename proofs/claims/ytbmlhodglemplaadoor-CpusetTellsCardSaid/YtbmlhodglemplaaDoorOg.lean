/-
  Arguments of this seat's statements that are slices: opened, and read again behind the call. No statement is proved here.
-/
import Derived.Test.YtbmlhodglemplaaDoorWk
import Derived.Test.YtbmlhodglemplaaDoorEnd
import Derived.Deep.Slices
import Derived.Deep.Fields
import Derived.Lib.SmallJoins
namespace Go.Proofs.YtbmlhodglemplaaDoor
open Go.ChangeShapes Go.WideShapes Go.ChangeAt Go.RowKit Go.Deep

theorem laidOut : laidOutB Tryd.prog = true := by kernel_rfl
theorem list_of {α : Type} (P : Nat → α → Prop) (n : Nat) (h : ∀ i, i < n → ∃ x, P i x) : ∃ l : List α, l.length = n ∧ ∀ (k : Nat) (x : α), l[k]? = some x → P k x := by
  induction n with
  | zero => exact ⟨[], rfl, by simp⟩
  | succ n ih =>
    obtain ⟨l, h1, h2⟩ := ih (fun i hi => h i (by omega))
    obtain ⟨x, hx⟩ := h n (by omega)
    refine ⟨l ++ [x], by simp [h1], fun k y hk => ?_⟩
    rcases Nat.lt_or_ge k l.length with hlt | hge
    · rw [List.getElem?_append_left hlt] at hk
      exact h2 k y hk
    · rw [List.getElem?_append_right hge] at hk
      have hk0 : k - l.length = 0 := by
        rcases Nat.eq_zero_or_pos (k - l.length) with h | h
        · exact h
        · rw [List.getElem?_eq_none (by simp; omega)] at hk; cases hk
      rw [hk0] at hk
      simp at hk
      subst hk
      obtain rfl : k = n := by omega
      exact hx

/-- the cells of a row whose elements are of one cell each -/
def Row1 {α : Type} (f : α → Value) (w : World) (A : Option Addr) (l : List α) : Prop :=
  ∀ (k : Nat) (x : α), l[k]? = some x → ∃ ad, A = some ad ∧ ad.block < w.heap.size ∧ w.cell? (ad.add k) = some (f x)

theorem cells_str : Tryd.prog.cellsOf 9 = 1 := by kernel_rfl
section
variable {H : Type} {enc : TypeId × Value → H} {W : World}
theorem arg_stays {t : TypeId} (hr : Tryd.prog.readableRec t = true) (hrow : t < Tryd.prog.types.size) {W' : World} {v : Value} {d : DataW H} {ps : List MemPlace}
    (h : DataW.Trod enc Tryd.prog W 0 (fun _ => true) true t v d ps) (hb : Below W.heap.size W W') (hlt : ∀ x ∈ ps, x.block < W.heap.size) {sp : Nat → Bool} (hsp : ∀ x ∈ ps, sp x.block = true) :
    DataW.Trod enc Tryd.prog W' 0 sp true t v d ps :=
  WideElems.Trod_stays laidOut hr hrow h (fun x hx => hb.same (hlt x hx)) (fun x hx => hsp x hx)

theorem open_row1 {α : Type} (f : α → Value) (Q : α → Prop) {t e : TypeId} (ht : Tryd.prog.underlying t = some (.slice e)) (hc : Tryd.prog.cellsOf e = 1)
    (hone : ∀ {fuel : Nat} {cs : List Value} {x : DataW H × List MemPlace}, DataW.trod enc Tryd.prog W 0 (fun _ => true) true fuel e cs = some x → ∃ y, cs = [f y] ∧ Q y)
    {A : Option Addr} {n c : Nat} {d : DataW H} {ps : List MemPlace} (h : DataW.Trod enc Tryd.prog W 0 (fun _ => true) true t (.slice A n c) d ps) :
    ∃ l : List α, l.length = n ∧ (∀ (k : Nat) (x : α), l[k]? = some x → Q x) ∧ Row1 f W A l ∧ n ≤ maxLen := by
  obtain ⟨fuel, hf⟩ := h
  rcases Go.Deep.open_slice ht hf with ⟨hcs, hx⟩ | ⟨a, len, cap, m, n', D, Pl, hcs, _, hl, hm, hmm, hx, hi⟩
  · simp [Value.cells] at hcs
    obtain ⟨rfl, rfl, rfl⟩ := hcs
    exact ⟨[], rfl, by simp, fun k x h => by simp at h, by unfold maxLen; omega⟩
  · simp [Value.cells] at hcs
    obtain ⟨rfl, rfl, rfl⟩ := hcs
    have each : ∀ i, i < n → ∃ y : α, Q y ∧ W.cell? (a.add i) = some (f y) := fun i hin => by
      obtain ⟨cs', hc', ht'⟩ := hi i (by rw [hmm]; simp; omega)
      rw [hc, Nat.mul_one] at hc'
      obtain ⟨_, hcl, hat2⟩ := World.cells?_some hc'
      obtain ⟨y, rfl, hy⟩ := hone ht'
      have c0 := hat2 0 (by omega)
      exact ⟨y, hy, by simpa [Go.Deep.add_add] using c0⟩
    have hbl : 0 < n → a.block < W.heap.size := fun h0 => by
      obtain ⟨p, _, h1⟩ := each 0 h0
      have := World.block_lt_of_cell? W _ h1
      rwa [block_of_add] at this
    obtain ⟨l, h1, h2⟩ := list_of _ n each
    exact ⟨l, h1, fun k x hk => (h2 k _ hk).1, fun k x hk => ⟨a, rfl, hbl (by have := (List.getElem?_eq_some_iff.1 hk).1; omega), (h2 k _ hk).2⟩, by omega⟩

theorem reads_of_row1 {α : Type} {f : α → Value} {A : Option Addr} {l : List α} {n : Nat} (hl : l.length = n) (h : Row1 f W A l) : Reads W W.heap.size 1 A n (l.map f) := by
  refine ⟨by rw [List.length_map, hl, Nat.mul_one], fun hn => ?_⟩
  obtain ⟨ad, e, hb, _⟩ := h 0 (l[0]'(by omega)) (List.getElem?_eq_getElem (by omega))
  refine ⟨ad, e, hb, fun j u hu => ?_⟩
  rw [List.getElem?_map] at hu
  cases hj : l[j]? with
  | none => rw [hj] at hu; cases hu
  | some x =>
    rw [hj] at hu
    injection hu with hu
    obtain ⟨ad', e', _, hc⟩ := h j x hj
    rw [e] at e'
    injection e' with e'
    subst e'
    rw [← hu]
    exact hc

/-- a number of 32 bits -/
def U32 (x : Int) : Prop := 0 ≤ x ∧ x < 4294967296
theorem u32_of {x : Int} (h : (Lit.int .u32 x).wf = true) : U32 x := by
  have hx : 0 ≤ x ∧ x ≤ 4294967295 := by simpa [Lit.wf, IntKind.min, IntKind.max, IntKind.signed, IntKind.bits] using h
  exact ⟨hx.1, by omega⟩
def us (l : List Int) : List Value := l.map fun i => .int .u32 i
theorem us_at {l : List Int} {k : Nat} {v : Value} (h : (us l)[k]? = some v) : ∃ x, l[k]? = some x ∧ v = .int .u32 x := by
  unfold us at h
  rw [List.getElem?_map] at h
  cases hl : l[k]? with
  | none => rw [hl] at h; cases h
  | some x => rw [hl] at h; injection h with h; exact ⟨x, rfl, h.symm⟩

theorem cells_cpus : Tryd.prog.cellsOf 27 = 1 := by kernel_rfl
theorem cells_int : Tryd.prog.cellsOf 3 = 1 := by kernel_rfl
theorem cells_ints : Tryd.prog.cellsOf 23 = 1 := by kernel_rfl
theorem open_cpus {A : Option Addr} {n c : Nat} {d : DataW H} {ps : List MemPlace} (h : DataW.Trod enc Tryd.prog W 0 (fun _ => true) true 36 (.slice A n c) d ps) :
    ∃ l : List Int, l.length = n ∧ (∀ (k : Nat) (x : Int), l[k]? = some x → U32 x) ∧ Reads W W.heap.size 1 A n (us l) ∧ n ≤ maxLen := by
  obtain ⟨l, h1, h2, h3, h4⟩ := open_row1 (Value.int .u32) U32 Tryd.underlying36 cells_cpus (fun h => by
    obtain ⟨k, e, _, w⟩ := DataW.trod_int Tryd.underlying27 h
    exact ⟨k, e, u32_of w⟩) h
  exact ⟨l, h1, h2, reads_of_row1 h1 h3, h4⟩
theorem open_ints {A : Option Addr} {n c : Nat} {d : DataW H} {ps : List MemPlace} (h : DataW.Trod enc Tryd.prog W 0 (fun _ => true) true 23 (.slice A n c) d ps) :
    ∃ l : List Int, l.length = n ∧ Reads W W.heap.size 1 A n (vs l) ∧ n ≤ maxLen := by
  obtain ⟨l, h1, _, h3, h4⟩ := open_row1 (Value.int .i64) (fun _ => True) Tryd.underlying23 cells_int (fun h => by
    obtain ⟨k, e, _, _⟩ := DataW.trod_int Tryd.underlying3 h
    exact ⟨k, e, trivial⟩) h
  exact ⟨l, h1, reads_of_row1 h1 h3, h4⟩
theorem open_strs {A : Option Addr} {n c : Nat} {d : DataW H} {ps : List MemPlace} (h : DataW.Trod enc Tryd.prog W 0 (fun _ => true) true 48 (.slice A n c) d ps) :
    ∃ l : List ByteArray, l.length = n ∧ (∀ (k : Nat) (x : ByteArray), l[k]? = some x → x.size ≤ maxLen) ∧ Reads W W.heap.size 1 A n (strs l) ∧ n ≤ maxLen := by
  obtain ⟨l, h1, h2, h3, h4⟩ := open_row1 Value.string (fun x => x.size ≤ maxLen) Tryd.underlying48 cells_str (fun h => by
    obtain ⟨s, e, _, w⟩ := DataW.trod_string Tryd.underlying9 h
    exact ⟨s, e, w⟩) h
  exact ⟨l, h1, h2, reads_of_row1 h1 h3, h4⟩

/-- a row of numbers in a row of rows -/
structure Inner where
  (A : Option Addr) (n c : Nat) (l : List Int)
def Inner.val (r : Inner) : Value := .slice r.A r.n r.c
def Inner.ok (W : World) (r : Inner) : Prop := r.l.length = r.n ∧ Reads W W.heap.size 1 r.A r.n (vs r.l) ∧ r.n ≤ r.c
theorem open_rows {A : Option Addr} {n c : Nat} {d : DataW H} {ps : List MemPlace} (h : DataW.Trod enc Tryd.prog W 0 (fun _ => true) true 22 (.slice A n c) d ps) :
    ∃ l : List Inner, l.length = n ∧ (∀ (k : Nat) (x : Inner), l[k]? = some x → x.ok W) ∧ Reads W W.heap.size 1 A n (l.map Inner.val) ∧ n ≤ maxLen := by
  obtain ⟨l, h1, h2, h3, h4⟩ := open_row1 Inner.val (fun r => r.ok W) Tryd.underlying22 cells_ints (fun {fuel cs x} h => by
    have h0 := h
    rcases Go.Deep.open_slice Tryd.underlying23 h with ⟨hcs, _⟩ | ⟨a, len, cap, m, n', D, Pl, hcs, _, hlc, _, _, _, _⟩
    · exact ⟨⟨none, 0, 0, []⟩, hcs, rfl, Reads.none_, Nat.le_refl _⟩
    · subst hcs
      obtain ⟨l, h1, h3, _⟩ := open_ints (A := some a) (n := len) (c := cap) (d := x.1) (ps := x.2) ⟨fuel, h0⟩
      exact ⟨⟨some a, len, cap, l⟩, rfl, h1, h3, hlc⟩) h
  exact ⟨l, h1, h2, reads_of_row1 h1 h3, h4⟩
set_option maxRecDepth 100000 in
theorem open_i {r : Reach} {b0 : Nat} {v : Value} {d : DataW H} {p : List MemPlace} (hv : Value.okWide Tryd.prog W r b0 3 v) (h : DataW.Trod enc Tryd.prog W 0 (fun _ => true) true 3 v d p) : ∃ t : Int, v = .int .i64 t := by
  obtain ⟨t, rfl, rfl, rfl, _⟩ := open_int Tryd.underlying3 hv h
  exact ⟨t, rfl⟩
set_option maxRecDepth 100000 in
theorem open_s {r : Reach} {b0 : Nat} {v : Value} {d : DataW H} {p : List MemPlace} (hv : Value.okWide Tryd.prog W r b0 9 v) (h : DataW.Trod enc Tryd.prog W 0 (fun _ => true) true 9 v d p) : ∃ s : ByteArray, v = .string s ∧ s.size ≤ maxLen := by
  obtain ⟨s, rfl⟩ := okWide_string Tryd.underlying9 hv
  obtain ⟨fuel, hf⟩ := h
  obtain ⟨s', e, _, w⟩ := DataW.trod_string Tryd.underlying9 hf
  simp [Value.cells] at e
  subst e
  exact ⟨_, rfl, w⟩
end

end Go.Proofs.YtbmlhodglemplaaDoor
