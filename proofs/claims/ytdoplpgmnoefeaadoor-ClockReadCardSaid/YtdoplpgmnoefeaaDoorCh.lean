/-
  Rows of numbers and of texts, opened. No statement is proved here.
-/
import Derived.Test.YtdoplpgmnoefeaaDoorCg
namespace Go.Proofs.YtdoplpgmnoefeaaDoor
open Go.ChangeShapes Go.WideShapes Go.ChangeAt Go.RowKit Go.Deep

/-- the cells of a row whose elements are of one cell each -/
def Row1 {α : Type} (f : α → Value) (w : World) (A : Option Addr) (l : List α) : Prop :=
  ∀ (k : Nat) (x : α), l[k]? = some x → ∃ ad, A = some ad ∧ ad.block < w.heap.size ∧ w.cell? (ad.add k) = some (f x)

theorem cells_str : Tryd.prog.cellsOf 9 = 1 := by kernel_rfl
section
variable {H : Type} {enc : TypeId × Value → H} {W : World}
theorem open_row1 {α : Type} (f : α → Value) (Q : α → Prop) {t e : TypeId} (ht : Tryd.prog.underlying t = some (.slice e)) (hc : Tryd.prog.cellsOf e = 1)
    (hone : ∀ {fuel : Nat} {cs : List Value} {x : DataW H × List MemPlace}, DataW.trod enc Tryd.prog W 0 (fun _ => true) true fuel e cs = some x → ∃ y, cs = [f y] ∧ Q y)
    {A : Option Addr} {n c : Nat} {d : DataW H} {ps : List MemPlace} (h : DataW.Trod enc Tryd.prog W 0 (fun _ => true) true t (.slice A n c) d ps) :
    ∃ l : List α, l.length = n ∧ (∀ (k : Nat) (x : α), l[k]? = some x → Q x) ∧ Row1 f W A l ∧ n ≤ maxLen := by
  obtain ⟨fuel, hf⟩ := h
  rcases Go.Deep.open_slice ht hf with ⟨hcs, hx⟩ | ⟨a, len, cap, m, n', D, Pl, hcs, _, hl, hm, hmm, hx, hi⟩
  · simp [Value.cells] at hcs
    obtain ⟨rfl, rfl, rfl⟩ := hcs
    exact ⟨[], rfl, by simp, fun k x h => by simp at h, by unfold maxLen; omega⟩
  · simp [Value.cells] at hcs
    obtain ⟨rfl, rfl, rfl⟩ := hcs
    have each : ∀ i, i < n → ∃ y : α, Q y ∧ W.cell? (a.add i) = some (f y) := fun i hin => by
      obtain ⟨cs', hc', ht'⟩ := hi i (by rw [hmm]; simp; omega)
      rw [hc, Nat.mul_one] at hc'
      obtain ⟨_, hcl, hat2⟩ := World.cells?_some hc'
      obtain ⟨y, rfl, hy⟩ := hone ht'
      have c0 := hat2 0 (by omega)
      exact ⟨y, hy, by simpa [Go.Deep.add_add] using c0⟩
    have hbl : 0 < n → a.block < W.heap.size := fun h0 => by
      obtain ⟨p, _, h1⟩ := each 0 h0
      have := World.block_lt_of_cell? W _ h1
      rwa [block_of_add] at this
    obtain ⟨l, h1, h2⟩ := list_of _ n each
    exact ⟨l, h1, fun k x hk => (h2 k _ hk).1, fun k x hk => ⟨a, rfl, hbl (by have := (List.getElem?_eq_some_iff.1 hk).1; omega), (h2 k _ hk).2⟩, by omega⟩

theorem open_i64s {A : Option Addr} {n c : Nat} {d : DataW H} {ps : List MemPlace} (h : DataW.Trod enc Tryd.prog W 0 (fun _ => true) true 41 (.slice A n c) d ps) :
    ∃ l : List Int, l.length = n ∧ (∀ (k : Nat) (x : Int), l[k]? = some x → I64 x) ∧ Row1 (Value.int .i64) W A l ∧ n ≤ maxLen :=
  open_row1 (Value.int .i64) I64 Tryd.underlying41 cells_i64 (fun h => by
    obtain ⟨k, e, _, w⟩ := DataW.trod_int Tryd.underlying2 h
    exact ⟨k, e, i64_of w⟩) h
theorem open_strs {A : Option Addr} {n c : Nat} {d : DataW H} {ps : List MemPlace} (h : DataW.Trod enc Tryd.prog W 0 (fun _ => true) true 42 (.slice A n c) d ps) :
    ∃ l : List ByteArray, l.length = n ∧ (∀ (k : Nat) (x : ByteArray), l[k]? = some x → x.size ≤ maxLen) ∧ Row1 Value.string W A l ∧ n ≤ maxLen :=
  open_row1 Value.string (fun x => x.size ≤ maxLen) Tryd.underlying42 cells_str (fun h => by
    obtain ⟨s, e, _, w⟩ := DataW.trod_string Tryd.underlying9 h
    exact ⟨s, e, w⟩) h
end

end Go.Proofs.YtdoplpgmnoefeaaDoor
