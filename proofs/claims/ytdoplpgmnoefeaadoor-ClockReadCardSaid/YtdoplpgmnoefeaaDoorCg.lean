/-
  Arguments of this seat's statements that are slices: opened, and read again behind the call. No statement is proved here.
-/
import Derived.Test.YtdoplpgmnoefeaaDoorEnd
import Derived.Deep.Slices
import Derived.Deep.Fields
import Derived.Lib.SmallJoins
namespace Go.Proofs.YtdoplpgmnoefeaaDoor
open Go.ChangeShapes Go.WideShapes Go.ChangeAt Go.RowKit Go.Deep

theorem laidOut : laidOutB Tryd.prog = true := by kernel_rfl
theorem block_of_add (a : Addr) (n : Nat) : (a.add n).block = a.block := by unfold Addr.add; split <;> rfl
theorem add_next (ad : Addr) (i : Nat) : ad.add (i + 1) = ⟨(ad.add i).block, (ad.add i).off + 1, none⟩ := by
  unfold Addr.add
  rw [if_neg (by omega)]
  by_cases h : i = 0
  · subst h; simp
  · simp [h, Nat.add_assoc]

theorem list_of {α : Type} (P : Nat → α → Prop) (n : Nat) (h : ∀ i, i < n → ∃ x, P i x) : ∃ l : List α, l.length = n ∧ ∀ (k : Nat) (x : α), l[k]? = some x → P k x := by
  induction n with
  | zero => exact ⟨[], rfl, by simp⟩
  | succ n ih =>
    obtain ⟨l, h1, h2⟩ := ih (fun i hi => h i (by omega))
    obtain ⟨x, hx⟩ := h n (by omega)
    refine ⟨l ++ [x], by simp [h1], fun k y hk => ?_⟩
    rcases Nat.lt_or_ge k l.length with hlt | hge
    · rw [List.getElem?_append_left hlt] at hk
      exact h2 k y hk
    · rw [List.getElem?_append_right hge] at hk
      have hk0 : k - l.length = 0 := by
        rcases Nat.eq_zero_or_pos (k - l.length) with h | h
        · exact h
        · rw [List.getElem?_eq_none (by simp; omega)] at hk; cases hk
      rw [hk0] at hk
      simp at hk
      subst hk
      obtain rfl : k = n := by omega
      exact hx

section
variable {H : Type} {enc : TypeId × Value → H} {W : World}
theorem arg_stays {t : TypeId} (hr : Tryd.prog.readableRec t = true) (hrow : t < Tryd.prog.types.size) {W' : World} {v : Value} {d : DataW H} {ps : List MemPlace}
    (h : DataW.Trod enc Tryd.prog W 0 (fun _ => true) true t v d ps) (hb : Below W.heap.size W W') (hlt : ∀ x ∈ ps, x.block < W.heap.size) {sp : Nat → Bool} (hsp : ∀ x ∈ ps, sp x.block = true) :
    DataW.Trod enc Tryd.prog W' 0 sp true t v d ps :=
  WideElems.Trod_stays laidOut hr hrow h (fun x hx => hb.same (hlt x hx)) (fun x hx => hsp x hx)

/-- a 64-bit number -/
def I64 (x : Int) : Prop := -9223372036854775808 ≤ x ∧ x ≤ 9223372036854775807
theorem i64_of {x : Int} (h : (Lit.int .i64 x).wf = true) : I64 x := by
  simpa [I64, Lit.wf, IntKind.min, IntKind.max, IntKind.signed, IntKind.bits] using h

/-- the cells of a row of pairs -/
def Prow (w : World) (A : Option Addr) (ps : List (Int × Int)) : Prop :=
  ∀ (k : Nat) (x z : Int), ps[k]? = some (x, z) → ∃ ad, A = some ad ∧ ad.block < w.heap.size ∧ w.cell? (ad.add (k * 2)) = some (.int .i64 x) ∧ w.cell? (ad.add (k * 2 + 1)) = some (.int .i64 z)

theorem cells_pair : Tryd.prog.cellsOf 24 = 2 := by kernel_rfl
theorem cells_i64 : Tryd.prog.cellsOf 2 = 1 := by kernel_rfl

theorem open_pairs {A : Option Addr} {n c : Nat} {d : DataW H} {ps : List MemPlace} (h : DataW.Trod enc Tryd.prog W 0 (fun _ => true) true 22 (.slice A n c) d ps) :
    ∃ l : List (Int × Int), l.length = n ∧ (∀ (k : Nat) (x z : Int), l[k]? = some (x, z) → I64 x ∧ I64 z) ∧ Prow W A l ∧ n ≤ maxLen := by
  obtain ⟨fuel, hf⟩ := h
  rcases Go.Deep.open_slice Tryd.underlying22 hf with ⟨hcs, hx⟩ | ⟨a, len, cap, m, n', D, Pl, hcs, _, hl, hm, hmm, hx, hi⟩
  · simp [Value.cells] at hcs
    obtain ⟨rfl, rfl, rfl⟩ := hcs
    exact ⟨[], rfl, by simp, fun k x z h => by simp at h, by unfold maxLen; omega⟩
  · simp [Value.cells] at hcs
    obtain ⟨rfl, rfl, rfl⟩ := hcs
    have each : ∀ i, i < n → ∃ p : Int × Int, I64 p.1 ∧ I64 p.2 ∧ W.cell? (a.add (i * 2)) = some (.int .i64 p.1) ∧ W.cell? (a.add (i * 2 + 1)) = some (.int .i64 p.2) := fun i hin => by
      obtain ⟨cs', hc, ht'⟩ := hi i (by rw [hmm]; simp; omega)
      rw [cells_pair] at hc
      obtain ⟨xs, _, _, _, _, hxl, hat⟩ := DataW.trod_array Tryd.underlying24 ht'
      obtain ⟨_, hcl, hat2⟩ := World.cells?_some hc
      rw [cells_i64] at hat
      have g0 := hat 0 (by omega)
      have g1 := hat 1 (by omega)
      have c0 := hat2 0 (by omega)
      have c1 := hat2 1 (by omega)
      match cs', hcl with
      | [u, v], _ =>
        have x0 : xs[0]? = some (xs[0]'(by omega)) := List.getElem?_eq_getElem (by omega)
        have x1 : xs[1]? = some (xs[1]'(by omega)) := List.getElem?_eq_getElem (by omega)
        rw [x0] at g0
        rw [x1] at g1
        obtain ⟨k0, e0, _, w0⟩ := DataW.trod_int Tryd.underlying2 g0
        obtain ⟨k1, e1, _, w1⟩ := DataW.trod_int Tryd.underlying2 g1
        simp at e0 e1
        subst e0 e1
        exact ⟨(k0, k1), i64_of w0, i64_of w1, by simpa [Go.Deep.add_add] using c0, by simpa [Go.Deep.add_add] using c1⟩
    have hbl : 0 < n → a.block < W.heap.size := fun h0 => by
      obtain ⟨p, _, _, h1, _⟩ := each 0 h0
      have := World.block_lt_of_cell? W _ h1
      rwa [block_of_add] at this
    obtain ⟨l, h1, h2⟩ := list_of _ n each
    refine ⟨l, h1, fun k x z hk => ⟨(h2 k _ hk).1, (h2 k _ hk).2.1⟩, fun k x z hk => ⟨a, rfl, hbl (by have := (List.getElem?_eq_some_iff.1 hk).1; omega), (h2 k _ hk).2.2⟩, by omega⟩
end

end Go.Proofs.YtdoplpgmnoefeaaDoor
