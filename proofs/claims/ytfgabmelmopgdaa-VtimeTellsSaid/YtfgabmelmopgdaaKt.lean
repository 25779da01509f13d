/-
  Rows of whatever elements, as lists. No statement is proved here.
-/
import Derived.Test.YtfgabmelmopgdaaEp
import Derived.Test.YtfgabmelmopgdaaLd
import Derived.Test.YtfgabmelmopgdaaLe
import Derived.WalkSpells
import Derived.WalkLawsBesides
import Derived.RegionTactic
import Derived.Deep.QuietTactic
import Derived.BigQuiet
import Derived.Lib.Hide
import Derived.Maps.AppendAt
import Derived.Deep.AppendLies
import Derived.Deep.OwnRows
import Derived.OwnWalk
import Derived.IntWalk
import Derived.Lib.SmallJoins
namespace Go.Proofs.Ytfgabmelmopgdaa
open Go.RowKit



section
variable {P : Program} (w : World)

theorem step_append_any {ops : Array Oper} {o : Oper} {a : Act} {K : Act → World → Prop} {Q : Exit → Act → World → Prop} {E : Prop} (hgd : o.guard = none) (s x : Operand) (t : TypeId)
    (ho : o.op = .call { callee := .builtin .append, args := #[s, x], argTypes := #[t, t] })
    (base : Nat) (e : TypeId) (i : TypeInfo) (z : Value) (size bytes : Nat) (ht : P.underlying t = some (.slice e)) (hi : P.info? e = some i) (hz : i.zero = some z)
    (hsize : i.size = size) (hby : i.bytes = bytes) (hzs : z.cells.size = size) (hsz : 0 < size)
    (v : Value) (n : Nat) (xs : List Value) (hs : a.eval s = v) (hown : w.ownsRow base e size v n xs)
    (B : Nat) (A : Option Addr) (m c : Nat) (news : List Value) (hx : a.eval x = .slice A m c) (hr : Reads w B size A m news) (h1 : ∀ u ∈ news, u.oneCell' = true)
    (h63 : n + m ≤ maxLen) (hbytes : (n + m) * bytes ≤ 140737488355328) (hbase : base ≤ w.heap.size)
    (h : ∀ v' w', w'.ownsRow base e size v' (n + m) (xs ++ news) → w.grownBy w' v.ownBlock → (v'.ownBlock = v.ownBlock ∨ v'.ownBlock = some w.heap.size) → K (a.put o.dst v') w') :
    if Region.wanted o (yielded ops a.tmps) = true then Oper.wp P o a w K Q else E := by
  have hw : Region.wanted o (yielded ops a.tmps) = true := by simp [Region.wanted, hgd]
  rw [if_pos hw]
  exact wp_append_any w s x t ho base e i z size bytes ht hi hz hsize hby hzs hsz v n xs hs hown B A m c news hx hr h1 h63 hbytes hbase h
end



/-! ### elements of several cells -/
section
variable {α : Type} (enc : α → List Value)
def flat (l : List α) : List Value := l.flatMap enc
theorem flat_cons (a : α) (l : List α) : flat enc (a :: l) = enc a ++ flat enc l := rfl
theorem flat_append (a b : List α) : flat enc (a ++ b) = flat enc a ++ flat enc b := by simp [flat]
theorem flat_one (a : α) : flat enc [a] = enc a := by simp [flat]
theorem length_flat {size : Nat} (h : ∀ a, (enc a).length = size) (l : List α) : (flat enc l).length = l.length * size := by
  induction l with
  | nil => simp [flat]
  | cons a l ih => rw [flat_cons, List.length_append, ih, h, List.length_cons, Nat.add_mul, Nat.one_mul, Nat.add_comm]
theorem flat_step {l : List α} {k : Nat} {a : α} (h : l[k]? = some a) : flat enc (l.take (k + 1)) = flat enc (l.take k) ++ enc a := by
  rw [List.take_add_one, h, flat_append]
  exact congrArg _ (flat_one enc a)
theorem flat_at {size : Nat} (hs : ∀ a, (enc a).length = size) {l : List α} {k : Nat} {a : α} (h : l[k]? = some a) (j : Nat) (hj : j < size) : (flat enc l)[k * size + j]? = (enc a)[j]? := by
  induction l generalizing k with
  | nil => simp at h
  | cons b l ih =>
    rw [flat_cons]
    cases k with
    | zero =>
      simp only [List.getElem?_cons_zero, Option.some.injEq] at h
      subst h
      rw [Nat.zero_mul, Nat.zero_add, List.getElem?_append_left (by rw [hs]; exact hj)]
    | succ k =>
      have h' : l[k]? = some a := by simpa using h
      rw [List.getElem?_append_right (by rw [hs, Nat.add_mul]; omega), hs, show (k + 1) * size + j - size = k * size + j by rw [Nat.add_mul]; omega]
      exact ih h'
theorem flat_all {P : Value → Prop} (h : ∀ a, ∀ u ∈ enc a, P u) (l : List α) : ∀ u ∈ flat enc l, P u := by
  intro u hu
  unfold flat at hu
  obtain ⟨a, _, ha⟩ := List.mem_flatMap.1 hu
  exact h a u ha
theorem Reads.elem {size : Nat} (hs : ∀ a, (enc a).length = size) {w : World} {B n : Nat} {A : Option Addr} {l : List α} (h : Reads w B size A n (flat enc l)) {k : Nat} {a : α} (hk : l[k]? = some a) (h0 : 0 < size) :
    ∃ ad, A = some ad ∧ ad.block < B ∧ ∀ j u, (enc a)[j]? = some u → w.cell? (ad.add (k * size + j)) = some u := by
  have hl := h.1
  rw [length_flat enc hs] at hl
  have hkl := (List.getElem?_eq_some_iff.1 hk).1
  have hn : l.length = n := Nat.eq_of_mul_eq_mul_right h0 hl
  obtain ⟨ad, e, hb, hc⟩ := h.2 (by omega)
  refine ⟨ad, e, hb, fun j u hu => hc _ u ?_⟩
  have hj := (List.getElem?_eq_some_iff.1 hu).1
  rw [hs] at hj
  rw [flat_at enc hs hk j hj]
  exact hu
end
theorem elem_at {α : Type} {l : List α} {k : Nat} (hk : k < l.length) : ∃ a, l[k]? = some a := ⟨_, List.getElem?_eq_getElem hk⟩
theorem own_reads {w : World} {base n size : Nat} {e : TypeId} {v : Value} {xs : List Value} (h : w.ownsRow base e size v n xs) : ∃ A c, v = .slice A n c ∧ n ≤ c ∧ Reads w w.heap.size size A n xs := by
  obtain ⟨A, c, rfl, hc⟩ : ∃ A c, v = .slice A n c ∧ n ≤ c := by
    rcases h.2 with ⟨rfl, h0⟩ | ⟨g, cap, cur, rfl, _, _, hc, _⟩
    · exact ⟨none, 0, by rw [h0], by omega⟩
    · exact ⟨_, _, rfl, hc⟩
  exact ⟨A, c, rfl, hc, Reads.of_own h⟩
theorem below_drewN {B : Nat} {a w : World} (h : Below B a w) (n : Nat) : Below B a (w.drewN n) := ⟨h.os, h.tape, h.output, h.size, h.block⟩

/-- numbers as values -/
def vs (l : List Int) : List Value := l.map fun i => .int .i64 i
theorem length_vs (l : List Int) : (vs l).length = l.length := by simp [vs]
theorem vs_append (a b : List Int) : vs (a ++ b) = vs a ++ vs b := by simp [vs]
theorem vs_one (a : Int) : vs [a] = [.int .i64 a] := rfl
theorem vs_at {l : List Int} {k : Nat} {v : Value} (h : (vs l)[k]? = some v) : ∃ x, l[k]? = some x ∧ v = .int .i64 x := by
  unfold vs at h
  rw [List.getElem?_map] at h
  cases hl : l[k]? with
  | none => rw [hl] at h; cases h
  | some x => rw [hl] at h; injection h with h; exact ⟨x, rfl, h.symm⟩

theorem vs_ones (l : List Int) : ∀ u ∈ vs l, u.oneCell' = true := by
  intro u hu
  unfold vs at hu
  obtain ⟨x, _, rfl⟩ := List.mem_map.1 hu
  rfl
theorem int_info : (Try.prog.info? 3).map (fun i => (i.zero, i.size, i.bytes)) = some (some (.int .i64 0), 1, 8) := by kernel_rfl
/-- a call only draws -/
def Draws (v : Value) (w : World) (e : Ending) (w' : World) : Prop := e = .returned v ∧ ∃ m, w' = w.drewN m
theorem Draws.below {v : Value} {w w' : World} {e : Ending} (h : Draws v w e w') (B : Nat) : Below B w w' := by
  obtain ⟨_, m, rfl⟩ := h
  exact below_drewN (Below.refl _ _) m
theorem Blk.grown {w w' : World} {g : Nat} {t : TypeId} {cs : Array Value} {row : Option Nat} (h : Blk w g t cs) (hb : w.grownBy w' row) (hg : some g ≠ row) : Blk w' g t cs := (hb.block g h.lt hg).trans h

/-! ### seats -/
end Go.Proofs.Ytfgabmelmopgdaa
