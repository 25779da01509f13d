/-
  Cells of a row of one's own, written over; copies of elements of several cells. No statement is proved here.
-/
import Derived.Test.YtkbgpmgnkegipaaDoorTa
import Derived.Laws.IdiomCopy
import Derived.Lib.SliceRun
import Derived.Lib.Overlaps
import Derived.Lib.AppendZerosOnto
import Derived.Laws.NewBlocks
import Derived.Deep.RegionLaw
namespace Go.Proofs.YtkbgpmgnkegipaaDoor
open Go.RowKit

section
variable {α : Type} {enc : α → List Value}
theorem flat_take_ {s : Nat} (hs : ∀ a, (enc a).length = s) (l : List α) (k : Nat) : flat enc (l.take k) = (flat enc l).take (k * s) := by
  induction l generalizing k with
  | nil => simp [flat]
  | cons a l ih =>
    cases k with
    | zero => simp [flat]
    | succ k =>
      rw [List.take_succ_cons, flat_cons, flat_cons, ih, Nat.add_mul, Nat.one_mul, List.take_append, hs]
      rw [List.take_of_length_le (l := enc a) (by rw [hs]; omega), Nat.add_sub_cancel]
theorem flat_drop_ {s : Nat} (hs : ∀ a, (enc a).length = s) (l : List α) (k : Nat) : flat enc (l.drop k) = (flat enc l).drop (k * s) := by
  induction l generalizing k with
  | nil => simp [flat]
  | cons a l ih =>
    cases k with
    | zero => simp
    | succ k =>
      rw [List.drop_succ_cons, flat_cons, ih, Nat.add_mul, Nat.one_mul, List.drop_append, hs]
      rw [List.drop_of_length_le (l := enc a) (by rw [hs]; omega), Nat.add_sub_cancel, List.nil_append]
end

/-- a list with some of its elements written over, from o on -/
def setLV : List Value → Nat → List Value → List Value
  | l, _, [] => l
  | l, o, v :: r => setLV (l.set o v) (o + 1) r
theorem setLV_eq (vs : List Value) : ∀ (l : List Value) (o : Nat), o + vs.length ≤ l.length → setLV l o vs = l.take o ++ vs ++ l.drop (o + vs.length) := by
  induction vs with
  | nil => intro l o _; simp [setLV]
  | cons v r ih =>
    intro l o h
    rw [List.length_cons] at h
    unfold setLV
    rw [ih _ _ (by rw [List.length_set]; omega), List.length_cons]
    have h3 : (l.set o v).take (o + 1) = l.take o ++ [v] := by
      rw [List.take_add_one, List.getElem?_set_self (by omega), List.take_set_of_le (by omega)]
      rfl
    rw [h3, List.drop_set_of_lt (by omega), show o + 1 + r.length = o + (r.length + 1) by omega, List.append_assoc, List.append_assoc, List.append_assoc]
    rfl
theorem setLV_len (vs : List Value) : ∀ (l : List Value) (o : Nat), (setLV l o vs).length = l.length := by
  induction vs with
  | nil => intro l o; rfl
  | cons v r ih => intro l o; unfold setLV; rw [ih, List.length_set]
theorem Blk.cells {g : Nat} {t : TypeId} (vs : List Value) : ∀ (w : World) (cur : Array Value) (o : Nat), Blk w g t cur → Blk (w.setCells g o vs) g t (setLV cur.toList o vs).toArray := by
  induction vs with
  | nil => intro w cur o h; simpa [setLV, World.setCells] using h
  | cons v r ih =>
    intro w cur o h
    have h1 := ih _ _ (o + 1) (h.set_ o v)
    unfold setLV World.setCells
    rw [Array.toList_setIfInBounds] at h1
    exact h1
theorem grown_cells (g : Nat) (vs : List Value) : ∀ (w : World) (o : Nat), w.grownBy (w.setCells g o vs) (some g) := by
  induction vs with
  | nil => intro w o; exact World.grownBy.refl w _
  | cons v r ih =>
    intro w o
    have h := ih (w.setCell ⟨g, o, none⟩ v) (o + 1)
    refine ⟨h.os, h.tape, h.output, ?_, fun k hk hne => ?_⟩
    · have h1 := h.size
      have h2 : (w.setCell ⟨g, o, none⟩ v).heap.size = w.heap.size := by simp [World.setCell]
      rw [h2] at h1
      exact h1
    · rw [World.setCells, h.block k (by simpa [World.setCell] using hk) hne]
      exact Below.heap_setCell w _ v k (fun he => hne (by rw [he]))
theorem grown_drew {w w' : World} {row : Option Nat} (h : w.drew.grownBy w' row) : w.grownBy w' row := ⟨h.os, h.tape, h.output, h.size, h.block⟩
theorem grown_drew' {w w' : World} {row : Option Nat} (h : w.grownBy w' row) : w.grownBy w'.drew row := ⟨h.os, h.tape, h.output, h.size, h.block⟩
theorem grown_trans {w w1 w2 : World} {row : Option Nat} (h : w.grownBy w1 row) (h2 : w1.grownBy w2 row) : w.grownBy w2 row :=
  ⟨h2.os.trans h.os, h2.tape.trans h.tape, h2.output.trans h.output, Nat.le_trans h.size h2.size, fun k hk hne => (h2.block k (Nat.lt_of_lt_of_le hk h.size) hne).trans (h.block k hk hne)⟩
theorem own_blk {w : World} {g b c s n : Nat} {e : TypeId} {cur : Array Value} {xs : List Value} (K : Blk w g e cur) (hb : b ≤ g) (hc : c ≤ maxLen) (hsz : cur.size = c * s) (hn : n ≤ c) (hx : cur.toList.take (n * s) = xs) : w.ownsRow b e s (.slice (some ⟨g, 0, none⟩) n c) n xs := by
  refine ⟨?_, .inr ⟨g, c, cur, rfl, hb, K, hn, hc, hsz, hx⟩⟩
  rw [← hx, List.length_take, Array.length_toList, hsz]
  exact Nat.min_eq_left (Nat.mul_le_mul_right s hn)
theorem blk_own {w : World} {b c s n : Nat} {e : TypeId} {A : Option Addr} {xs : List Value} (h : w.ownsRow b e s (.slice A n c) n xs) (h0 : 0 < n) : ∃ g cur, A = some ⟨g, 0, none⟩ ∧ b ≤ g ∧ Blk w g e cur ∧ n ≤ c ∧ c ≤ maxLen ∧ cur.size = c * s ∧ cur.toList.take (n * s) = xs := by
  rcases h.2 with ⟨_, h2⟩ | ⟨g, cap, cur, h2, hb, hg, hn, hm, hc, ht⟩
  · omega
  · injection h2 with e1 e2 e3
    subst e1
    subst e3
    exact ⟨g, cur, rfl, hb, hg, hn, hm, hc, ht⟩
theorem Blk.shape {w : World} {g : Nat} {t : TypeId} {cs : Array Value} (h : Blk w g t cs) : w.shape? g = some (t, cs.size) := by
  unfold Blk at h
  simp [World.shape?, h]

section
variable {P : Program}
/-- copy, of elements of several cells; all is read before anything is written -/
theorem run_copy_many (w : World) (dT sT ty elem : TypeId) (b o dLen dCap s k : Nat) (a : Addr) (sLen sCap : Nat) (cs : List Value)
    (hu : P.underlying dT = some (.slice elem)) (hs : (P.info? elem).map (·.size) = some s) (hk : k = Nat.min sLen dLen) (hn : cs.length = k * s)
    (hsrc : ∀ j v, cs[j]? = some v → w.cell? (a.add j) = some v) (hc : ∀ j, j < cs.length → (w.cell? ⟨b, o + j, none⟩).isSome = true) (hf : ∀ j, j < cs.length → w.frozen? ⟨b, o + j, none⟩ = false) (h1 : ∀ v ∈ cs, v.oneCell' = true) :
    (Builtin.copy_ #[dT, sT] ty #[.slice (some ⟨b, o, none⟩) dLen dCap, .slice (some a) sLen sCap]).run P w = .ok (goInt k) (w.setCells b o cs) := by
  have hl := run_loadCells_list (P := P) w a cs hsrc
  have hst := run_storeCells_cells (P := P) b o cs 0 w (by simpa using hc) (by simpa using hf) h1
  cases hq : P.info? elem with
  | none => simp [hq] at hs
  | some i =>
    have hi : i.size = s := by simpa [hq] using hs
    rw [hn] at hl
    simp [Builtin.copy_, run_underlying hu, Builtin.lenOf, Builtin.firstCells, sizeOf, typeInfo, hq, hi, ← hk, hl, hst]
theorem wp_copy_run (w : World) {o : Oper} {a : Act} {K : Act → World → Prop} {Q : Exit → Act → World → Prop} (d s : Operand) (t t' : TypeId)
    (ho : o.op = .call { callee := .builtin .copy, args := #[d, s], argTypes := #[t, t'] }) (v u : Value) (hd : a.eval d = v) (hs : a.eval s = u) {v' : Value} {w' : World}
    (hr : (Builtin.copy_ #[t, t'] o.type #[v, u]).run P w = .ok v' w') (h : K (a.put o.dst v') w') : o.wp P a w K Q := by
  unfold Oper.wp execOp
  simp only [ho, resolve, invoke, builtin, Sem.run_bind, Sem.run_pure, Result.andThen_ok, List.map_toArray, List.map_cons, List.map_nil, hd, hs, hr]
  exact h
theorem wpList_copy_run (w : World) {ops : Array Oper} {rest : List Oper} {o : Oper} {a : Act} {Q : Exit → Act → World → Prop} (hgd : o.guard = none) (d s : Operand) (t t' : TypeId)
    (ho : o.op = .call { callee := .builtin .copy, args := #[d, s], argTypes := #[t, t'] }) (v u : Value) (hd : a.eval d = v) (hs : a.eval s = u) {v' : Value} {w' : World}
    (hr : (Builtin.copy_ #[t, t'] o.type #[v, u]).run P w = .ok v' w') (h : wpList P ops Q rest (a.put o.dst v') w') : wpList P ops Q (o :: rest) a w :=
  wpList_plain hgd fun _ hK => wp_copy_run w d s t t' ho v u hd hs hr (hK _ _ h)
theorem step_copy_run {ops : Array Oper} {o : Oper} {a : Act} {w : World} {K : Act → World → Prop} {Q : Exit → Act → World → Prop} {E : Prop}
    (hg : o.guard = none) (d x : Operand) (dT sT : TypeId) (hop : o.op = Op.call { callee := Callee.builtin Builtin.copy, args := #[d, x], argTypes := #[dT, sT] })
    (v u : Value) (hd : a.eval d = v) (hx : a.eval x = u) {v' : Value} {w' : World} (hr : (Builtin.copy_ #[dT, sT] o.type #[v, u]).run P w = .ok v' w') (hK : K (a.put o.dst v') w') :
    if Region.wanted o (yielded ops a.tmps) = true then Oper.wp P o a w K Q else E := by
  have hw : Region.wanted o (yielded ops a.tmps) = true := by simp [Region.wanted, hg]
  rw [if_pos hw]
  exact wp_copy_run w d x dT sT hop v u hd hx hr hK
/-- clear, of elements of several cells -/
theorem run_clear_many (w : World) (t e ty : TypeId) (z : Value) (ht : P.underlying t = some (.slice e)) (hv : ∀ w, (zeroValue e).run P w = .ok z w) (zs : List Value) (b o n c : Nat) (hn : 0 < n) (hz : (Builtin.zeroCells z.cells n).toList = zs) (h1 : ∀ v ∈ zs, v.oneCell' = true)
    (hc : ∀ j, j < zs.length → (w.cell? ⟨b, o + j, none⟩).isSome = true) (hf : ∀ j, j < zs.length → w.frozen? ⟨b, o + j, none⟩ = false) :
    (Builtin.clear_ #[t] ty #[.slice (some ⟨b, o, none⟩) n c]).run P w = .ok (.tuple #[]) (w.setCells b o zs) := by
  have hst := run_storeCells_cells (P := P) b o zs 0 w (by simpa using hc) (by simpa using hf) h1
  simp only [Nat.add_zero] at hst
  obtain ⟨m, rfl⟩ : ∃ m, n = m + 1 := ⟨n - 1, by omega⟩
  simp [Builtin.clear_, run_underlying ht, hv, hz, hst]
end

/-- the call's own row, after Insert, Delete -/
structure Turned (w : World) (v : Value) (b : Nat) (e : TypeId) (n : Nat) (xs : List Value) (r : Ending) (w' : World) : Prop where
  out : ∃ A c, r = .returned (.slice A n c) ∧ w'.ownsRow b e 2 (.slice A n c) n xs ∧ (∀ k, (Value.slice A n c).ownBlock = some k → v.ownBlock = some k ∨ w.heap.size ≤ k)
  grown : w.grownBy w' v.ownBlock

end Go.Proofs.YtkbgpmgnkegipaaDoor
