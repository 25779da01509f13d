/-
  Several texts as one.
-/
import Derived.Test.YtniilfcbiliegaaZEp
import Derived.Test.YtniilfcbiliegaaZLe
import Derived.WalkSpells
import Derived.WalkLawsBesides
import Derived.RegionTactic
import Derived.Deep.QuietTactic
import Derived.BigQuiet
import Derived.Lib.Hide
import Derived.Maps.AppendAt
import Derived.Deep.AppendLies
import Derived.Deep.OwnRows
import Derived.OwnWalk
import Derived.IntWalk
import Derived.Lib.SmallJoins
import Derived.Laws.IdiomCopy
import Derived.Lib.SliceRun
import Derived.Lib.Overlaps
import Derived.Lib.AppendZerosOnto
import Derived.Laws.NewBlocks
import Derived.Deep.RegionLaw
/-
  Rows of whatever elements, as lists. No statement is proved here.
-/
namespace Go.Proofs.Ytniilfcbiliegaa
open Go.RowKit



section
variable {P : Program} (w : World)

set_option maxRecDepth 100000 in
theorem step_append_any {ops : Array Oper} {o : Oper} {a : Act} {K : Act → World → Prop} {Q : Exit → Act → World → Prop} {E : Prop} (hgd : o.guard = none) (s x : Operand) (t : TypeId)
    (ho : o.op = .call { callee := .builtin .append, args := #[s, x], argTypes := #[t, t] })
    (base : Nat) (e : TypeId) (i : TypeInfo) (z : Value) (size bytes : Nat) (ht : P.underlying t = some (.slice e)) (hi : P.info? e = some i) (hz : i.zero = some z)
    (hsize : i.size = size) (hby : i.bytes = bytes) (hzs : z.cells.size = size) (hsz : 0 < size)
    (v : Value) (n : Nat) (xs : List Value) (hs : a.eval s = v) (hown : w.ownsRow base e size v n xs)
    (B : Nat) (A : Option Addr) (m c : Nat) (news : List Value) (hx : a.eval x = .slice A m c) (hr : Reads w B size A m news) (h1 : ∀ u ∈ news, u.oneCell' = true)
    (h63 : n + m ≤ maxLen) (hbytes : (n + m) * bytes ≤ 140737488355328) (hbase : base ≤ w.heap.size)
    (h : ∀ v' w', w'.ownsRow base e size v' (n + m) (xs ++ news) → w.grownBy w' v.ownBlock → (v'.ownBlock = v.ownBlock ∨ v'.ownBlock = some w.heap.size) → K (a.put o.dst v') w') :
    if Region.wanted o (yielded ops a.tmps) = true then Oper.wp P o a w K Q else E := by
  have hw : Region.wanted o (yielded ops a.tmps) = true := by simp [Region.wanted, hgd]
  rw [if_pos hw]
  exact wp_append_any w s x t ho base e i z size bytes ht hi hz hsize hby hzs hsz v n xs hs hown B A m c news hx hr h1 h63 hbytes hbase h
end



/-! ### elements of several cells -/
section
variable {α : Type} (enc : α → List Value)
def flat (l : List α) : List Value := l.flatMap enc
set_option maxRecDepth 100000 in
theorem flat_cons (a : α) (l : List α) : flat enc (a :: l) = enc a ++ flat enc l := rfl
set_option maxRecDepth 100000 in
theorem flat_append (a b : List α) : flat enc (a ++ b) = flat enc a ++ flat enc b := by simp [flat]
set_option maxRecDepth 100000 in
theorem flat_one (a : α) : flat enc [a] = enc a := by simp [flat]
set_option maxRecDepth 100000 in
theorem length_flat {size : Nat} (h : ∀ a, (enc a).length = size) (l : List α) : (flat enc l).length = l.length * size := by
  induction l with
  | nil => simp [flat]
  | cons a l ih => rw [flat_cons, List.length_append, ih, h, List.length_cons, Nat.add_mul, Nat.one_mul, Nat.add_comm]
set_option maxRecDepth 100000 in
theorem flat_step {l : List α} {k : Nat} {a : α} (h : l[k]? = some a) : flat enc (l.take (k + 1)) = flat enc (l.take k) ++ enc a := by
  rw [List.take_add_one, h, flat_append]
  exact congrArg _ (flat_one enc a)
set_option maxRecDepth 100000 in
theorem flat_at {size : Nat} (hs : ∀ a, (enc a).length = size) {l : List α} {k : Nat} {a : α} (h : l[k]? = some a) (j : Nat) (hj : j < size) : (flat enc l)[k * size + j]? = (enc a)[j]? := by
  induction l generalizing k with
  | nil => simp at h
  | cons b l ih =>
    rw [flat_cons]
    cases k with
    | zero =>
      simp only [List.getElem?_cons_zero, Option.some.injEq] at h
      subst h
      rw [Nat.zero_mul, Nat.zero_add, List.getElem?_append_left (by rw [hs]; exact hj)]
    | succ k =>
      have h' : l[k]? = some a := by simpa using h
      rw [List.getElem?_append_right (by rw [hs, Nat.add_mul]; omega), hs, show (k + 1) * size + j - size = k * size + j by rw [Nat.add_mul]; omega]
      exact ih h'
set_option maxRecDepth 100000 in
theorem flat_all {P : Value → Prop} (h : ∀ a, ∀ u ∈ enc a, P u) (l : List α) : ∀ u ∈ flat enc l, P u := by
  intro u hu
  unfold flat at hu
  obtain ⟨a, _, ha⟩ := List.mem_flatMap.1 hu
  exact h a u ha
set_option maxRecDepth 100000 in
theorem Reads.elem {size : Nat} (hs : ∀ a, (enc a).length = size) {w : World} {B n : Nat} {A : Option Addr} {l : List α} (h : Reads w B size A n (flat enc l)) {k : Nat} {a : α} (hk : l[k]? = some a) (h0 : 0 < size) :
    ∃ ad, A = some ad ∧ ad.block < B ∧ ∀ j u, (enc a)[j]? = some u → w.cell? (ad.add (k * size + j)) = some u := by
  have hl := h.1
  rw [length_flat enc hs] at hl
  have hkl := (List.getElem?_eq_some_iff.1 hk).1
  have hn : l.length = n := Nat.eq_of_mul_eq_mul_right h0 hl
  obtain ⟨ad, e, hb, hc⟩ := h.2 (by omega)
  refine ⟨ad, e, hb, fun j u hu => hc _ u ?_⟩
  have hj := (List.getElem?_eq_some_iff.1 hu).1
  rw [hs] at hj
  rw [flat_at enc hs hk j hj]
  exact hu
end
set_option maxRecDepth 100000 in
theorem elem_at {α : Type} {l : List α} {k : Nat} (hk : k < l.length) : ∃ a, l[k]? = some a := ⟨_, List.getElem?_eq_getElem hk⟩
set_option maxRecDepth 100000 in
theorem own_reads {w : World} {base n size : Nat} {e : TypeId} {v : Value} {xs : List Value} (h : w.ownsRow base e size v n xs) : ∃ A c, v = .slice A n c ∧ n ≤ c ∧ Reads w w.heap.size size A n xs := by
  obtain ⟨A, c, rfl, hc⟩ : ∃ A c, v = .slice A n c ∧ n ≤ c := by
    rcases h.2 with ⟨rfl, h0⟩ | ⟨g, cap, cur, rfl, _, _, hc, _⟩
    · exact ⟨none, 0, by rw [h0], by omega⟩
    · exact ⟨_, _, rfl, hc⟩
  exact ⟨A, c, rfl, hc, Reads.of_own h⟩
set_option maxRecDepth 100000 in
theorem below_drewN {B : Nat} {a w : World} (h : Below B a w) (n : Nat) : Below B a (w.drewN n) := ⟨h.os, h.tape, h.output, h.size, h.block⟩

/-- numbers as values -/
def vs (l : List Int) : List Value := l.map fun i => .int .i64 i
set_option maxRecDepth 100000 in
theorem length_vs (l : List Int) : (vs l).length = l.length := by simp [vs]
set_option maxRecDepth 100000 in
theorem vs_append (a b : List Int) : vs (a ++ b) = vs a ++ vs b := by simp [vs]
set_option maxRecDepth 100000 in
theorem vs_one (a : Int) : vs [a] = [.int .i64 a] := rfl
set_option maxRecDepth 100000 in
theorem vs_at {l : List Int} {k : Nat} {v : Value} (h : (vs l)[k]? = some v) : ∃ x, l[k]? = some x ∧ v = .int .i64 x := by
  unfold vs at h
  rw [List.getElem?_map] at h
  cases hl : l[k]? with
  | none => rw [hl] at h; cases h
  | some x => rw [hl] at h; injection h with h; exact ⟨x, rfl, h.symm⟩

set_option maxRecDepth 100000 in
theorem vs_ones (l : List Int) : ∀ u ∈ vs l, u.oneCell' = true := by
  intro u hu
  unfold vs at hu
  obtain ⟨x, _, rfl⟩ := List.mem_map.1 hu
  rfl
set_option maxRecDepth 100000 in
theorem int_info : (Try.prog.info? 3).map (fun i => (i.zero, i.size, i.bytes)) = some (some (.int .i64 0), 1, 8) := by kernel_rfl
/-- a call only draws -/
def Draws (v : Value) (w : World) (e : Ending) (w' : World) : Prop := e = .returned v ∧ ∃ m, w' = w.drewN m
set_option maxRecDepth 100000 in
theorem Draws.below {v : Value} {w w' : World} {e : Ending} (h : Draws v w e w') (B : Nat) : Below B w w' := by
  obtain ⟨_, m, rfl⟩ := h
  exact below_drewN (Below.refl _ _) m
set_option maxRecDepth 100000 in
theorem Blk.grown {w w' : World} {g : Nat} {t : TypeId} {cs : Array Value} {row : Option Nat} (h : Blk w g t cs) (hb : w.grownBy w' row) (hg : some g ≠ row) : Blk w' g t cs := (hb.block g h.lt hg).trans h

/-! ### seats -/
end Go.Proofs.Ytniilfcbiliegaa
/-
  Rows by rising numbers: plain mathematics. No statement is proved here.
-/
namespace Go.Proofs.Ytniilfcbiliegaa
open Go.RowKit

section
variable {β : Type}
/-- by rising numbers -/
def Rise (l : List (Int × β)) : Prop := l.Pairwise (fun a b => a.1 < b.1)
/-- the row of a number -/
def kf (l : List (Int × β)) (id : Int) : Option (Int × β) := l.find? fun d => d.1 == id
/-- how many have a lower number -/
def low (l : List (Int × β)) (id : Int) : Nat := l.countP fun x => decide (x.1 < id)
set_option maxRecDepth 100000 in
theorem rise_cons {a : Int × β} {l : List (Int × β)} : Rise (a :: l) ↔ (∀ y ∈ l, a.1 < y.1) ∧ Rise l := List.pairwise_cons
set_option maxRecDepth 100000 in
theorem kf_some {l : List (Int × β)} {id : Int} {x : Int × β} (h : kf l id = some x) : x ∈ l ∧ x.1 = id := by
  unfold kf at h
  refine ⟨List.mem_of_find?_eq_some h, ?_⟩
  have := List.find?_some h
  simpa using this
set_option maxRecDepth 100000 in
theorem kf_cons (a : Int × β) (l : List (Int × β)) (id : Int) : kf (a :: l) id = if a.1 = id then some a else kf l id := by
  unfold kf
  rw [List.find?_cons]
  by_cases h : a.1 = id
  · rw [if_pos h, show (a.1 == id) = true from by simpa using h]
  · rw [if_neg h, show (a.1 == id) = false from by simpa using h]
set_option maxRecDepth 100000 in
theorem kf_mem {l : List (Int × β)} (hR : Rise l) {x : Int × β} (h : x ∈ l) : kf l x.1 = some x := by
  induction l with
  | nil => cases h
  | cons a l ih =>
    obtain ⟨h1, h2⟩ := rise_cons.1 hR
    rw [kf_cons]
    rcases List.mem_cons.1 h with e | e
    · subst e; rw [if_pos rfl]
    · have := h1 x e
      rw [if_neg (by omega)]
      exact ih h2 e
set_option maxRecDepth 100000 in
theorem kf_iff {l : List (Int × β)} (hR : Rise l) {id : Int} {x : Int × β} : kf l id = some x ↔ x ∈ l ∧ x.1 = id :=
  ⟨kf_some, fun h => h.2 ▸ kf_mem hR h.1⟩
set_option maxRecDepth 100000 in
theorem kf_none {l : List (Int × β)} {id : Int} : kf l id = none ↔ ∀ y ∈ l, y.1 ≠ id := by
  unfold kf
  simp [List.find?_eq_none]
set_option maxRecDepth 100000 in
theorem rise_ext {l m : List (Int × β)} (hl : Rise l) (hm : Rise m) (h : ∀ y, y ∈ l ↔ y ∈ m) : l = m := by
  induction l generalizing m with
  | nil =>
    cases m with
    | nil => rfl
    | cons b m => have := (h b).2 (by simp); cases this
  | cons a l ih =>
    cases m with
    | nil => have := (h a).1 (by simp); cases this
    | cons b m =>
      obtain ⟨l1, l2⟩ := rise_cons.1 hl
      obtain ⟨m1, m2⟩ := rise_cons.1 hm
      have hab : a = b := by
        rcases List.mem_cons.1 ((h a).1 (by simp)) with e | e
        · exact e
        · rcases List.mem_cons.1 ((h b).2 (by simp)) with e2 | e2
          · exact e2.symm
          · have := m1 a e
            have := l1 b e2
            omega
      subst hab
      rw [ih l2 m2 (fun y => ?_)]
      constructor
      · intro hy
        rcases List.mem_cons.1 ((h y).1 (List.mem_cons_of_mem _ hy)) with e | e
        · subst e; have := l1 y hy; omega
        · exact e
      · intro hy
        rcases List.mem_cons.1 ((h y).2 (List.mem_cons_of_mem _ hy)) with e | e
        · subst e; have := m1 y hy; omega
        · exact e
set_option maxRecDepth 100000 in
theorem low_le (l : List (Int × β)) (id : Int) : low l id ≤ l.length := List.countP_le_length
set_option maxRecDepth 100000 in
theorem low_up {a : Int × β} {l : List (Int × β)} {id : Int} (h : a.1 < id) : low (a :: l) id = low l id + 1 := by
  unfold low
  rw [List.countP_cons, if_pos (by simpa using h)]
set_option maxRecDepth 100000 in
theorem low_zero {l : List (Int × β)} {id : Int} (h : ∀ y ∈ l, id ≤ y.1) : low l id = 0 := by
  unfold low
  rw [List.countP_eq_zero]
  intro y hy
  have := h y hy
  simp; omega
set_option maxRecDepth 100000 in
theorem low_stop {a : Int × β} {l : List (Int × β)} {id : Int} (hR : Rise (a :: l)) (h : ¬ a.1 < id) : low (a :: l) id = 0 := by
  refine low_zero fun y hy => ?_
  rcases List.mem_cons.1 hy with e | e
  · subst e; omega
  · have := (rise_cons.1 hR).1 y e; omega
set_option maxRecDepth 100000 in
theorem low_lt {l : List (Int × β)} (hR : Rise l) {id : Int} {k : Nat} {x : Int × β} (hx : l[k]? = some x) : x.1 < id ↔ k < low l id := by
  induction l generalizing k with
  | nil => simp at hx
  | cons a l ih =>
    obtain ⟨h1, h2⟩ := rise_cons.1 hR
    by_cases ha : a.1 < id
    · rw [low_up ha]
      cases k with
      | zero => simp at hx; subst hx; constructor <;> intro _ <;> omega
      | succ k =>
        have := ih h2 (k := k) (by simpa using hx)
        constructor
        · intro h; have := this.1 h; omega
        · intro h; exact this.2 (by omega)
    · rw [low_stop hR ha]
      constructor
      · intro h
        cases k with
        | zero => simp at hx; subst hx; exact absurd h ha
        | succ k =>
          have hm : x ∈ l := List.mem_of_getElem? (show l[k]? = some x by simpa using hx)
          have := h1 x hm
          omega
      · intro h; omega
set_option maxRecDepth 100000 in
/-- what stands at the place of a number -/
theorem low_at {l : List (Int × β)} (hR : Rise l) {id : Int} {x : Int × β} (h : kf l id = some x) : l[low l id]? = some x := by
  induction l with
  | nil => simp [kf] at h
  | cons a l ih =>
    obtain ⟨h1, h2⟩ := rise_cons.1 hR
    rw [kf_cons] at h
    by_cases he : a.1 = id
    · rw [if_pos he] at h
      rw [low_stop hR (by omega)]
      simpa using h
    · rw [if_neg he] at h
      have hx := kf_some h
      have := h1 x hx.1
      rw [low_up (by omega)]
      simpa using ih h2 h
set_option maxRecDepth 100000 in
theorem low_eq {l : List (Int × β)} (hR : Rise l) {id : Int} {x : Int × β} (h : l[low l id]? = some x) (he : x.1 = id) : kf l id = some x := he ▸ kf_mem hR (List.mem_of_getElem? h)
set_option maxRecDepth 100000 in
theorem low_none {l : List (Int × β)} (hR : Rise l) {id : Int} (h : ∀ x, l[low l id]? = some x → x.1 ≠ id) : kf l id = none := by
  cases hk : kf l id with
  | none => rfl
  | some x => exact absurd (kf_some hk).2 (h x (low_at hR hk))
set_option maxRecDepth 100000 in
/-- any place with the property is the place -/
theorem low_unique {l : List (Int × β)} (hR : Rise l) {id : Int} {j : Nat} (hj : j ≤ l.length) (hlo : ∀ k x, k < j → l[k]? = some x → x.1 < id) (hhi : ∀ k x, j ≤ k → l[k]? = some x → id ≤ x.1) : low l id = j := by
  have h1 := low_le l id
  rcases Nat.lt_trichotomy (low l id) j with h | h | h
  · have hx : l[low l id]? = some (l[low l id]'(by omega)) := List.getElem?_eq_getElem (by omega)
    have := (low_lt hR hx).1 (hlo _ _ h hx)
    omega
  · exact h
  · have hx : l[j]? = some (l[j]'(by omega)) := List.getElem?_eq_getElem (by omega)
    have := (low_lt hR hx).2 h
    have := hhi _ _ (Nat.le_refl _) hx
    omega

/-! ### one more, another, one less -/
def insK (l : List (Int × β)) (x : Int × β) : List (Int × β) := l.take (low l x.1) ++ x :: l.drop (low l x.1)
def setK (l : List (Int × β)) (x : Int × β) : List (Int × β) := l.set (low l x.1) x
def delK (l : List (Int × β)) (id : Int) : List (Int × β) := l.eraseIdx (low l id)
set_option maxRecDepth 100000 in
theorem insK_up {a x : Int × β} {l : List (Int × β)} (h : a.1 < x.1) : insK (a :: l) x = a :: insK l x := by unfold insK; rw [low_up h]; rfl
set_option maxRecDepth 100000 in
theorem insK_stop {a x : Int × β} {l : List (Int × β)} (hR : Rise (a :: l)) (h : ¬ a.1 < x.1) : insK (a :: l) x = x :: a :: l := by unfold insK; rw [low_stop hR h]; rfl
set_option maxRecDepth 100000 in
theorem mem_ins {l : List (Int × β)} {x y : Int × β} : y ∈ insK l x ↔ y = x ∨ y ∈ l := by
  unfold insK
  rw [List.mem_append, List.mem_cons]
  constructor
  · rintro (h | h | h)
    · exact .inr (List.mem_of_mem_take h)
    · exact .inl h
    · exact .inr (List.mem_of_mem_drop h)
  · rintro (h | h)
    · exact .inr (.inl h)
    · rw [← List.take_append_drop (low l x.1) l, List.mem_append] at h
      rcases h with h | h
      · exact .inl h
      · exact .inr (.inr h)
set_option maxRecDepth 100000 in
theorem rise_ins {l : List (Int × β)} (hR : Rise l) {x : Int × β} (h : kf l x.1 = none) : Rise (insK l x) := by
  induction l with
  | nil => exact rise_cons.2 ⟨fun _ h => by simp at h, List.Pairwise.nil⟩
  | cons a l ih =>
    obtain ⟨h1, h2⟩ := rise_cons.1 hR
    rw [kf_cons] at h
    by_cases he : a.1 = x.1
    · rw [if_pos he] at h; cases h
    · rw [if_neg he] at h
      by_cases ha : a.1 < x.1
      · rw [insK_up ha]
        refine rise_cons.2 ⟨fun y hy => ?_, ih h2 h⟩
        rcases mem_ins.1 hy with e | e
        · subst e; exact ha
        · exact h1 y e
      · rw [insK_stop hR ha]
        refine rise_cons.2 ⟨fun y hy => ?_, hR⟩
        rcases List.mem_cons.1 hy with e | e
        · subst e; omega
        · have := h1 y e; omega
set_option maxRecDepth 100000 in
theorem len_ins (l : List (Int × β)) (x : Int × β) : (insK l x).length = l.length + 1 := by
  have := low_le l x.1
  unfold insK
  simp; omega
set_option maxRecDepth 100000 in
theorem setK_eq {l : List (Int × β)} (hR : Rise l) {x y : Int × β} (h : kf l x.1 = some y) : setK l x = l.map fun z => if z.1 = x.1 then x else z := by
  induction l with
  | nil => simp [kf] at h
  | cons a l ih =>
    obtain ⟨h1, h2⟩ := rise_cons.1 hR
    rw [kf_cons] at h
    by_cases he : a.1 = x.1
    · unfold setK
      rw [low_stop hR (by omega), List.map_cons, if_pos he]
      show x :: l = _
      congr 1
      have : l.map (fun z => if z.1 = x.1 then x else z) = l.map id := List.map_congr_left fun z hz => by
        have := h1 z hz
        rw [if_neg (by omega)]; rfl
      rw [this, List.map_id]
    · rw [if_neg he] at h
      have hy := kf_some h
      have := h1 y hy.1
      have ih2 := ih h2 h
      unfold setK at ih2 ⊢
      rw [low_up (by omega), List.map_cons, if_neg he, List.set_cons_succ, ih2]
set_option maxRecDepth 100000 in
theorem delK_eq {l : List (Int × β)} (hR : Rise l) {id : Int} {y : Int × β} (h : kf l id = some y) : delK l id = l.filter fun z => z.1 != id := by
  induction l with
  | nil => simp [kf] at h
  | cons a l ih =>
    obtain ⟨h1, h2⟩ := rise_cons.1 hR
    rw [kf_cons] at h
    by_cases he : a.1 = id
    · unfold delK
      rw [low_stop hR (by omega), List.filter_cons, if_neg (by simp [he])]
      show l = _
      exact (List.filter_eq_self.2 fun z hz => by
        have := h1 z hz
        simp; omega).symm
    · rw [if_neg he] at h
      have hy := kf_some h
      have := h1 y hy.1
      have ih2 := ih h2 h
      unfold delK at ih2 ⊢
      rw [low_up (by omega), List.filter_cons, if_pos (by simp [he]), List.eraseIdx_cons_succ, ih2]
set_option maxRecDepth 100000 in
theorem mem_set {l : List (Int × β)} (hR : Rise l) {x y z : Int × β} (h : kf l x.1 = some y) : z ∈ setK l x ↔ z = x ∨ (z ∈ l ∧ z.1 ≠ x.1) := by
  rw [setK_eq hR h, List.mem_map]
  constructor
  · rintro ⟨a, ha, rfl⟩
    by_cases he : a.1 = x.1
    · rw [if_pos he]; exact .inl rfl
    · rw [if_neg he]; exact .inr ⟨ha, he⟩
  · rintro (rfl | ⟨h1, h2⟩)
    · exact ⟨y, (kf_some h).1, if_pos (kf_some h).2⟩
    · exact ⟨z, h1, if_neg h2⟩
set_option maxRecDepth 100000 in
theorem rise_set {l : List (Int × β)} (hR : Rise l) {x y : Int × β} (h : kf l x.1 = some y) : Rise (setK l x) := by
  rw [setK_eq hR h]
  unfold Rise
  rw [List.pairwise_map]
  refine List.Pairwise.imp (fun {a b} hab => ?_) hR
  have e : ∀ z : Int × β, (if z.1 = x.1 then x else z).1 = z.1 := fun z => by
    by_cases hz : z.1 = x.1
    · rw [if_pos hz]; exact hz.symm
    · rw [if_neg hz]
  rw [e, e]
  exact hab
set_option maxRecDepth 100000 in
theorem mem_del {l : List (Int × β)} (hR : Rise l) {id : Int} {y z : Int × β} (h : kf l id = some y) : z ∈ delK l id ↔ z ∈ l ∧ z.1 ≠ id := by
  rw [delK_eq hR h, List.mem_filter]
  simp
set_option maxRecDepth 100000 in
theorem rise_del {l : List (Int × β)} (hR : Rise l) (id : Int) : Rise (delK l id) := List.Pairwise.sublist (List.eraseIdx_sublist _ _) hR
set_option maxRecDepth 100000 in
theorem len_set (l : List (Int × β)) (x : Int × β) : (setK l x).length = l.length := List.length_set
set_option maxRecDepth 100000 in
theorem len_del {l : List (Int × β)} (hR : Rise l) {id : Int} {y : Int × β} (h : kf l id = some y) : (delK l id).length + 1 = l.length := by
  have := (List.getElem?_eq_some_iff.1 (low_at hR h)).1
  unfold delK
  rw [List.length_eraseIdx, if_pos this]
  omega
set_option maxRecDepth 100000 in
theorem kf_ins {l : List (Int × β)} (hR : Rise l) {x : Int × β} (h : kf l x.1 = none) (id : Int) : kf (insK l x) id = if id = x.1 then some x else kf l id := by
  by_cases he : id = x.1
  · rw [if_pos he, kf_iff (rise_ins hR h)]
    exact ⟨mem_ins.2 (.inl rfl), he.symm⟩
  · rw [if_neg he]
    cases hk : kf l id with
    | some y => rw [kf_iff (rise_ins hR h)]; exact ⟨mem_ins.2 (.inr (kf_some hk).1), (kf_some hk).2⟩
    | none =>
      rw [kf_none] at hk ⊢
      intro y hy
      rcases mem_ins.1 hy with e | e
      · subst e; exact fun h => he h.symm
      · exact hk y e
set_option maxRecDepth 100000 in
theorem kf_set {l : List (Int × β)} (hR : Rise l) {x y : Int × β} (h : kf l x.1 = some y) (id : Int) : kf (setK l x) id = if id = x.1 then some x else kf l id := by
  by_cases he : id = x.1
  · rw [if_pos he, kf_iff (rise_set hR h)]
    exact ⟨(mem_set hR h).2 (.inl rfl), he.symm⟩
  · rw [if_neg he]
    cases hk : kf l id with
    | some z => rw [kf_iff (rise_set hR h)]; exact ⟨(mem_set hR h).2 (.inr ⟨(kf_some hk).1, by rw [(kf_some hk).2]; exact he⟩), (kf_some hk).2⟩
    | none =>
      rw [kf_none] at hk ⊢
      intro z hz
      rcases (mem_set hR h).1 hz with e | e
      · subst e; exact fun h => he h.symm
      · exact hk z e.1
set_option maxRecDepth 100000 in
theorem kf_del {l : List (Int × β)} (hR : Rise l) {i : Int} {y : Int × β} (h : kf l i = some y) (id : Int) : kf (delK l i) id = if id = i then none else kf l id := by
  by_cases he : id = i
  · rw [if_pos he, kf_none]
    intro z hz
    have := ((mem_del hR h).1 hz).2
    omega
  · rw [if_neg he]
    cases hk : kf l id with
    | some z => rw [kf_iff (rise_del hR i)]; exact ⟨(mem_del hR h).2 ⟨(kf_some hk).1, by rw [(kf_some hk).2]; exact he⟩, (kf_some hk).2⟩
    | none =>
      rw [kf_none] at hk ⊢
      intro z hz
      exact hk z ((mem_del hR h).1 hz).1
set_option maxRecDepth 100000 in
/-- and back -/
theorem del_ins {l : List (Int × β)} (hR : Rise l) {x : Int × β} (h : kf l x.1 = none) : delK (insK l x) x.1 = l := by
  have hk : kf (insK l x) x.1 = some x := by rw [kf_ins hR h, if_pos rfl]
  refine rise_ext (rise_del (rise_ins hR h) _) hR fun y => ?_
  rw [mem_del (rise_ins hR h) hk, mem_ins]
  constructor
  · rintro ⟨rfl | h1, h2⟩
    · exact absurd rfl h2
    · exact h1
  · exact fun h1 => ⟨.inr h1, kf_none.1 h y h1⟩
set_option maxRecDepth 100000 in
theorem ins_del {l : List (Int × β)} (hR : Rise l) {x : Int × β} (h : kf l x.1 = some x) : insK (delK l x.1) x = l := by
  have hk : kf (delK l x.1) x.1 = none := by rw [kf_del hR h, if_pos rfl]
  refine rise_ext (rise_ins (rise_del hR _) hk) hR fun y => ?_
  rw [mem_ins, mem_del hR h]
  constructor
  · rintro (rfl | h1)
    · exact (kf_some h).1
    · exact h1.1
  · intro h1
    by_cases he : y.1 = x.1
    · left
      have := kf_mem hR h1
      rw [he, h] at this
      exact (Option.some.inj this).symm
    · exact .inr ⟨h1, he⟩
set_option maxRecDepth 100000 in
theorem set_set {l : List (Int × β)} (hR : Rise l) {x y : Int × β} (h : kf l x.1 = some y) : setK (setK l x) y = l := by
  have e : y.1 = x.1 := (kf_some h).2
  have hk : kf (setK l x) y.1 = some x := by rw [kf_set hR h, if_pos e]
  refine rise_ext (rise_set (rise_set hR h) hk) hR fun z => ?_
  rw [mem_set (rise_set hR h) hk, mem_set hR h]
  constructor
  · rintro (rfl | ⟨rfl | h1, h2⟩)
    · exact (kf_some h).1
    · exact absurd e.symm h2
    · exact h1.1
  · intro h1
    by_cases he : z.1 = x.1
    · left
      have := kf_mem hR h1
      rw [he, h] at this
      exact (Option.some.inj this).symm
    · exact .inr ⟨.inr ⟨h1, he⟩, by omega⟩

/-! ### made by numbers -/
def mk (f : Int → Option (Int × β)) : Nat → List (Int × β)
  | 0 => []
  | k + 1 => mk f k ++ (f ((k + 1 : Nat) : Int)).toList
set_option maxRecDepth 100000 in
theorem mem_mk {f : Int → Option (Int × β)} {k : Nat} {y : Int × β} : y ∈ mk f k ↔ ∃ s : Nat, 1 ≤ s ∧ s ≤ k ∧ f (s : Int) = some y := by
  induction k with
  | zero => constructor
            · intro h; cases h
            · rintro ⟨s, h1, h2, _⟩; omega
  | succ k ih =>
    unfold mk
    rw [List.mem_append, ih, Option.mem_toList]
    constructor
    · rintro (⟨s, h1, h2, h3⟩ | h)
      · exact ⟨s, h1, by omega, h3⟩
      · exact ⟨k + 1, by omega, by omega, h⟩
    · rintro ⟨s, h1, h2, h3⟩
      by_cases e : s = k + 1
      · subst e; exact .inr h3
      · exact .inl ⟨s, h1, by omega, h3⟩
set_option maxRecDepth 100000 in
theorem rise_mk {f : Int → Option (Int × β)} (hf : ∀ s y, f s = some y → y.1 = s) (k : Nat) : Rise (mk f k) := by
  induction k with
  | zero => exact List.Pairwise.nil
  | succ k ih =>
    unfold mk Rise
    rw [List.pairwise_append]
    refine ⟨ih, ?_, fun a ha b hb => ?_⟩
    · cases f ((k + 1 : Nat) : Int) with
      | none => exact List.Pairwise.nil
      | some y => exact List.pairwise_singleton _ _
    · obtain ⟨s, h1, h2, h3⟩ := mem_mk.1 ha
      rw [Option.mem_toList] at hb
      have := hf _ _ h3
      have := hf _ _ hb
      omega
set_option maxRecDepth 100000 in
/-- rows whose numbers lie in it are what is made of them -/
theorem mk_eq {f : Int → Option (Int × β)} {l : List (Int × β)} {k : Nat} (hR : Rise l) (hf : ∀ s y, f s = some y → y.1 = s) (hb : ∀ y ∈ l, 1 ≤ y.1 ∧ y.1 ≤ k) (h : ∀ s : Int, 1 ≤ s → s ≤ k → f s = kf l s) : mk f k = l := by
  refine rise_ext (rise_mk hf k) hR fun y => ?_
  rw [mem_mk]
  constructor
  · rintro ⟨s, h1, h2, h3⟩
    rw [h _ (by omega) (by omega)] at h3
    exact (kf_some h3).1
  · intro hy
    obtain ⟨h1, h2⟩ := hb y hy
    refine ⟨y.1.toNat, by omega, by omega, ?_⟩
    rw [h _ (by omega) (by omega), show ((y.1.toNat : Nat) : Int) = y.1 by omega]
    exact kf_mem hR hy

/-! ### do they rise? -/
def riseF (most last : Int) : List (Int × β) → Bool
  | [] => true
  | x :: r => decide (last < x.1) && decide (x.1 ≤ most) && riseF most x.1 r
set_option maxRecDepth 100000 in
theorem riseF_iff {most last : Int} {l : List (Int × β)} : riseF most last l = true ↔ Rise l ∧ ∀ x ∈ l, last < x.1 ∧ x.1 ≤ most := by
  induction l generalizing last with
  | nil => simp [riseF, Rise]
  | cons a l ih =>
    unfold riseF
    rw [Bool.and_eq_true, Bool.and_eq_true, decide_eq_true_eq, decide_eq_true_eq, ih, rise_cons]
    constructor
    · rintro ⟨⟨h1, h2⟩, h3, h4⟩
      refine ⟨⟨fun y hy => (h4 y hy).1, h3⟩, fun x hx => ?_⟩
      rcases List.mem_cons.1 hx with e | e
      · subst e; exact ⟨h1, h2⟩
      · have := h4 x e; exact ⟨by omega, this.2⟩
    · rintro ⟨⟨h1, h2⟩, h3⟩
      exact ⟨h3 a (by simp), h2, fun x hx => ⟨h1 x hx, (h3 x (by simp [hx])).2⟩⟩
set_option maxRecDepth 100000 in
theorem riseF_at {most last : Int} {l : List (Int × β)} {k : Nat} {x : Int × β} (h : l[k]? = some x) : riseF most last (l.drop k) = (decide (last < x.1) && decide (x.1 ≤ most) && riseF most x.1 (l.drop (k + 1))) := by
  have hk := (List.getElem?_eq_some_iff.1 h).1
  have e : l.drop k = x :: l.drop (k + 1) := by
    rw [List.drop_eq_getElem_cons hk]
    congr 1
    exact (List.getElem?_eq_some_iff.1 h).2
  rw [e]
  rfl
set_option maxRecDepth 100000 in
/-- few, when their numbers lie between -/
theorem rise_len {l : List (Int × β)} (hR : Rise l) {lo : Int} {m : Nat} (h : ∀ y ∈ l, lo < y.1 ∧ y.1 ≤ lo + m) : l.length ≤ m := by
  induction l generalizing lo m with
  | nil => simp
  | cons a l ih =>
    obtain ⟨h1, h2⟩ := rise_cons.1 hR
    have ha := h a (by simp)
    have : l.length ≤ (lo + m - a.1).toNat := ih h2 (lo := a.1) fun y hy => ⟨h1 y hy, by have := (h y (by simp [hy])).2; omega⟩
    rw [List.length_cons]
    omega
set_option maxRecDepth 100000 in
/-- neighbours that rise -/
theorem rise_step {l : List (Int × β)} (h : ∀ i x y, l[i]? = some x → l[i + 1]? = some y → x.1 < y.1) : Rise l := by
  induction l with
  | nil => exact List.Pairwise.nil
  | cons a l ih =>
    have h2 : Rise l := ih fun i x y hx hy => h (i + 1) x y (by simpa using hx) (by simpa using hy)
    refine rise_cons.2 ⟨fun y hy => ?_, h2⟩
    cases l with
    | nil => cases hy
    | cons b l =>
      have hab := h 0 a b (by simp) (by simp)
      rcases List.mem_cons.1 hy with e | e
      · subst e; exact hab
      · have := (rise_cons.1 h2).1 y e; omega
set_option maxRecDepth 100000 in
theorem rise_next {l : List (Int × β)} (hR : Rise l) {i : Nat} {x y : Int × β} (hx : l[i]? = some x) (hy : l[i + 1]? = some y) : x.1 < y.1 := by
  have h := List.pairwise_iff_getElem.1 hR
  obtain ⟨i1, rfl⟩ := List.getElem?_eq_some_iff.1 hx
  obtain ⟨i2, rfl⟩ := List.getElem?_eq_some_iff.1 hy
  exact h i (i + 1) i1 i2 (by omega)
end

end Go.Proofs.Ytniilfcbiliegaa
/-
  Cells of a row of one's own, written over; copies of elements of several cells. No statement is proved here.
-/
namespace Go.Proofs.Ytniilfcbiliegaa
open Go.RowKit

section
variable {α : Type} {enc : α → List Value}
set_option maxRecDepth 100000 in
theorem flat_take_ {s : Nat} (hs : ∀ a, (enc a).length = s) (l : List α) (k : Nat) : flat enc (l.take k) = (flat enc l).take (k * s) := by
  induction l generalizing k with
  | nil => simp [flat]
  | cons a l ih =>
    cases k with
    | zero => simp [flat]
    | succ k =>
      rw [List.take_succ_cons, flat_cons, flat_cons, ih, Nat.add_mul, Nat.one_mul, List.take_append, hs]
      rw [List.take_of_length_le (l := enc a) (by rw [hs]; omega), Nat.add_sub_cancel]
set_option maxRecDepth 100000 in
theorem flat_drop_ {s : Nat} (hs : ∀ a, (enc a).length = s) (l : List α) (k : Nat) : flat enc (l.drop k) = (flat enc l).drop (k * s) := by
  induction l generalizing k with
  | nil => simp [flat]
  | cons a l ih =>
    cases k with
    | zero => simp
    | succ k =>
      rw [List.drop_succ_cons, flat_cons, ih, Nat.add_mul, Nat.one_mul, List.drop_append, hs]
      rw [List.drop_of_length_le (l := enc a) (by rw [hs]; omega), Nat.add_sub_cancel, List.nil_append]
end

/-- a list with some of its elements written over, from o on -/
def setLV : List Value → Nat → List Value → List Value
  | l, _, [] => l
  | l, o, v :: r => setLV (l.set o v) (o + 1) r
set_option maxRecDepth 100000 in
theorem setLV_eq (vs : List Value) : ∀ (l : List Value) (o : Nat), o + vs.length ≤ l.length → setLV l o vs = l.take o ++ vs ++ l.drop (o + vs.length) := by
  induction vs with
  | nil => intro l o _; simp [setLV]
  | cons v r ih =>
    intro l o h
    rw [List.length_cons] at h
    unfold setLV
    rw [ih _ _ (by rw [List.length_set]; omega), List.length_cons]
    have h3 : (l.set o v).take (o + 1) = l.take o ++ [v] := by
      rw [List.take_add_one, List.getElem?_set_self (by omega), List.take_set_of_le (by omega)]
      rfl
    rw [h3, List.drop_set_of_lt (by omega), show o + 1 + r.length = o + (r.length + 1) by omega, List.append_assoc, List.append_assoc, List.append_assoc]
    rfl
set_option maxRecDepth 100000 in
theorem setLV_len (vs : List Value) : ∀ (l : List Value) (o : Nat), (setLV l o vs).length = l.length := by
  induction vs with
  | nil => intro l o; rfl
  | cons v r ih => intro l o; unfold setLV; rw [ih, List.length_set]
set_option maxRecDepth 100000 in
theorem Blk.cells {g : Nat} {t : TypeId} (vs : List Value) : ∀ (w : World) (cur : Array Value) (o : Nat), Blk w g t cur → Blk (w.setCells g o vs) g t (setLV cur.toList o vs).toArray := by
  induction vs with
  | nil => intro w cur o h; simpa [setLV, World.setCells] using h
  | cons v r ih =>
    intro w cur o h
    have h1 := ih _ _ (o + 1) (h.set_ o v)
    unfold setLV World.setCells
    rw [Array.toList_setIfInBounds] at h1
    exact h1
set_option maxRecDepth 100000 in
theorem grown_cells (g : Nat) (vs : List Value) : ∀ (w : World) (o : Nat), w.grownBy (w.setCells g o vs) (some g) := by
  induction vs with
  | nil => intro w o; exact World.grownBy.refl w _
  | cons v r ih =>
    intro w o
    have h := ih (w.setCell ⟨g, o, none⟩ v) (o + 1)
    refine ⟨h.os, h.tape, h.output, ?_, fun k hk hne => ?_⟩
    · have h1 := h.size
      have h2 : (w.setCell ⟨g, o, none⟩ v).heap.size = w.heap.size := by simp [World.setCell]
      rw [h2] at h1
      exact h1
    · rw [World.setCells, h.block k (by simpa [World.setCell] using hk) hne]
      exact Below.heap_setCell w _ v k (fun he => hne (by rw [he]))
set_option maxRecDepth 100000 in
theorem grown_drew {w w' : World} {row : Option Nat} (h : w.drew.grownBy w' row) : w.grownBy w' row := ⟨h.os, h.tape, h.output, h.size, h.block⟩
set_option maxRecDepth 100000 in
theorem grown_drew' {w w' : World} {row : Option Nat} (h : w.grownBy w' row) : w.grownBy w'.drew row := ⟨h.os, h.tape, h.output, h.size, h.block⟩
set_option maxRecDepth 100000 in
theorem grown_trans {w w1 w2 : World} {row : Option Nat} (h : w.grownBy w1 row) (h2 : w1.grownBy w2 row) : w.grownBy w2 row :=
  ⟨h2.os.trans h.os, h2.tape.trans h.tape, h2.output.trans h.output, Nat.le_trans h.size h2.size, fun k hk hne => (h2.block k (Nat.lt_of_lt_of_le hk h.size) hne).trans (h.block k hk hne)⟩
set_option maxRecDepth 100000 in
theorem own_blk {w : World} {g b c s n : Nat} {e : TypeId} {cur : Array Value} {xs : List Value} (K : Blk w g e cur) (hb : b ≤ g) (hc : c ≤ maxLen) (hsz : cur.size = c * s) (hn : n ≤ c) (hx : cur.toList.take (n * s) = xs) : w.ownsRow b e s (.slice (some ⟨g, 0, none⟩) n c) n xs := by
  refine ⟨?_, .inr ⟨g, c, cur, rfl, hb, K, hn, hc, hsz, hx⟩⟩
  rw [← hx, List.length_take, Array.length_toList, hsz]
  exact Nat.min_eq_left (Nat.mul_le_mul_right s hn)
set_option maxRecDepth 100000 in
theorem blk_own {w : World} {b c s n : Nat} {e : TypeId} {A : Option Addr} {xs : List Value} (h : w.ownsRow b e s (.slice A n c) n xs) (h0 : 0 < n) : ∃ g cur, A = some ⟨g, 0, none⟩ ∧ b ≤ g ∧ Blk w g e cur ∧ n ≤ c ∧ c ≤ maxLen ∧ cur.size = c * s ∧ cur.toList.take (n * s) = xs := by
  rcases h.2 with ⟨_, h2⟩ | ⟨g, cap, cur, h2, hb, hg, hn, hm, hc, ht⟩
  · omega
  · injection h2 with e1 e2 e3
    subst e1
    subst e3
    exact ⟨g, cur, rfl, hb, hg, hn, hm, hc, ht⟩
set_option maxRecDepth 100000 in
theorem Blk.shape {w : World} {g : Nat} {t : TypeId} {cs : Array Value} (h : Blk w g t cs) : w.shape? g = some (t, cs.size) := by
  unfold Blk at h
  simp [World.shape?, h]

section
variable {P : Program}
set_option maxRecDepth 100000 in
/-- copy, of elements of several cells; all is read before anything is written -/
theorem run_copy_many (w : World) (dT sT ty elem : TypeId) (b o dLen dCap s k : Nat) (a : Addr) (sLen sCap : Nat) (cs : List Value)
    (hu : P.underlying dT = some (.slice elem)) (hs : (P.info? elem).map (·.size) = some s) (hk : k = Nat.min sLen dLen) (hn : cs.length = k * s)
    (hsrc : ∀ j v, cs[j]? = some v → w.cell? (a.add j) = some v) (hc : ∀ j, j < cs.length → (w.cell? ⟨b, o + j, none⟩).isSome = true) (hf : ∀ j, j < cs.length → w.frozen? ⟨b, o + j, none⟩ = false) (h1 : ∀ v ∈ cs, v.oneCell' = true) :
    (Builtin.copy_ #[dT, sT] ty #[.slice (some ⟨b, o, none⟩) dLen dCap, .slice (some a) sLen sCap]).run P w = .ok (goInt k) (w.setCells b o cs) := by
  have hl := run_loadCells_list (P := P) w a cs hsrc
  have hst := run_storeCells_cells (P := P) b o cs 0 w (by simpa using hc) (by simpa using hf) h1
  cases hq : P.info? elem with
  | none => simp [hq] at hs
  | some i =>
    have hi : i.size = s := by simpa [hq] using hs
    rw [hn] at hl
    simp [Builtin.copy_, run_underlying hu, Builtin.lenOf, Builtin.firstCells, sizeOf, typeInfo, hq, hi, ← hk, hl, hst]
set_option maxRecDepth 100000 in
theorem wp_copy_run (w : World) {o : Oper} {a : Act} {K : Act → World → Prop} {Q : Exit → Act → World → Prop} (d s : Operand) (t t' : TypeId)
    (ho : o.op = .call { callee := .builtin .copy, args := #[d, s], argTypes := #[t, t'] }) (v u : Value) (hd : a.eval d = v) (hs : a.eval s = u) {v' : Value} {w' : World}
    (hr : (Builtin.copy_ #[t, t'] o.type #[v, u]).run P w = .ok v' w') (h : K (a.put o.dst v') w') : o.wp P a w K Q := by
  unfold Oper.wp execOp
  simp only [ho, resolve, invoke, builtin, Sem.run_bind, Sem.run_pure, Result.andThen_ok, List.map_toArray, List.map_cons, List.map_nil, hd, hs, hr]
  exact h
set_option maxRecDepth 100000 in
theorem wpList_copy_run (w : World) {ops : Array Oper} {rest : List Oper} {o : Oper} {a : Act} {Q : Exit → Act → World → Prop} (hgd : o.guard = none) (d s : Operand) (t t' : TypeId)
    (ho : o.op = .call { callee := .builtin .copy, args := #[d, s], argTypes := #[t, t'] }) (v u : Value) (hd : a.eval d = v) (hs : a.eval s = u) {v' : Value} {w' : World}
    (hr : (Builtin.copy_ #[t, t'] o.type #[v, u]).run P w = .ok v' w') (h : wpList P ops Q rest (a.put o.dst v') w') : wpList P ops Q (o :: rest) a w :=
  wpList_plain hgd fun _ hK => wp_copy_run w d s t t' ho v u hd hs hr (hK _ _ h)
set_option maxRecDepth 100000 in
theorem step_copy_run {ops : Array Oper} {o : Oper} {a : Act} {w : World} {K : Act → World → Prop} {Q : Exit → Act → World → Prop} {E : Prop}
    (hg : o.guard = none) (d x : Operand) (dT sT : TypeId) (hop : o.op = Op.call { callee := Callee.builtin Builtin.copy, args := #[d, x], argTypes := #[dT, sT] })
    (v u : Value) (hd : a.eval d = v) (hx : a.eval x = u) {v' : Value} {w' : World} (hr : (Builtin.copy_ #[dT, sT] o.type #[v, u]).run P w = .ok v' w') (hK : K (a.put o.dst v') w') :
    if Region.wanted o (yielded ops a.tmps) = true then Oper.wp P o a w K Q else E := by
  have hw : Region.wanted o (yielded ops a.tmps) = true := by simp [Region.wanted, hg]
  rw [if_pos hw]
  exact wp_copy_run w d x dT sT hop v u hd hx hr hK
set_option maxRecDepth 100000 in
/-- clear, of elements of several cells -/
theorem run_clear_many (w : World) (t e ty : TypeId) (z : Value) (ht : P.underlying t = some (.slice e)) (hv : ∀ w, (zeroValue e).run P w = .ok z w) (zs : List Value) (b o n c : Nat) (hn : 0 < n) (hz : (Builtin.zeroCells z.cells n).toList = zs) (h1 : ∀ v ∈ zs, v.oneCell' = true)
    (hc : ∀ j, j < zs.length → (w.cell? ⟨b, o + j, none⟩).isSome = true) (hf : ∀ j, j < zs.length → w.frozen? ⟨b, o + j, none⟩ = false) :
    (Builtin.clear_ #[t] ty #[.slice (some ⟨b, o, none⟩) n c]).run P w = .ok (.tuple #[]) (w.setCells b o zs) := by
  have hst := run_storeCells_cells (P := P) b o zs 0 w (by simpa using hc) (by simpa using hf) h1
  simp only [Nat.add_zero] at hst
  obtain ⟨m, rfl⟩ : ∃ m, n = m + 1 := ⟨n - 1, by omega⟩
  simp [Builtin.clear_, run_underlying ht, hv, hz, hst]
end

/-- the call's own row, after Insert, Delete -/
structure Turned (w : World) (v : Value) (b : Nat) (e : TypeId) (n : Nat) (xs : List Value) (r : Ending) (w' : World) : Prop where
  out : ∃ A c, r = .returned (.slice A n c) ∧ w'.ownsRow b e 5 (.slice A n c) n xs ∧ (∀ k, (Value.slice A n c).ownBlock = some k → v.ownBlock = some k ∨ w.heap.size ≤ k)
  grown : w.grownBy w' v.ownBlock

end Go.Proofs.Ytniilfcbiliegaa
/-
  Queues as words: rows of runners; which may be; what comes of them (mathematics). No statement is proved here.
-/
namespace Go.Proofs.Ytniilfcbiliegaa
open Go.RowKit

/-- a runner: Id, Each, its Time's upper and lower half, its weight -/
abbrev Rn : Type := Int × Int × Nat × Nat × Nat
def rv (r : Rn) : List Value := [.int .i64 r.1, .int .i64 r.2.1, .int .u64 (r.2.2.1 : Int), .int .u64 (r.2.2.2.1 : Int), .int .u64 (r.2.2.2.2 : Int)]
abbrev agR (r : Rn) : Array Value := #[.int .i64 r.1, .int .i64 r.2.1, .int .u64 (r.2.2.1 : Int), .int .u64 (r.2.2.2.1 : Int), .int .u64 (r.2.2.2.2 : Int)]
set_option maxRecDepth 100000 in
theorem length_rv (r : Rn) : (rv r).length = 5 := rfl
set_option maxRecDepth 100000 in
theorem rv_ones (l : List Rn) : ∀ u ∈ flat rv l, u.oneCell' = true := flat_all rv (fun a u hu => by
  simp only [rv, List.mem_cons, List.not_mem_nil, or_false] at hu
  rcases hu with rfl | rfl | rfl | rfl | rfl <;> rfl) l
set_option maxRecDepth 100000 in
theorem rn_info : (Try.prog.info? 59).map (fun i => (i.zero, i.size, i.bytes)) = some (some (.agg #[.int .i64 0, .int .i64 0, .int .u64 0, .int .u64 0, .int .u64 0]), 5, 40) := by kernel_rfl
set_option maxRecDepth 100000 in
theorem info_parts9 {P : Program} {e : TypeId} {z : Value} {size bytes : Nat} (h : (P.info? e).map (fun i => (i.zero, i.size, i.bytes)) = some (some z, size, bytes)) :
    ∃ i, P.info? e = some i ∧ i.zero = some z ∧ i.size = size ∧ i.bytes = bytes := by
  cases hi : P.info? e with
  | none => rw [hi] at h; cases h
  | some i =>
    rw [hi] at h
    simp only [Option.map_some, Option.some.injEq, Prod.mk.injEq] at h
    exact ⟨i, rfl, h.1, h.2.1, h.2.2⟩
set_option maxRecDepth 100000 in
theorem rns_len {w : World} {B n : Nat} {A : Option Addr} {l : List Rn} (h : Reads w B 5 A n (flat rv l)) : l.length = n := by
  have h1 := h.1
  rw [length_flat rv length_rv] at h1
  omega
set_option maxRecDepth 100000 in
theorem rn_at {w : World} {B n : Nat} {A : Option Addr} {l : List Rn} (h : Reads w B 5 A n (flat rv l)) {j : Nat} {a b : Int} {c d e : Nat} (hj : l[j]? = some (a, b, c, d, e)) :
    ∃ ad, A = some ad ∧ ad.block < B ∧ w.cell? (ad.add (j * 5)) = some (.int .i64 a) ∧ w.cell? ⟨(ad.add (j * 5)).block, (ad.add (j * 5)).off + 1, none⟩ = some (.int .i64 b) ∧ w.cell? ⟨(ad.add (j * 5)).block, (ad.add (j * 5)).off + 2, none⟩ = some (.int .u64 (c : Int)) ∧
      w.cell? ⟨(ad.add (j * 5)).block, (ad.add (j * 5)).off + 3, none⟩ = some (.int .u64 (d : Int)) ∧ w.cell? ⟨(ad.add (j * 5)).block, (ad.add (j * 5)).off + 4, none⟩ = some (.int .u64 (e : Int)) := by
  obtain ⟨ad, e, hb, hc⟩ := h.elem rv length_rv hj (by omega)
  have c1 := hc 1 _ rfl
  have c2 := hc 2 _ rfl
  have c3 := hc 3 _ rfl
  have c4 := hc 4 _ rfl
  rw [add_past ad (j * 5) 0] at c1
  rw [add_past ad (j * 5) 1] at c2
  rw [add_past ad (j * 5) 2] at c3
  rw [add_past ad (j * 5) 3] at c4
  exact ⟨ad, e, hb, hc 0 _ rfl, c1, c2, c3, c4⟩

/-- its Time's number, and its weight -/
def rN (r : Rn) : Nat := r.2.2.1 * 2 ^ 64 + r.2.2.2.1
def rW (r : Rn) : Nat := r.2.2.2.2
/-- a runner by its numbers -/
def mkR (id each : Int) (N x : Nat) : Rn := (id, each, N / 2 ^ 64, N % 2 ^ 64, x)
set_option maxRecDepth 100000 in
theorem rN_mk (id each : Int) (N x : Nat) : rN (mkR id each N x) = N := by unfold rN mkR; dsimp only; omega
set_option maxRecDepth 100000 in
theorem rW_mk (id each : Int) (N x : Nat) : rW (mkR id each N x) = x := rfl
/-- its cells are within 64 bits -/
def UR (r : Rn) : Prop := r.2.2.1 < 2 ^ 64 ∧ r.2.2.2.1 < 2 ^ 64 ∧ r.2.2.2.2 < 2 ^ 64
def UQ (l : List Rn) : Prop := ∀ r ∈ l, UR r
set_option maxRecDepth 100000 in
theorem mk_eta {r : Rn} (h : UR r) : mkR r.1 r.2.1 (rN r) (rW r) = r := by
  obtain ⟨a, b, c, d, e⟩ := r
  unfold UR at h
  unfold mkR rN rW
  dsimp only at h ⊢
  rw [show (c * 2 ^ 64 + d) / 2 ^ 64 = c by omega, show (c * 2 ^ 64 + d) % 2 ^ 64 = d by omega]
set_option maxRecDepth 100000 in
theorem rN_ext {r s : Rn} (hr : UR r) (hs : UR s) (h1 : r.1 = s.1) (h2 : r.2.1 = s.2.1) (hN : rN r = rN s) (hW : rW r = rW s) : r = s := by rw [← mk_eta hr, ← mk_eta hs, h1, h2, hN, hW]
set_option maxRecDepth 100000 in
theorem UR_mk {id each : Int} {N x : Nat} (hN : N < 2 ^ 128) (hx : x < 2 ^ 64) : UR (mkR id each N x) := ⟨by show N / 2 ^ 64 < 2 ^ 64; omega, by show N % 2 ^ 64 < 2 ^ 64; omega, hx⟩
set_option maxRecDepth 100000 in
theorem UR.n {r : Rn} (h : UR r) : rN r < 2 ^ 128 := by unfold UR at h; unfold rN; omega
set_option maxRecDepth 100000 in
theorem UR.w {r : Rn} (h : UR r) : rW r < 2 ^ 64 := h.2.2
set_option maxRecDepth 100000 in
theorem rfr {r : Rn} (h : UR r) : fr r.2.2.1 r.2.2.2.1 r.2.2.2.2 = fq (rN r) (rW r) := (fq_of h.2.1 _).symm

/-- may a runner be, but for its Id? -/
def rightE (r : Rn) : Bool := decide (1 ≤ r.2.1) && decide (r.2.1 ≤ 8) && rightN (rN r) (rW r)
def idB (i : Int) : Bool := decide (1 ≤ i) && decide (i ≤ 16)
def rightR (r : Rn) : Bool := idB r.1 && rightE r
set_option maxRecDepth 100000 in
theorem rightR_iff {r : Rn} : rightR r = true ↔ (1 ≤ r.1 ∧ r.1 ≤ 16) ∧ (1 ≤ r.2.1 ∧ r.2.1 ≤ 8) ∧ (1 ≤ rW r ∧ rW r ≤ 65535) ∧ rN r < 2 ^ 100 := by
  unfold rightR rightE idB
  constructor
  · intro h
    simp only [Bool.and_eq_true, decide_eq_true_eq] at h
    have h3 := rightN_true h.2.2
    exact ⟨h.1, h.2.1, ⟨h3.1, h3.2.1⟩, h3.2.2⟩
  · rintro ⟨h1, h2, h3, h4⟩
    simp only [Bool.and_eq_true, decide_eq_true_eq]
    exact ⟨h1, h2, rightN_yes h3.1 h3.2 h4⟩
/-- a queue that may be -/
structure RQ (l : List Rn) : Prop where
  rise : Rise l
  each : ∀ r ∈ l, rightR r = true
def rightQ (l : List Rn) : Bool := riseF 16 0 l && l.all rightR
set_option maxRecDepth 100000 in
theorem rightQ_iff {l : List Rn} : rightQ l = true ↔ RQ l := by
  unfold rightQ
  rw [Bool.and_eq_true, riseF_iff, List.all_eq_true]
  constructor
  · rintro ⟨⟨h1, _⟩, h3⟩; exact ⟨h1, h3⟩
  · rintro ⟨h1, h3⟩
    exact ⟨⟨h1, fun x hx => by have := rightR_iff.1 (h3 x hx); omega⟩, h3⟩
set_option maxRecDepth 100000 in
theorem rightQ_no {l : List Rn} (h : RQ l → False) : rightQ l = false := by
  cases e : rightQ l with
  | false => rfl
  | true => exact (h (rightQ_iff.1 e)).elim
set_option maxRecDepth 100000 in
theorem RQ.len {l : List Rn} (h : RQ l) : l.length ≤ 16 := rise_len h.rise (lo := 0) fun y hy => by
  have := rightR_iff.1 (h.each y hy)
  omega
set_option maxRecDepth 100000 in
theorem RQ.nil : RQ [] := ⟨List.Pairwise.nil, fun _ h => by cases h⟩
set_option maxRecDepth 100000 in
theorem kf_id {l : List Rn} {i : Int} {r : Rn} (h : kf l i = some r) : r.1 = i := (kf_some h).2
set_option maxRecDepth 100000 in
theorem RQ.get {l : List Rn} (h : RQ l) {i : Int} {r : Rn} (hk : kf l i = some r) : rightR r = true := h.each r (kf_some hk).1
set_option maxRecDepth 100000 in
theorem RQ.out {l : List Rn} (h : RQ l) {i : Int} (hi : idB i = false) : kf l i = none := kf_none.2 fun y hy e => by
  have := rightR_iff.1 (h.each y hy)
  unfold idB at hi
  simp at hi
  omega
set_option maxRecDepth 100000 in
theorem RQ.ins {l : List Rn} (h : RQ l) {r : Rn} (hr : rightR r = true) (hk : kf l r.1 = none) : RQ (insK l r) := ⟨rise_ins h.rise hk, fun y hy => by
  rcases mem_ins.1 hy with rfl | hy
  · exact hr
  · exact h.each y hy⟩
set_option maxRecDepth 100000 in
theorem RQ.set {l : List Rn} (h : RQ l) {r s : Rn} (hr : rightR r = true) (hk : kf l r.1 = some s) : RQ (setK l r) := ⟨rise_set h.rise hk, fun y hy => by
  rcases (mem_set h.rise hk).1 hy with rfl | hy
  · exact hr
  · exact h.each y hy.1⟩
set_option maxRecDepth 100000 in
theorem RQ.del {l : List Rn} (h : RQ l) {i : Int} {s : Rn} (hk : kf l i = some s) : RQ (delK l i) := ⟨rise_del h.rise i, fun y hy => h.each y ((mem_del h.rise hk).1 hy).1⟩

/-! ### the Times, and the greatest -/
def tms (l : List Rn) : List (Nat × Nat × Nat) := l.map fun r => r.2.2
set_option maxRecDepth 100000 in
theorem len_tms (l : List Rn) : (tms l).length = l.length := by simp [tms]
set_option maxRecDepth 100000 in
theorem tms_at {l : List Rn} {k : Nat} {r : Rn} (h : l[k]? = some r) : (tms l)[k]? = some r.2.2 := by unfold tms; rw [List.getElem?_map, h]; rfl
set_option maxRecDepth 100000 in
theorem tms_small {l : List Rn} (h : UQ l) : Small (tms l) := fun k p q x hk => by
  unfold tms at hk
  rw [List.getElem?_map] at hk
  cases hl : l[k]? with
  | none => rw [hl] at hk; cases hk
  | some r =>
    rw [hl] at hk
    injection hk with hk
    have := h r (List.mem_of_getElem? hl)
    unfold UR at this
    have hk : r.2.2 = (p, q, x) := hk
    rw [hk] at this
    exact this
set_option maxRecDepth 100000 in
theorem ab_tms {l : List Rn} {k : Nat} {r : Rn} (h : l[k]? = some r) : aF (tms l) k = rN r ∧ bF (tms l) k = rW r := ab_at (tms_at h)
set_option maxRecDepth 100000 in
theorem tms_right {l : List Rn} (hU : UQ l) (h : ∀ r ∈ l, rightR r = true) : allB (tms l) = true := by
  unfold allB tms
  rw [List.all_eq_true]
  intro f hf
  obtain ⟨r, hr, rfl⟩ := List.mem_map.1 hf
  have h1 := rightR_iff.1 (h r hr)
  have q := rightN_of (h := r.2.2.1) (x := r.2.2.2.2) (hU r hr).2.1
  exact q.symm.trans (rightN_yes h1.2.2.1.1 h1.2.2.1.2 h1.2.2.2)
/-- the first of the greatest of the first n -/
def topK (a b : Nat → Nat) : Nat → Nat
  | 0 => 0
  | k + 1 => if a (topK a b k) * b k < a k * b (topK a b k) then k else topK a b k
set_option maxRecDepth 100000 in
theorem topK_up {a b : Nat → Nat} : ∀ n, (∀ j, j < n → 0 < b j) → Up a b n (topK a b n)
  | 0, _ => .inl ⟨rfl, rfl⟩
  | n + 1, hb => by
    have ih := topK_up (a := a) n (fun j hj => hb j (by omega))
    unfold topK
    split
    · rename_i hg; exact ih.yes (fun j hj => hb j (by omega)) hg
    · rename_i hg; exact ih.no hg
set_option maxRecDepth 100000 in
theorem topK_top {a b : Nat → Nat} {n : Nat} (hn : 0 < n) (hb : ∀ j, j < n → 0 < b j) : Top a b n (topK a b n) := by
  rcases topK_up (a := a) n hb with h | h
  · omega
  · exact h
/-- where the greatest is, among right ones -/
def topI (l : List (Nat × Nat × Nat)) : Nat := topK (aF l) (bF l) l.length
set_option maxRecDepth 100000 in
theorem found_some {l : List (Nat × Nat × Nat)} (h0 : 0 < l.length) (h : allB l = true) : Found Top l (topI l) true := .inl ⟨rfl, h0, h, topK_top h0 (bF_pos h)⟩
/-- the greatest Time of a queue -/
def topT (l : List Rn) : Nat × Nat × Nat := (tms l).getD (topI (tms l)) (0, 0, 0)
def fN (f : Nat × Nat × Nat) : Nat := f.1 * 2 ^ 64 + f.2.1
def fW (f : Nat × Nat × Nat) : Nat := f.2.2
set_option maxRecDepth 100000 in
theorem topT_spec {l : List Rn} (hU : UQ l) (h : ∀ r ∈ l, rightR r = true) (h0 : 0 < l.length) : (∃ r ∈ l, topT l = r.2.2) ∧ ∀ r ∈ l, rN r * fW (topT l) ≤ fN (topT l) * rW r := by
  have hT := topK_top (a := aF (tms l)) (b := bF (tms l)) (n := (tms l).length) (by rw [len_tms]; exact h0) (bF_pos (tms_right hU h))
  have hlt := hT.1
  obtain ⟨t, ht⟩ := elem_at (l := l) (k := topI (tms l)) (by unfold topI; rw [len_tms] at hlt ⊢; exact hlt)
  have e : topT l = t.2.2 := by unfold topT; rw [List.getD_eq_getElem?_getD, tms_at ht]; rfl
  refine ⟨⟨t, List.mem_of_getElem? ht, e⟩, fun r hr => ?_⟩
  obtain ⟨j, hj⟩ := List.mem_iff_getElem?.1 hr
  have q := hT.2.1 j (by rw [len_tms]; exact (List.getElem?_eq_some_iff.1 hj).1)
  have a1 := ab_tms hj
  have a2 := ab_tms ht
  unfold topI at a2
  rw [a1.1, a1.2, a2.1, a2.2] at q
  rw [e]
  exact q

/-! ### what the calls answer -/
def chkQ (l : List Rn) : Int := if rightQ l = true then 0 else 200
def zeroR : Rn := (0, 0, 0, 0, 0)
def topQ (l : List Rn) : (Nat × Nat × Nat) × Bool := if rightQ l = true ∧ 0 < l.length then (topT l, true) else ((0, 0, 0), false)
def getQ (l : List Rn) (i : Int) : Rn × Bool := if rightQ l = true then (match kf l i with | some r => (r, true) | none => (zeroR, false)) else (zeroR, false)
/-- a Time that is held between two bounds over one weight -/
def heldN (t low top : Nat) : Nat := if t < low then low else if top < t then top else t
def joinT (l : List Rn) (r : Rn) : Nat := overW (fN (topT l)) (rW r) (fW (topT l))
def joinN (l : List Rn) (r : Rn) (boost : Nat) : Nat := heldN (rN r) (joinT l r - min (268435456 * rW r) (boost * r.2.1.toNat)) (joinT l r)
def joinQ (l : List Rn) (r : Rn) (boost : Nat) : List Rn × Int :=
  if rightQ l = false then ([], 200)
  else if (decide (boost ≤ 10000000) && rightR r) = false then ([], 2)
  else if (kf l r.1).isSome = true then ([], 5)
  else if l.length = 0 then ([r], 0)
  else if joinT l r < 2 ^ 100 then (insK l (mkR r.1 r.2.1 (joinN l r boost) (rW r)), 0) else ([], 131)
def leaveQ (l : List Rn) (i : Int) : List Rn × Rn × Int :=
  if rightQ l = false then ([], zeroR, 200) else if idB i = false then ([], zeroR, 2)
  else match kf l i with | some r => (delK l i, r, 0) | none => ([], zeroR, 4)
/-- done to each of these, one after another; none: it is too great -/
def eachF (f : Rn → Option Rn) : List Rn → List Int → Option (List Rn)
  | l, [] => some l
  | l, i :: is => match kf l i with
    | some r => (match f r with | some s => eachF f (setK l s) is | none => none)
    | none => none
def riseI : Int → List Int → Bool
  | _, [] => true
  | last, i :: is => decide (last < i) && decide (i ≤ 16) && riseI i is
def unfoundQ (l : List Rn) (fits : Bool) (is : List Int) : Int :=
  if rightQ l = false then 200 else if (fits && riseI 0 is) = false then 2 else if is.all (fun i => (kf l i).isSome) = true then 0 else 4
def eachQ (f : Rn → Option Rn) (l : List Rn) (fits : Bool) (is : List Int) : List Rn × Int :=
  if unfoundQ l fits is = 0 then (match eachF f l is with | some m => (m, 0) | none => ([], 131)) else ([], unfoundQ l fits is)
def runF (dt : Nat) (r : Rn) : Option Rn := if rN r + r.2.1.toNat * dt < 2 ^ 100 then some (mkR r.1 r.2.1 (rN r + r.2.1.toNat * dt) (rW r)) else none
def runQ (l : List Rn) (is : List Int) (dt : Int) : List Rn × Int := eachQ (runF dt.toNat) l (decide (0 ≤ dt) && decide (dt ≤ 10000000)) is
def weighF (x : Nat) (each : Int) (r : Rn) : Option Rn := if overW (rN r) x (rW r) < 2 ^ 100 then some (mkR r.1 each (overW (rN r) x (rW r)) x) else none
def weighQ (l : List Rn) (is : List Int) (x : Nat) (each : Int) : List Rn × Int := eachQ (weighF x each) l (decide (1 ≤ x) && decide (x ≤ 65535) && (decide (1 ≤ each) && decide (each ≤ 8))) is
/-- what a clip makes of a runner: its Time, lifted where it is below; none: it is too great -/
def clipF (N x : Nat) (r : Rn) : Option Rn := if rN r * x < N * rW r then (if overW N (rW r) x < 2 ^ 100 then some (mkR r.1 r.2.1 (overW N (rW r) x) (rW r)) else none) else some r
def mapF (f : Rn → Option Rn) : List Rn → Option (List Rn)
  | [] => some []
  | r :: l => match f r, mapF f l with | some s, some m => some (s :: m) | _, _ => none
def belowI (N x : Nat) (l : List Rn) : List Int := (l.filter fun r => decide (rN r * x < N * rW r)).map (·.1)
def lowQ (l : List Rn) : Nat := fN (topT l) - 268435456 * fW (topT l)
def clipQ (l : List Rn) : List Rn × List Int × Int :=
  if rightQ l = false then ([], [], 200) else if l.length = 0 then ([], [], 0)
  else match mapF (clipF (lowQ l) (fW (topT l))) l with | some m => (m, belowI (lowQ l) (fW (topT l)) l, 0) | none => ([], [], 131)

end Go.Proofs.Ytniilfcbiliegaa
