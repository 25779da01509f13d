/-
  Several texts as one.
-/
import Derived.Test.YtngbamoffjlodaaZEp
import Derived.Test.YtngbamoffjlodaaZLe
import Derived.WalkSpells
import Derived.WalkLawsBesides
import Derived.RegionTactic
import Derived.Deep.QuietTactic
import Derived.BigQuiet
import Derived.Lib.Hide
import Derived.Maps.AppendAt
import Derived.Deep.AppendLies
import Derived.Deep.OwnRows
import Derived.OwnWalk
import Derived.IntWalk
import Derived.Lib.SmallJoins
import Derived.Laws.IdiomCopy
import Derived.Lib.SliceRun
import Derived.Lib.Overlaps
import Derived.Lib.AppendZerosOnto
import Derived.Laws.NewBlocks
import Derived.Deep.RegionLaw
/-
  Rows of whatever elements, as lists. No statement is proved here.
-/
namespace Go.Proofs.Ytngbamoffjlodaa
open Go.RowKit



section
variable {P : Program} (w : World)

set_option maxRecDepth 100000 in
theorem step_append_any {ops : Array Oper} {o : Oper} {a : Act} {K : Act → World → Prop} {Q : Exit → Act → World → Prop} {E : Prop} (hgd : o.guard = none) (s x : Operand) (t : TypeId)
    (ho : o.op = .call { callee := .builtin .append, args := #[s, x], argTypes := #[t, t] })
    (base : Nat) (e : TypeId) (i : TypeInfo) (z : Value) (size bytes : Nat) (ht : P.underlying t = some (.slice e)) (hi : P.info? e = some i) (hz : i.zero = some z)
    (hsize : i.size = size) (hby : i.bytes = bytes) (hzs : z.cells.size = size) (hsz : 0 < size)
    (v : Value) (n : Nat) (xs : List Value) (hs : a.eval s = v) (hown : w.ownsRow base e size v n xs)
    (B : Nat) (A : Option Addr) (m c : Nat) (news : List Value) (hx : a.eval x = .slice A m c) (hr : Reads w B size A m news) (h1 : ∀ u ∈ news, u.oneCell' = true)
    (h63 : n + m ≤ maxLen) (hbytes : (n + m) * bytes ≤ 140737488355328) (hbase : base ≤ w.heap.size)
    (h : ∀ v' w', w'.ownsRow base e size v' (n + m) (xs ++ news) → w.grownBy w' v.ownBlock → (v'.ownBlock = v.ownBlock ∨ v'.ownBlock = some w.heap.size) → K (a.put o.dst v') w') :
    if Region.wanted o (yielded ops a.tmps) = true then Oper.wp P o a w K Q else E := by
  have hw : Region.wanted o (yielded ops a.tmps) = true := by simp [Region.wanted, hgd]
  rw [if_pos hw]
  exact wp_append_any w s x t ho base e i z size bytes ht hi hz hsize hby hzs hsz v n xs hs hown B A m c news hx hr h1 h63 hbytes hbase h
end



/-! ### elements of several cells -/
section
variable {α : Type} (enc : α → List Value)
def flat (l : List α) : List Value := l.flatMap enc
set_option maxRecDepth 100000 in
theorem flat_cons (a : α) (l : List α) : flat enc (a :: l) = enc a ++ flat enc l := rfl
set_option maxRecDepth 100000 in
theorem flat_append (a b : List α) : flat enc (a ++ b) = flat enc a ++ flat enc b := by simp [flat]
set_option maxRecDepth 100000 in
theorem flat_one (a : α) : flat enc [a] = enc a := by simp [flat]
set_option maxRecDepth 100000 in
theorem length_flat {size : Nat} (h : ∀ a, (enc a).length = size) (l : List α) : (flat enc l).length = l.length * size := by
  induction l with
  | nil => simp [flat]
  | cons a l ih => rw [flat_cons, List.length_append, ih, h, List.length_cons, Nat.add_mul, Nat.one_mul, Nat.add_comm]
set_option maxRecDepth 100000 in
theorem flat_at {size : Nat} (hs : ∀ a, (enc a).length = size) {l : List α} {k : Nat} {a : α} (h : l[k]? = some a) (j : Nat) (hj : j < size) : (flat enc l)[k * size + j]? = (enc a)[j]? := by
  induction l generalizing k with
  | nil => simp at h
  | cons b l ih =>
    rw [flat_cons]
    cases k with
    | zero =>
      simp only [List.getElem?_cons_zero, Option.some.injEq] at h
      subst h
      rw [Nat.zero_mul, Nat.zero_add, List.getElem?_append_left (by rw [hs]; exact hj)]
    | succ k =>
      have h' : l[k]? = some a := by simpa using h
      rw [List.getElem?_append_right (by rw [hs, Nat.add_mul]; omega), hs, show (k + 1) * size + j - size = k * size + j by rw [Nat.add_mul]; omega]
      exact ih h'
set_option maxRecDepth 100000 in
theorem flat_all {P : Value → Prop} (h : ∀ a, ∀ u ∈ enc a, P u) (l : List α) : ∀ u ∈ flat enc l, P u := by
  intro u hu
  unfold flat at hu
  obtain ⟨a, _, ha⟩ := List.mem_flatMap.1 hu
  exact h a u ha
set_option maxRecDepth 100000 in
theorem Reads.elem {size : Nat} (hs : ∀ a, (enc a).length = size) {w : World} {B n : Nat} {A : Option Addr} {l : List α} (h : Reads w B size A n (flat enc l)) {k : Nat} {a : α} (hk : l[k]? = some a) (h0 : 0 < size) :
    ∃ ad, A = some ad ∧ ad.block < B ∧ ∀ j u, (enc a)[j]? = some u → w.cell? (ad.add (k * size + j)) = some u := by
  have hl := h.1
  rw [length_flat enc hs] at hl
  have hkl := (List.getElem?_eq_some_iff.1 hk).1
  have hn : l.length = n := Nat.eq_of_mul_eq_mul_right h0 hl
  obtain ⟨ad, e, hb, hc⟩ := h.2 (by omega)
  refine ⟨ad, e, hb, fun j u hu => hc _ u ?_⟩
  have hj := (List.getElem?_eq_some_iff.1 hu).1
  rw [hs] at hj
  rw [flat_at enc hs hk j hj]
  exact hu
end
set_option maxRecDepth 100000 in
theorem elem_at {α : Type} {l : List α} {k : Nat} (hk : k < l.length) : ∃ a, l[k]? = some a := ⟨_, List.getElem?_eq_getElem hk⟩
set_option maxRecDepth 100000 in
theorem own_reads {w : World} {base n size : Nat} {e : TypeId} {v : Value} {xs : List Value} (h : w.ownsRow base e size v n xs) : ∃ A c, v = .slice A n c ∧ n ≤ c ∧ Reads w w.heap.size size A n xs := by
  obtain ⟨A, c, rfl, hc⟩ : ∃ A c, v = .slice A n c ∧ n ≤ c := by
    rcases h.2 with ⟨rfl, h0⟩ | ⟨g, cap, cur, rfl, _, _, hc, _⟩
    · exact ⟨none, 0, by rw [h0], by omega⟩
    · exact ⟨_, _, rfl, hc⟩
  exact ⟨A, c, rfl, hc, Reads.of_own h⟩
set_option maxRecDepth 100000 in
theorem below_drewN {B : Nat} {a w : World} (h : Below B a w) (n : Nat) : Below B a (w.drewN n) := ⟨h.os, h.tape, h.output, h.size, h.block⟩

/-- numbers as values -/
def vs (l : List Int) : List Value := l.map fun i => .int .i64 i
set_option maxRecDepth 100000 in
theorem length_vs (l : List Int) : (vs l).length = l.length := by simp [vs]
set_option maxRecDepth 100000 in
theorem vs_append (a b : List Int) : vs (a ++ b) = vs a ++ vs b := by simp [vs]
set_option maxRecDepth 100000 in
theorem vs_ones (l : List Int) : ∀ u ∈ vs l, u.oneCell' = true := by
  intro u hu
  unfold vs at hu
  obtain ⟨x, _, rfl⟩ := List.mem_map.1 hu
  rfl
set_option maxRecDepth 100000 in
theorem int_info : (Try.prog.info? 3).map (fun i => (i.zero, i.size, i.bytes)) = some (some (.int .i64 0), 1, 8) := by kernel_rfl
/-- a call only draws -/
def Draws (v : Value) (w : World) (e : Ending) (w' : World) : Prop := e = .returned v ∧ ∃ m, w' = w.drewN m
set_option maxRecDepth 100000 in
theorem Draws.below {v : Value} {w w' : World} {e : Ending} (h : Draws v w e w') (B : Nat) : Below B w w' := by
  obtain ⟨_, m, rfl⟩ := h
  exact below_drewN (Below.refl _ _) m
set_option maxRecDepth 100000 in
theorem Blk.grown {w w' : World} {g : Nat} {t : TypeId} {cs : Array Value} {row : Option Nat} (h : Blk w g t cs) (hb : w.grownBy w' row) (hg : some g ≠ row) : Blk w' g t cs := (hb.block g h.lt hg).trans h

/-! ### seats -/
end Go.Proofs.Ytngbamoffjlodaa
/-
  Rows by rising numbers: plain mathematics. No statement is proved here.
-/
namespace Go.Proofs.Ytngbamoffjlodaa
open Go.RowKit

section
variable {β : Type}
/-- by rising numbers -/
def Rise (l : List (Int × β)) : Prop := l.Pairwise (fun a b => a.1 < b.1)
/-- the row of a number -/
def kf (l : List (Int × β)) (id : Int) : Option (Int × β) := l.find? fun d => d.1 == id
/-- how many have a lower number -/
def low (l : List (Int × β)) (id : Int) : Nat := l.countP fun x => decide (x.1 < id)
set_option maxRecDepth 100000 in
theorem rise_cons {a : Int × β} {l : List (Int × β)} : Rise (a :: l) ↔ (∀ y ∈ l, a.1 < y.1) ∧ Rise l := List.pairwise_cons
set_option maxRecDepth 100000 in
theorem kf_some {l : List (Int × β)} {id : Int} {x : Int × β} (h : kf l id = some x) : x ∈ l ∧ x.1 = id := by
  unfold kf at h
  refine ⟨List.mem_of_find?_eq_some h, ?_⟩
  have := List.find?_some h
  simpa using this
set_option maxRecDepth 100000 in
theorem kf_cons (a : Int × β) (l : List (Int × β)) (id : Int) : kf (a :: l) id = if a.1 = id then some a else kf l id := by
  unfold kf
  rw [List.find?_cons]
  by_cases h : a.1 = id
  · rw [if_pos h, show (a.1 == id) = true from by simpa using h]
  · rw [if_neg h, show (a.1 == id) = false from by simpa using h]
set_option maxRecDepth 100000 in
theorem kf_mem {l : List (Int × β)} (hR : Rise l) {x : Int × β} (h : x ∈ l) : kf l x.1 = some x := by
  induction l with
  | nil => cases h
  | cons a l ih =>
    obtain ⟨h1, h2⟩ := rise_cons.1 hR
    rw [kf_cons]
    rcases List.mem_cons.1 h with e | e
    · subst e; rw [if_pos rfl]
    · have := h1 x e
      rw [if_neg (by omega)]
      exact ih h2 e
set_option maxRecDepth 100000 in
theorem kf_none {l : List (Int × β)} {id : Int} : kf l id = none ↔ ∀ y ∈ l, y.1 ≠ id := by
  unfold kf
  simp [List.find?_eq_none]
set_option maxRecDepth 100000 in
theorem rise_ext {l m : List (Int × β)} (hl : Rise l) (hm : Rise m) (h : ∀ y, y ∈ l ↔ y ∈ m) : l = m := by
  induction l generalizing m with
  | nil =>
    cases m with
    | nil => rfl
    | cons b m => have := (h b).2 (by simp); cases this
  | cons a l ih =>
    cases m with
    | nil => have := (h a).1 (by simp); cases this
    | cons b m =>
      obtain ⟨l1, l2⟩ := rise_cons.1 hl
      obtain ⟨m1, m2⟩ := rise_cons.1 hm
      have hab : a = b := by
        rcases List.mem_cons.1 ((h a).1 (by simp)) with e | e
        · exact e
        · rcases List.mem_cons.1 ((h b).2 (by simp)) with e2 | e2
          · exact e2.symm
          · have := m1 a e
            have := l1 b e2
            omega
      subst hab
      rw [ih l2 m2 (fun y => ?_)]
      constructor
      · intro hy
        rcases List.mem_cons.1 ((h y).1 (List.mem_cons_of_mem _ hy)) with e | e
        · subst e; have := l1 y hy; omega
        · exact e
      · intro hy
        rcases List.mem_cons.1 ((h y).2 (List.mem_cons_of_mem _ hy)) with e | e
        · subst e; have := m1 y hy; omega
        · exact e
set_option maxRecDepth 100000 in
theorem low_up {a : Int × β} {l : List (Int × β)} {id : Int} (h : a.1 < id) : low (a :: l) id = low l id + 1 := by
  unfold low
  rw [List.countP_cons, if_pos (by simpa using h)]
set_option maxRecDepth 100000 in
theorem low_zero {l : List (Int × β)} {id : Int} (h : ∀ y ∈ l, id ≤ y.1) : low l id = 0 := by
  unfold low
  rw [List.countP_eq_zero]
  intro y hy
  have := h y hy
  simp; omega
set_option maxRecDepth 100000 in
theorem low_stop {a : Int × β} {l : List (Int × β)} {id : Int} (hR : Rise (a :: l)) (h : ¬ a.1 < id) : low (a :: l) id = 0 := by
  refine low_zero fun y hy => ?_
  rcases List.mem_cons.1 hy with e | e
  · subst e; omega
  · have := (rise_cons.1 hR).1 y e; omega
/-! ### one more, another, one less -/
def setK (l : List (Int × β)) (x : Int × β) : List (Int × β) := l.set (low l x.1) x
def delK (l : List (Int × β)) (id : Int) : List (Int × β) := l.eraseIdx (low l id)
set_option maxRecDepth 100000 in
theorem setK_eq {l : List (Int × β)} (hR : Rise l) {x y : Int × β} (h : kf l x.1 = some y) : setK l x = l.map fun z => if z.1 = x.1 then x else z := by
  induction l with
  | nil => simp [kf] at h
  | cons a l ih =>
    obtain ⟨h1, h2⟩ := rise_cons.1 hR
    rw [kf_cons] at h
    by_cases he : a.1 = x.1
    · unfold setK
      rw [low_stop hR (by omega), List.map_cons, if_pos he]
      show x :: l = _
      congr 1
      have : l.map (fun z => if z.1 = x.1 then x else z) = l.map id := List.map_congr_left fun z hz => by
        have := h1 z hz
        rw [if_neg (by omega)]; rfl
      rw [this, List.map_id]
    · rw [if_neg he] at h
      have hy := kf_some h
      have := h1 y hy.1
      have ih2 := ih h2 h
      unfold setK at ih2 ⊢
      rw [low_up (by omega), List.map_cons, if_neg he, List.set_cons_succ, ih2]
set_option maxRecDepth 100000 in
theorem delK_eq {l : List (Int × β)} (hR : Rise l) {id : Int} {y : Int × β} (h : kf l id = some y) : delK l id = l.filter fun z => z.1 != id := by
  induction l with
  | nil => simp [kf] at h
  | cons a l ih =>
    obtain ⟨h1, h2⟩ := rise_cons.1 hR
    rw [kf_cons] at h
    by_cases he : a.1 = id
    · unfold delK
      rw [low_stop hR (by omega), List.filter_cons, if_neg (by simp [he])]
      show l = _
      exact (List.filter_eq_self.2 fun z hz => by
        have := h1 z hz
        simp; omega).symm
    · rw [if_neg he] at h
      have hy := kf_some h
      have := h1 y hy.1
      have ih2 := ih h2 h
      unfold delK at ih2 ⊢
      rw [low_up (by omega), List.filter_cons, if_pos (by simp [he]), List.eraseIdx_cons_succ, ih2]
set_option maxRecDepth 100000 in
theorem mem_set {l : List (Int × β)} (hR : Rise l) {x y z : Int × β} (h : kf l x.1 = some y) : z ∈ setK l x ↔ z = x ∨ (z ∈ l ∧ z.1 ≠ x.1) := by
  rw [setK_eq hR h, List.mem_map]
  constructor
  · rintro ⟨a, ha, rfl⟩
    by_cases he : a.1 = x.1
    · rw [if_pos he]; exact .inl rfl
    · rw [if_neg he]; exact .inr ⟨ha, he⟩
  · rintro (rfl | ⟨h1, h2⟩)
    · exact ⟨y, (kf_some h).1, if_pos (kf_some h).2⟩
    · exact ⟨z, h1, if_neg h2⟩
set_option maxRecDepth 100000 in
theorem rise_set {l : List (Int × β)} (hR : Rise l) {x y : Int × β} (h : kf l x.1 = some y) : Rise (setK l x) := by
  rw [setK_eq hR h]
  unfold Rise
  rw [List.pairwise_map]
  refine List.Pairwise.imp (fun {a b} hab => ?_) hR
  have e : ∀ z : Int × β, (if z.1 = x.1 then x else z).1 = z.1 := fun z => by
    by_cases hz : z.1 = x.1
    · rw [if_pos hz]; exact hz.symm
    · rw [if_neg hz]
  rw [e, e]
  exact hab
set_option maxRecDepth 100000 in
theorem mem_del {l : List (Int × β)} (hR : Rise l) {id : Int} {y z : Int × β} (h : kf l id = some y) : z ∈ delK l id ↔ z ∈ l ∧ z.1 ≠ id := by
  rw [delK_eq hR h, List.mem_filter]
  simp
set_option maxRecDepth 100000 in
theorem rise_del {l : List (Int × β)} (hR : Rise l) (id : Int) : Rise (delK l id) := List.Pairwise.sublist (List.eraseIdx_sublist _ _) hR
/-! ### made by numbers -/
def mk (f : Int → Option (Int × β)) : Nat → List (Int × β)
  | 0 => []
  | k + 1 => mk f k ++ (f ((k + 1 : Nat) : Int)).toList
/-! ### do they rise? -/
def riseF (most last : Int) : List (Int × β) → Bool
  | [] => true
  | x :: r => decide (last < x.1) && decide (x.1 ≤ most) && riseF most x.1 r
set_option maxRecDepth 100000 in
theorem riseF_iff {most last : Int} {l : List (Int × β)} : riseF most last l = true ↔ Rise l ∧ ∀ x ∈ l, last < x.1 ∧ x.1 ≤ most := by
  induction l generalizing last with
  | nil => simp [riseF, Rise]
  | cons a l ih =>
    unfold riseF
    rw [Bool.and_eq_true, Bool.and_eq_true, decide_eq_true_eq, decide_eq_true_eq, ih, rise_cons]
    constructor
    · rintro ⟨⟨h1, h2⟩, h3, h4⟩
      refine ⟨⟨fun y hy => (h4 y hy).1, h3⟩, fun x hx => ?_⟩
      rcases List.mem_cons.1 hx with e | e
      · subst e; exact ⟨h1, h2⟩
      · have := h4 x e; exact ⟨by omega, this.2⟩
    · rintro ⟨⟨h1, h2⟩, h3⟩
      exact ⟨h3 a (by simp), h2, fun x hx => ⟨h1 x hx, (h3 x (by simp [hx])).2⟩⟩
set_option maxRecDepth 100000 in
/-- few, when their numbers lie between -/
theorem rise_len {l : List (Int × β)} (hR : Rise l) {lo : Int} {m : Nat} (h : ∀ y ∈ l, lo < y.1 ∧ y.1 ≤ lo + m) : l.length ≤ m := by
  induction l generalizing lo m with
  | nil => simp
  | cons a l ih =>
    obtain ⟨h1, h2⟩ := rise_cons.1 hR
    have ha := h a (by simp)
    have : l.length ≤ (lo + m - a.1).toNat := ih h2 (lo := a.1) fun y hy => ⟨h1 y hy, by have := (h y (by simp [hy])).2; omega⟩
    rw [List.length_cons]
    omega
end

end Go.Proofs.Ytngbamoffjlodaa
/-
  Cells of a row of one's own, written over; copies of elements of several cells. No statement is proved here.
-/
namespace Go.Proofs.Ytngbamoffjlodaa
open Go.RowKit

section
variable {α : Type} {enc : α → List Value}
end

/-- a list with some of its elements written over, from o on -/
def setLV : List Value → Nat → List Value → List Value
  | l, _, [] => l
  | l, o, v :: r => setLV (l.set o v) (o + 1) r
set_option maxRecDepth 100000 in
theorem Blk.cells {g : Nat} {t : TypeId} (vs : List Value) : ∀ (w : World) (cur : Array Value) (o : Nat), Blk w g t cur → Blk (w.setCells g o vs) g t (setLV cur.toList o vs).toArray := by
  induction vs with
  | nil => intro w cur o h; simpa [setLV, World.setCells] using h
  | cons v r ih =>
    intro w cur o h
    have h1 := ih _ _ (o + 1) (h.set_ o v)
    unfold setLV World.setCells
    rw [Array.toList_setIfInBounds] at h1
    exact h1
set_option maxRecDepth 100000 in
theorem own_blk {w : World} {g b c s n : Nat} {e : TypeId} {cur : Array Value} {xs : List Value} (K : Blk w g e cur) (hb : b ≤ g) (hc : c ≤ maxLen) (hsz : cur.size = c * s) (hn : n ≤ c) (hx : cur.toList.take (n * s) = xs) : w.ownsRow b e s (.slice (some ⟨g, 0, none⟩) n c) n xs := by
  refine ⟨?_, .inr ⟨g, c, cur, rfl, hb, K, hn, hc, hsz, hx⟩⟩
  rw [← hx, List.length_take, Array.length_toList, hsz]
  exact Nat.min_eq_left (Nat.mul_le_mul_right s hn)
set_option maxRecDepth 100000 in
theorem blk_own {w : World} {b c s n : Nat} {e : TypeId} {A : Option Addr} {xs : List Value} (h : w.ownsRow b e s (.slice A n c) n xs) (h0 : 0 < n) : ∃ g cur, A = some ⟨g, 0, none⟩ ∧ b ≤ g ∧ Blk w g e cur ∧ n ≤ c ∧ c ≤ maxLen ∧ cur.size = c * s ∧ cur.toList.take (n * s) = xs := by
  rcases h.2 with ⟨_, h2⟩ | ⟨g, cap, cur, h2, hb, hg, hn, hm, hc, ht⟩
  · omega
  · injection h2 with e1 e2 e3
    subst e1
    subst e3
    exact ⟨g, cur, rfl, hb, hg, hn, hm, hc, ht⟩
section
variable {P : Program}
end

end Go.Proofs.Ytngbamoffjlodaa
/-
  Queues as words: rows of runners; which may be; what comes of them (mathematics). No statement is proved here.
-/
namespace Go.Proofs.Ytngbamoffjlodaa
open Go.RowKit

/-- a runner: Id, Each, its Time's upper and lower half, its weight -/
abbrev Rn : Type := Int × Int × Nat × Nat × Nat
def rv (r : Rn) : List Value := [.int .i64 r.1, .int .i64 r.2.1, .int .u64 (r.2.2.1 : Int), .int .u64 (r.2.2.2.1 : Int), .int .u64 (r.2.2.2.2 : Int)]
set_option maxRecDepth 100000 in
theorem length_rv (r : Rn) : (rv r).length = 5 := rfl
set_option maxRecDepth 100000 in
theorem rv_ones (l : List Rn) : ∀ u ∈ flat rv l, u.oneCell' = true := flat_all rv (fun a u hu => by
  simp only [rv, List.mem_cons, List.not_mem_nil, or_false] at hu
  rcases hu with rfl | rfl | rfl | rfl | rfl <;> rfl) l
set_option maxRecDepth 100000 in
theorem rn_info : (Try.prog.info? 59).map (fun i => (i.zero, i.size, i.bytes)) = some (some (.agg #[.int .i64 0, .int .i64 0, .int .u64 0, .int .u64 0, .int .u64 0]), 5, 40) := by kernel_rfl
set_option maxRecDepth 100000 in
theorem info_parts9 {P : Program} {e : TypeId} {z : Value} {size bytes : Nat} (h : (P.info? e).map (fun i => (i.zero, i.size, i.bytes)) = some (some z, size, bytes)) :
    ∃ i, P.info? e = some i ∧ i.zero = some z ∧ i.size = size ∧ i.bytes = bytes := by
  cases hi : P.info? e with
  | none => rw [hi] at h; cases h
  | some i =>
    rw [hi] at h
    simp only [Option.map_some, Option.some.injEq, Prod.mk.injEq] at h
    exact ⟨i, rfl, h.1, h.2.1, h.2.2⟩
set_option maxRecDepth 100000 in
theorem rns_len {w : World} {B n : Nat} {A : Option Addr} {l : List Rn} (h : Reads w B 5 A n (flat rv l)) : l.length = n := by
  have h1 := h.1
  rw [length_flat rv length_rv] at h1
  omega
set_option maxRecDepth 100000 in
theorem rn_at {w : World} {B n : Nat} {A : Option Addr} {l : List Rn} (h : Reads w B 5 A n (flat rv l)) {j : Nat} {a b : Int} {c d e : Nat} (hj : l[j]? = some (a, b, c, d, e)) :
    ∃ ad, A = some ad ∧ ad.block < B ∧ w.cell? (ad.add (j * 5)) = some (.int .i64 a) ∧ w.cell? ⟨(ad.add (j * 5)).block, (ad.add (j * 5)).off + 1, none⟩ = some (.int .i64 b) ∧ w.cell? ⟨(ad.add (j * 5)).block, (ad.add (j * 5)).off + 2, none⟩ = some (.int .u64 (c : Int)) ∧
      w.cell? ⟨(ad.add (j * 5)).block, (ad.add (j * 5)).off + 3, none⟩ = some (.int .u64 (d : Int)) ∧ w.cell? ⟨(ad.add (j * 5)).block, (ad.add (j * 5)).off + 4, none⟩ = some (.int .u64 (e : Int)) := by
  obtain ⟨ad, e, hb, hc⟩ := h.elem rv length_rv hj (by omega)
  have c1 := hc 1 _ rfl
  have c2 := hc 2 _ rfl
  have c3 := hc 3 _ rfl
  have c4 := hc 4 _ rfl
  rw [add_past ad (j * 5) 0] at c1
  rw [add_past ad (j * 5) 1] at c2
  rw [add_past ad (j * 5) 2] at c3
  rw [add_past ad (j * 5) 3] at c4
  exact ⟨ad, e, hb, hc 0 _ rfl, c1, c2, c3, c4⟩

/-- its Time's number, and its weight -/
def rN (r : Rn) : Nat := r.2.2.1 * 2 ^ 64 + r.2.2.2.1
def rW (r : Rn) : Nat := r.2.2.2.2
/-- its cells are within 64 bits -/
def UR (r : Rn) : Prop := r.2.2.1 < 2 ^ 64 ∧ r.2.2.2.1 < 2 ^ 64 ∧ r.2.2.2.2 < 2 ^ 64
def UQ (l : List Rn) : Prop := ∀ r ∈ l, UR r
set_option maxRecDepth 100000 in
theorem UR.n {r : Rn} (h : UR r) : rN r < 2 ^ 128 := by unfold UR at h; unfold rN; omega
set_option maxRecDepth 100000 in
theorem UR.w {r : Rn} (h : UR r) : rW r < 2 ^ 64 := h.2.2
/-- may a runner be, but for its Id? -/
def rightE (r : Rn) : Bool := decide (1 ≤ r.2.1) && decide (r.2.1 ≤ 8) && rightN (rN r) (rW r)
def idB (i : Int) : Bool := decide (1 ≤ i) && decide (i ≤ 16)
def rightR (r : Rn) : Bool := idB r.1 && rightE r
set_option maxRecDepth 100000 in
theorem rightR_iff {r : Rn} : rightR r = true ↔ (1 ≤ r.1 ∧ r.1 ≤ 16) ∧ (1 ≤ r.2.1 ∧ r.2.1 ≤ 8) ∧ (1 ≤ rW r ∧ rW r ≤ 65535) ∧ rN r < 2 ^ 100 := by
  unfold rightR rightE idB
  constructor
  · intro h
    simp only [Bool.and_eq_true, decide_eq_true_eq] at h
    have h3 := rightN_true h.2.2
    exact ⟨h.1, h.2.1, ⟨h3.1, h3.2.1⟩, h3.2.2⟩
  · rintro ⟨h1, h2, h3, h4⟩
    simp only [Bool.and_eq_true, decide_eq_true_eq]
    exact ⟨h1, h2, rightN_yes h3.1 h3.2 h4⟩
/-- a queue that may be -/
structure RQ (l : List Rn) : Prop where
  rise : Rise l
  each : ∀ r ∈ l, rightR r = true
def rightQ (l : List Rn) : Bool := riseF 16 0 l && l.all rightR
set_option maxRecDepth 100000 in
theorem rightQ_iff {l : List Rn} : rightQ l = true ↔ RQ l := by
  unfold rightQ
  rw [Bool.and_eq_true, riseF_iff, List.all_eq_true]
  constructor
  · rintro ⟨⟨h1, _⟩, h3⟩; exact ⟨h1, h3⟩
  · rintro ⟨h1, h3⟩
    exact ⟨⟨h1, fun x hx => by have := rightR_iff.1 (h3 x hx); omega⟩, h3⟩
set_option maxRecDepth 100000 in
theorem rightQ_no {l : List Rn} (h : RQ l → False) : rightQ l = false := by
  cases e : rightQ l with
  | false => rfl
  | true => exact (h (rightQ_iff.1 e)).elim
set_option maxRecDepth 100000 in
theorem RQ.len {l : List Rn} (h : RQ l) : l.length ≤ 16 := rise_len h.rise (lo := 0) fun y hy => by
  have := rightR_iff.1 (h.each y hy)
  omega
set_option maxRecDepth 100000 in
theorem RQ.nil : RQ [] := ⟨List.Pairwise.nil, fun _ h => by cases h⟩
set_option maxRecDepth 100000 in
theorem RQ.out {l : List Rn} (h : RQ l) {i : Int} (hi : idB i = false) : kf l i = none := kf_none.2 fun y hy e => by
  have := rightR_iff.1 (h.each y hy)
  unfold idB at hi
  simp at hi
  omega
set_option maxRecDepth 100000 in
theorem RQ.set {l : List Rn} (h : RQ l) {r s : Rn} (hr : rightR r = true) (hk : kf l r.1 = some s) : RQ (setK l r) := ⟨rise_set h.rise hk, fun y hy => by
  rcases (mem_set h.rise hk).1 hy with rfl | hy
  · exact hr
  · exact h.each y hy.1⟩
set_option maxRecDepth 100000 in
theorem RQ.del {l : List Rn} (h : RQ l) {i : Int} {s : Rn} (hk : kf l i = some s) : RQ (delK l i) := ⟨rise_del h.rise i, fun y hy => h.each y ((mem_del h.rise hk).1 hy).1⟩

/-! ### the Times, and the greatest -/
/-- the first of the greatest of the first n -/
def topK (a b : Nat → Nat) : Nat → Nat
  | 0 => 0
  | k + 1 => if a (topK a b k) * b k < a k * b (topK a b k) then k else topK a b k
set_option maxRecDepth 100000 in
theorem topK_up {a b : Nat → Nat} : ∀ n, (∀ j, j < n → 0 < b j) → Up a b n (topK a b n)
  | 0, _ => .inl ⟨rfl, rfl⟩
  | n + 1, hb => by
    have ih := topK_up (a := a) n (fun j hj => hb j (by omega))
    unfold topK
    split
    · rename_i hg; exact ih.yes (fun j hj => hb j (by omega)) hg
    · rename_i hg; exact ih.no hg
set_option maxRecDepth 100000 in
theorem topK_top {a b : Nat → Nat} {n : Nat} (hn : 0 < n) (hb : ∀ j, j < n → 0 < b j) : Top a b n (topK a b n) := by
  rcases topK_up (a := a) n hb with h | h
  · omega
  · exact h
/-- where the greatest is, among right ones -/
def topI (l : List (Nat × Nat × Nat)) : Nat := topK (aF l) (bF l) l.length
set_option maxRecDepth 100000 in
theorem found_some {l : List (Nat × Nat × Nat)} (h0 : 0 < l.length) (h : allB l = true) : Found Top l (topI l) true := .inl ⟨rfl, h0, h, topK_top h0 (bF_pos h)⟩
def fN (f : Nat × Nat × Nat) : Nat := f.1 * 2 ^ 64 + f.2.1
def fW (f : Nat × Nat × Nat) : Nat := f.2.2
/-! ### what the calls answer -/
def chkQ (l : List Rn) : Int := if rightQ l = true then 0 else 200
def riseI : Int → List Int → Bool
  | _, [] => true
  | last, i :: is => decide (last < i) && decide (i ≤ 16) && riseI i is
end Go.Proofs.Ytngbamoffjlodaa
