/-
  Rows by rising numbers: plain mathematics. No statement is proved here.
-/
import Derived.Test.YtfgabmelmopgdaaKt
namespace Go.Proofs.Ytfgabmelmopgdaa
open Go.RowKit

section
variable {β : Type}
/-- by rising numbers -/
def Rise (l : List (Int × β)) : Prop := l.Pairwise (fun a b => a.1 < b.1)
/-- the row of a number -/
def kf (l : List (Int × β)) (id : Int) : Option (Int × β) := l.find? fun d => d.1 == id
/-- how many have a lower number -/
def low (l : List (Int × β)) (id : Int) : Nat := l.countP fun x => decide (x.1 < id)
theorem rise_cons {a : Int × β} {l : List (Int × β)} : Rise (a :: l) ↔ (∀ y ∈ l, a.1 < y.1) ∧ Rise l := List.pairwise_cons
theorem kf_some {l : List (Int × β)} {id : Int} {x : Int × β} (h : kf l id = some x) : x ∈ l ∧ x.1 = id := by
  unfold kf at h
  refine ⟨List.mem_of_find?_eq_some h, ?_⟩
  have := List.find?_some h
  simpa using this
theorem kf_cons (a : Int × β) (l : List (Int × β)) (id : Int) : kf (a :: l) id = if a.1 = id then some a else kf l id := by
  unfold kf
  rw [List.find?_cons]
  by_cases h : a.1 = id
  · rw [if_pos h, show (a.1 == id) = true from by simpa using h]
  · rw [if_neg h, show (a.1 == id) = false from by simpa using h]
theorem kf_mem {l : List (Int × β)} (hR : Rise l) {x : Int × β} (h : x ∈ l) : kf l x.1 = some x := by
  induction l with
  | nil => cases h
  | cons a l ih =>
    obtain ⟨h1, h2⟩ := rise_cons.1 hR
    rw [kf_cons]
    rcases List.mem_cons.1 h with e | e
    · subst e; rw [if_pos rfl]
    · have := h1 x e
      rw [if_neg (by omega)]
      exact ih h2 e
theorem kf_iff {l : List (Int × β)} (hR : Rise l) {id : Int} {x : Int × β} : kf l id = some x ↔ x ∈ l ∧ x.1 = id :=
  ⟨kf_some, fun h => h.2 ▸ kf_mem hR h.1⟩
theorem kf_none {l : List (Int × β)} {id : Int} : kf l id = none ↔ ∀ y ∈ l, y.1 ≠ id := by
  unfold kf
  simp [List.find?_eq_none]
theorem rise_ext {l m : List (Int × β)} (hl : Rise l) (hm : Rise m) (h : ∀ y, y ∈ l ↔ y ∈ m) : l = m := by
  induction l generalizing m with
  | nil =>
    cases m with
    | nil => rfl
    | cons b m => have := (h b).2 (by simp); cases this
  | cons a l ih =>
    cases m with
    | nil => have := (h a).1 (by simp); cases this
    | cons b m =>
      obtain ⟨l1, l2⟩ := rise_cons.1 hl
      obtain ⟨m1, m2⟩ := rise_cons.1 hm
      have hab : a = b := by
        rcases List.mem_cons.1 ((h a).1 (by simp)) with e | e
        · exact e
        · rcases List.mem_cons.1 ((h b).2 (by simp)) with e2 | e2
          · exact e2.symm
          · have := m1 a e
            have := l1 b e2
            omega
      subst hab
      rw [ih l2 m2 (fun y => ?_)]
      constructor
      · intro hy
        rcases List.mem_cons.1 ((h y).1 (List.mem_cons_of_mem _ hy)) with e | e
        · subst e; have := l1 y hy; omega
        · exact e
      · intro hy
        rcases List.mem_cons.1 ((h y).2 (List.mem_cons_of_mem _ hy)) with e | e
        · subst e; have := m1 y hy; omega
        · exact e
theorem low_le (l : List (Int × β)) (id : Int) : low l id ≤ l.length := List.countP_le_length
theorem low_up {a : Int × β} {l : List (Int × β)} {id : Int} (h : a.1 < id) : low (a :: l) id = low l id + 1 := by
  unfold low
  rw [List.countP_cons, if_pos (by simpa using h)]
theorem low_zero {l : List (Int × β)} {id : Int} (h : ∀ y ∈ l, id ≤ y.1) : low l id = 0 := by
  unfold low
  rw [List.countP_eq_zero]
  intro y hy
  have := h y hy
  simp; omega
theorem low_stop {a : Int × β} {l : List (Int × β)} {id : Int} (hR : Rise (a :: l)) (h : ¬ a.1 < id) : low (a :: l) id = 0 := by
  refine low_zero fun y hy => ?_
  rcases List.mem_cons.1 hy with e | e
  · subst e; omega
  · have := (rise_cons.1 hR).1 y e; omega
theorem low_lt {l : List (Int × β)} (hR : Rise l) {id : Int} {k : Nat} {x : Int × β} (hx : l[k]? = some x) : x.1 < id ↔ k < low l id := by
  induction l generalizing k with
  | nil => simp at hx
  | cons a l ih =>
    obtain ⟨h1, h2⟩ := rise_cons.1 hR
    by_cases ha : a.1 < id
    · rw [low_up ha]
      cases k with
      | zero => simp at hx; subst hx; constructor <;> intro _ <;> omega
      | succ k =>
        have := ih h2 (k := k) (by simpa using hx)
        constructor
        · intro h; have := this.1 h; omega
        · intro h; exact this.2 (by omega)
    · rw [low_stop hR ha]
      constructor
      · intro h
        cases k with
        | zero => simp at hx; subst hx; exact absurd h ha
        | succ k =>
          have hm : x ∈ l := List.mem_of_getElem? (show l[k]? = some x by simpa using hx)
          have := h1 x hm
          omega
      · intro h; omega
/-- what stands at the place of a number -/
theorem low_at {l : List (Int × β)} (hR : Rise l) {id : Int} {x : Int × β} (h : kf l id = some x) : l[low l id]? = some x := by
  induction l with
  | nil => simp [kf] at h
  | cons a l ih =>
    obtain ⟨h1, h2⟩ := rise_cons.1 hR
    rw [kf_cons] at h
    by_cases he : a.1 = id
    · rw [if_pos he] at h
      rw [low_stop hR (by omega)]
      simpa using h
    · rw [if_neg he] at h
      have hx := kf_some h
      have := h1 x hx.1
      rw [low_up (by omega)]
      simpa using ih h2 h
theorem low_eq {l : List (Int × β)} (hR : Rise l) {id : Int} {x : Int × β} (h : l[low l id]? = some x) (he : x.1 = id) : kf l id = some x := he ▸ kf_mem hR (List.mem_of_getElem? h)
theorem low_none {l : List (Int × β)} (hR : Rise l) {id : Int} (h : ∀ x, l[low l id]? = some x → x.1 ≠ id) : kf l id = none := by
  cases hk : kf l id with
  | none => rfl
  | some x => exact absurd (kf_some hk).2 (h x (low_at hR hk))
/-- any place with the property is the place -/
theorem low_unique {l : List (Int × β)} (hR : Rise l) {id : Int} {j : Nat} (hj : j ≤ l.length) (hlo : ∀ k x, k < j → l[k]? = some x → x.1 < id) (hhi : ∀ k x, j ≤ k → l[k]? = some x → id ≤ x.1) : low l id = j := by
  have h1 := low_le l id
  rcases Nat.lt_trichotomy (low l id) j with h | h | h
  · have hx : l[low l id]? = some (l[low l id]'(by omega)) := List.getElem?_eq_getElem (by omega)
    have := (low_lt hR hx).1 (hlo _ _ h hx)
    omega
  · exact h
  · have hx : l[j]? = some (l[j]'(by omega)) := List.getElem?_eq_getElem (by omega)
    have := (low_lt hR hx).2 h
    have := hhi _ _ (Nat.le_refl _) hx
    omega

/-! ### one more, another, one less -/
def insK (l : List (Int × β)) (x : Int × β) : List (Int × β) := l.take (low l x.1) ++ x :: l.drop (low l x.1)
def setK (l : List (Int × β)) (x : Int × β) : List (Int × β) := l.set (low l x.1) x
def delK (l : List (Int × β)) (id : Int) : List (Int × β) := l.eraseIdx (low l id)
theorem insK_up {a x : Int × β} {l : List (Int × β)} (h : a.1 < x.1) : insK (a :: l) x = a :: insK l x := by unfold insK; rw [low_up h]; rfl
theorem insK_stop {a x : Int × β} {l : List (Int × β)} (hR : Rise (a :: l)) (h : ¬ a.1 < x.1) : insK (a :: l) x = x :: a :: l := by unfold insK; rw [low_stop hR h]; rfl
theorem mem_ins {l : List (Int × β)} {x y : Int × β} : y ∈ insK l x ↔ y = x ∨ y ∈ l := by
  unfold insK
  rw [List.mem_append, List.mem_cons]
  constructor
  · rintro (h | h | h)
    · exact .inr (List.mem_of_mem_take h)
    · exact .inl h
    · exact .inr (List.mem_of_mem_drop h)
  · rintro (h | h)
    · exact .inr (.inl h)
    · rw [← List.take_append_drop (low l x.1) l, List.mem_append] at h
      rcases h with h | h
      · exact .inl h
      · exact .inr (.inr h)
theorem rise_ins {l : List (Int × β)} (hR : Rise l) {x : Int × β} (h : kf l x.1 = none) : Rise (insK l x) := by
  induction l with
  | nil => exact rise_cons.2 ⟨fun _ h => by simp at h, List.Pairwise.nil⟩
  | cons a l ih =>
    obtain ⟨h1, h2⟩ := rise_cons.1 hR
    rw [kf_cons] at h
    by_cases he : a.1 = x.1
    · rw [if_pos he] at h; cases h
    · rw [if_neg he] at h
      by_cases ha : a.1 < x.1
      · rw [insK_up ha]
        refine rise_cons.2 ⟨fun y hy => ?_, ih h2 h⟩
        rcases mem_ins.1 hy with e | e
        · subst e; exact ha
        · exact h1 y e
      · rw [insK_stop hR ha]
        refine rise_cons.2 ⟨fun y hy => ?_, hR⟩
        rcases List.mem_cons.1 hy with e | e
        · subst e; omega
        · have := h1 y e; omega
theorem len_ins (l : List (Int × β)) (x : Int × β) : (insK l x).length = l.length + 1 := by
  have := low_le l x.1
  unfold insK
  simp; omega
theorem setK_eq {l : List (Int × β)} (hR : Rise l) {x y : Int × β} (h : kf l x.1 = some y) : setK l x = l.map fun z => if z.1 = x.1 then x else z := by
  induction l with
  | nil => simp [kf] at h
  | cons a l ih =>
    obtain ⟨h1, h2⟩ := rise_cons.1 hR
    rw [kf_cons] at h
    by_cases he : a.1 = x.1
    · unfold setK
      rw [low_stop hR (by omega), List.map_cons, if_pos he]
      show x :: l = _
      congr 1
      have : l.map (fun z => if z.1 = x.1 then x else z) = l.map id := List.map_congr_left fun z hz => by
        have := h1 z hz
        rw [if_neg (by omega)]; rfl
      rw [this, List.map_id]
    · rw [if_neg he] at h
      have hy := kf_some h
      have := h1 y hy.1
      have ih2 := ih h2 h
      unfold setK at ih2 ⊢
      rw [low_up (by omega), List.map_cons, if_neg he, List.set_cons_succ, ih2]
theorem delK_eq {l : List (Int × β)} (hR : Rise l) {id : Int} {y : Int × β} (h : kf l id = some y) : delK l id = l.filter fun z => z.1 != id := by
  induction l with
  | nil => simp [kf] at h
  | cons a l ih =>
    obtain ⟨h1, h2⟩ := rise_cons.1 hR
    rw [kf_cons] at h
    by_cases he : a.1 = id
    · unfold delK
      rw [low_stop hR (by omega), List.filter_cons, if_neg (by simp [he])]
      show l = _
      exact (List.filter_eq_self.2 fun z hz => by
        have := h1 z hz
        simp; omega).symm
    · rw [if_neg he] at h
      have hy := kf_some h
      have := h1 y hy.1
      have ih2 := ih h2 h
      unfold delK at ih2 ⊢
      rw [low_up (by omega), List.filter_cons, if_pos (by simp [he]), List.eraseIdx_cons_succ, ih2]
theorem mem_set {l : List (Int × β)} (hR : Rise l) {x y z : Int × β} (h : kf l x.1 = some y) : z ∈ setK l x ↔ z = x ∨ (z ∈ l ∧ z.1 ≠ x.1) := by
  rw [setK_eq hR h, List.mem_map]
  constructor
  · rintro ⟨a, ha, rfl⟩
    by_cases he : a.1 = x.1
    · rw [if_pos he]; exact .inl rfl
    · rw [if_neg he]; exact .inr ⟨ha, he⟩
  · rintro (rfl | ⟨h1, h2⟩)
    · exact ⟨y, (kf_some h).1, if_pos (kf_some h).2⟩
    · exact ⟨z, h1, if_neg h2⟩
theorem rise_set {l : List (Int × β)} (hR : Rise l) {x y : Int × β} (h : kf l x.1 = some y) : Rise (setK l x) := by
  rw [setK_eq hR h]
  unfold Rise
  rw [List.pairwise_map]
  refine List.Pairwise.imp (fun {a b} hab => ?_) hR
  have e : ∀ z : Int × β, (if z.1 = x.1 then x else z).1 = z.1 := fun z => by
    by_cases hz : z.1 = x.1
    · rw [if_pos hz]; exact hz.symm
    · rw [if_neg hz]
  rw [e, e]
  exact hab
theorem mem_del {l : List (Int × β)} (hR : Rise l) {id : Int} {y z : Int × β} (h : kf l id = some y) : z ∈ delK l id ↔ z ∈ l ∧ z.1 ≠ id := by
  rw [delK_eq hR h, List.mem_filter]
  simp
theorem rise_del {l : List (Int × β)} (hR : Rise l) (id : Int) : Rise (delK l id) := List.Pairwise.sublist (List.eraseIdx_sublist _ _) hR
theorem len_set (l : List (Int × β)) (x : Int × β) : (setK l x).length = l.length := List.length_set
theorem len_del {l : List (Int × β)} (hR : Rise l) {id : Int} {y : Int × β} (h : kf l id = some y) : (delK l id).length + 1 = l.length := by
  have := (List.getElem?_eq_some_iff.1 (low_at hR h)).1
  unfold delK
  rw [List.length_eraseIdx, if_pos this]
  omega
theorem kf_ins {l : List (Int × β)} (hR : Rise l) {x : Int × β} (h : kf l x.1 = none) (id : Int) : kf (insK l x) id = if id = x.1 then some x else kf l id := by
  by_cases he : id = x.1
  · rw [if_pos he, kf_iff (rise_ins hR h)]
    exact ⟨mem_ins.2 (.inl rfl), he.symm⟩
  · rw [if_neg he]
    cases hk : kf l id with
    | some y => rw [kf_iff (rise_ins hR h)]; exact ⟨mem_ins.2 (.inr (kf_some hk).1), (kf_some hk).2⟩
    | none =>
      rw [kf_none] at hk ⊢
      intro y hy
      rcases mem_ins.1 hy with e | e
      · subst e; exact fun h => he h.symm
      · exact hk y e
theorem kf_set {l : List (Int × β)} (hR : Rise l) {x y : Int × β} (h : kf l x.1 = some y) (id : Int) : kf (setK l x) id = if id = x.1 then some x else kf l id := by
  by_cases he : id = x.1
  · rw [if_pos he, kf_iff (rise_set hR h)]
    exact ⟨(mem_set hR h).2 (.inl rfl), he.symm⟩
  · rw [if_neg he]
    cases hk : kf l id with
    | some z => rw [kf_iff (rise_set hR h)]; exact ⟨(mem_set hR h).2 (.inr ⟨(kf_some hk).1, by rw [(kf_some hk).2]; exact he⟩), (kf_some hk).2⟩
    | none =>
      rw [kf_none] at hk ⊢
      intro z hz
      rcases (mem_set hR h).1 hz with e | e
      · subst e; exact fun h => he h.symm
      · exact hk z e.1
theorem kf_del {l : List (Int × β)} (hR : Rise l) {i : Int} {y : Int × β} (h : kf l i = some y) (id : Int) : kf (delK l i) id = if id = i then none else kf l id := by
  by_cases he : id = i
  · rw [if_pos he, kf_none]
    intro z hz
    have := ((mem_del hR h).1 hz).2
    omega
  · rw [if_neg he]
    cases hk : kf l id with
    | some z => rw [kf_iff (rise_del hR i)]; exact ⟨(mem_del hR h).2 ⟨(kf_some hk).1, by rw [(kf_some hk).2]; exact he⟩, (kf_some hk).2⟩
    | none =>
      rw [kf_none] at hk ⊢
      intro z hz
      exact hk z ((mem_del hR h).1 hz).1
/-- and back -/
theorem del_ins {l : List (Int × β)} (hR : Rise l) {x : Int × β} (h : kf l x.1 = none) : delK (insK l x) x.1 = l := by
  have hk : kf (insK l x) x.1 = some x := by rw [kf_ins hR h, if_pos rfl]
  refine rise_ext (rise_del (rise_ins hR h) _) hR fun y => ?_
  rw [mem_del (rise_ins hR h) hk, mem_ins]
  constructor
  · rintro ⟨rfl | h1, h2⟩
    · exact absurd rfl h2
    · exact h1
  · exact fun h1 => ⟨.inr h1, kf_none.1 h y h1⟩
theorem ins_del {l : List (Int × β)} (hR : Rise l) {x : Int × β} (h : kf l x.1 = some x) : insK (delK l x.1) x = l := by
  have hk : kf (delK l x.1) x.1 = none := by rw [kf_del hR h, if_pos rfl]
  refine rise_ext (rise_ins (rise_del hR _) hk) hR fun y => ?_
  rw [mem_ins, mem_del hR h]
  constructor
  · rintro (rfl | h1)
    · exact (kf_some h).1
    · exact h1.1
  · intro h1
    by_cases he : y.1 = x.1
    · left
      have := kf_mem hR h1
      rw [he, h] at this
      exact (Option.some.inj this).symm
    · exact .inr ⟨h1, he⟩
theorem set_set {l : List (Int × β)} (hR : Rise l) {x y : Int × β} (h : kf l x.1 = some y) : setK (setK l x) y = l := by
  have e : y.1 = x.1 := (kf_some h).2
  have hk : kf (setK l x) y.1 = some x := by rw [kf_set hR h, if_pos e]
  refine rise_ext (rise_set (rise_set hR h) hk) hR fun z => ?_
  rw [mem_set (rise_set hR h) hk, mem_set hR h]
  constructor
  · rintro (rfl | ⟨rfl | h1, h2⟩)
    · exact (kf_some h).1
    · exact absurd e.symm h2
    · exact h1.1
  · intro h1
    by_cases he : z.1 = x.1
    · left
      have := kf_mem hR h1
      rw [he, h] at this
      exact (Option.some.inj this).symm
    · exact .inr ⟨.inr ⟨h1, he⟩, by omega⟩

/-! ### made by numbers -/
def mk (f : Int → Option (Int × β)) : Nat → List (Int × β)
  | 0 => []
  | k + 1 => mk f k ++ (f ((k + 1 : Nat) : Int)).toList
theorem mem_mk {f : Int → Option (Int × β)} {k : Nat} {y : Int × β} : y ∈ mk f k ↔ ∃ s : Nat, 1 ≤ s ∧ s ≤ k ∧ f (s : Int) = some y := by
  induction k with
  | zero => constructor
            · intro h; cases h
            · rintro ⟨s, h1, h2, _⟩; omega
  | succ k ih =>
    unfold mk
    rw [List.mem_append, ih, Option.mem_toList]
    constructor
    · rintro (⟨s, h1, h2, h3⟩ | h)
      · exact ⟨s, h1, by omega, h3⟩
      · exact ⟨k + 1, by omega, by omega, h⟩
    · rintro ⟨s, h1, h2, h3⟩
      by_cases e : s = k + 1
      · subst e; exact .inr h3
      · exact .inl ⟨s, h1, by omega, h3⟩
theorem rise_mk {f : Int → Option (Int × β)} (hf : ∀ s y, f s = some y → y.1 = s) (k : Nat) : Rise (mk f k) := by
  induction k with
  | zero => exact List.Pairwise.nil
  | succ k ih =>
    unfold mk Rise
    rw [List.pairwise_append]
    refine ⟨ih, ?_, fun a ha b hb => ?_⟩
    · cases f ((k + 1 : Nat) : Int) with
      | none => exact List.Pairwise.nil
      | some y => exact List.pairwise_singleton _ _
    · obtain ⟨s, h1, h2, h3⟩ := mem_mk.1 ha
      rw [Option.mem_toList] at hb
      have := hf _ _ h3
      have := hf _ _ hb
      omega
/-- rows whose numbers lie in it are what is made of them -/
theorem mk_eq {f : Int → Option (Int × β)} {l : List (Int × β)} {k : Nat} (hR : Rise l) (hf : ∀ s y, f s = some y → y.1 = s) (hb : ∀ y ∈ l, 1 ≤ y.1 ∧ y.1 ≤ k) (h : ∀ s : Int, 1 ≤ s → s ≤ k → f s = kf l s) : mk f k = l := by
  refine rise_ext (rise_mk hf k) hR fun y => ?_
  rw [mem_mk]
  constructor
  · rintro ⟨s, h1, h2, h3⟩
    rw [h _ (by omega) (by omega)] at h3
    exact (kf_some h3).1
  · intro hy
    obtain ⟨h1, h2⟩ := hb y hy
    refine ⟨y.1.toNat, by omega, by omega, ?_⟩
    rw [h _ (by omega) (by omega), show ((y.1.toNat : Nat) : Int) = y.1 by omega]
    exact kf_mem hR hy

/-! ### do they rise? -/
def riseF (most last : Int) : List (Int × β) → Bool
  | [] => true
  | x :: r => decide (last < x.1) && decide (x.1 ≤ most) && riseF most x.1 r
theorem riseF_iff {most last : Int} {l : List (Int × β)} : riseF most last l = true ↔ Rise l ∧ ∀ x ∈ l, last < x.1 ∧ x.1 ≤ most := by
  induction l generalizing last with
  | nil => simp [riseF, Rise]
  | cons a l ih =>
    unfold riseF
    rw [Bool.and_eq_true, Bool.and_eq_true, decide_eq_true_eq, decide_eq_true_eq, ih, rise_cons]
    constructor
    · rintro ⟨⟨h1, h2⟩, h3, h4⟩
      refine ⟨⟨fun y hy => (h4 y hy).1, h3⟩, fun x hx => ?_⟩
      rcases List.mem_cons.1 hx with e | e
      · subst e; exact ⟨h1, h2⟩
      · have := h4 x e; exact ⟨by omega, this.2⟩
    · rintro ⟨⟨h1, h2⟩, h3⟩
      exact ⟨h3 a (by simp), h2, fun x hx => ⟨h1 x hx, (h3 x (by simp [hx])).2⟩⟩
theorem riseF_at {most last : Int} {l : List (Int × β)} {k : Nat} {x : Int × β} (h : l[k]? = some x) : riseF most last (l.drop k) = (decide (last < x.1) && decide (x.1 ≤ most) && riseF most x.1 (l.drop (k + 1))) := by
  have hk := (List.getElem?_eq_some_iff.1 h).1
  have e : l.drop k = x :: l.drop (k + 1) := by
    rw [List.drop_eq_getElem_cons hk]
    congr 1
    exact (List.getElem?_eq_some_iff.1 h).2
  rw [e]
  rfl
/-- few, when their numbers lie between -/
theorem rise_len {l : List (Int × β)} (hR : Rise l) {lo : Int} {m : Nat} (h : ∀ y ∈ l, lo < y.1 ∧ y.1 ≤ lo + m) : l.length ≤ m := by
  induction l generalizing lo m with
  | nil => simp
  | cons a l ih =>
    obtain ⟨h1, h2⟩ := rise_cons.1 hR
    have ha := h a (by simp)
    have : l.length ≤ (lo + m - a.1).toNat := ih h2 (lo := a.1) fun y hy => ⟨h1 y hy, by have := (h y (by simp [hy])).2; omega⟩
    rw [List.length_cons]
    omega
/-- neighbours that rise -/
theorem rise_step {l : List (Int × β)} (h : ∀ i x y, l[i]? = some x → l[i + 1]? = some y → x.1 < y.1) : Rise l := by
  induction l with
  | nil => exact List.Pairwise.nil
  | cons a l ih =>
    have h2 : Rise l := ih fun i x y hx hy => h (i + 1) x y (by simpa using hx) (by simpa using hy)
    refine rise_cons.2 ⟨fun y hy => ?_, h2⟩
    cases l with
    | nil => cases hy
    | cons b l =>
      have hab := h 0 a b (by simp) (by simp)
      rcases List.mem_cons.1 hy with e | e
      · subst e; exact hab
      · have := (rise_cons.1 h2).1 y e; omega
theorem rise_next {l : List (Int × β)} (hR : Rise l) {i : Nat} {x y : Int × β} (hx : l[i]? = some x) (hy : l[i + 1]? = some y) : x.1 < y.1 := by
  have h := List.pairwise_iff_getElem.1 hR
  obtain ⟨i1, rfl⟩ := List.getElem?_eq_some_iff.1 hx
  obtain ⟨i2, rfl⟩ := List.getElem?_eq_some_iff.1 hy
  exact h i (i + 1) i1 i2 (by omega)
end

end Go.Proofs.Ytfgabmelmopgdaa
