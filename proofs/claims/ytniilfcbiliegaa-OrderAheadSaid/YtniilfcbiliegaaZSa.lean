/-
  The document's Ahead and First, and the landed ones: plain mathematics. No statement is proved here.
-/
import Derived.Test.YtniilfcbiliegaaZRb
import Derived.Test.YtniilfcbiliegaaZOe
namespace Go.Proofs.Ytniilfcbiliegaa
open Go.RowKit Go.Maps

theorem stand_self (x : Et) : standI x x = 0 := by
  have := stand_cmp.neg x x
  omega
theorem ahead_self (x : Et) : aheadE x x = false := by
  unfold aheadE
  rw [stand_self]
  simp
/-- what the fold has found -/
structure Best (l : List En) (b : Option En) : Prop where
  no : b = none → ∀ x ∈ l, canE (et x) = false
  yes : ∀ y, b = some y → ∃ i : Nat, l[i]? = some y ∧ canE (et y) = true ∧ (∀ z ∈ l, aheadE (et z) (et y) = false) ∧ ∀ (j : Nat) (x : En), j < i → l[j]? = some x → canE (et x) = true → aheadE (et y) (et x) = true
theorem not_ahead {a b : Et} (hb : canE b = true) (h : canE a = true → 0 ≤ standI a b) : aheadE a b = false := by
  cases ha : canE a with
  | false => unfold aheadE; rw [ha]; rfl
  | true => rw [aheadE_yes ha hb]; exact decide_eq_false (by have := h ha; omega)
theorem best_snoc {l : List En} {b : Option En} (h : Best l b) (x : En) : Best (l ++ [x]) (firstS b x) := by
  cases b with
  | none =>
    have hn := h.no rfl
    cases hc : canE (et x) with
    | false =>
      have e : firstS none x = none := by unfold firstS; simp only; rw [if_neg (by rw [hc]; decide)]
      rw [e]
      refine ⟨fun _ z hz => ?_, (fun y hy => by cases hy)⟩
      rcases List.mem_append.1 hz with h1 | h1
      · exact hn z h1
      · rw [List.mem_singleton.1 h1]; exact hc
    | true =>
      have e : firstS none x = some x := by unfold firstS; simp only; rw [if_pos hc]
      rw [e]
      refine ⟨(fun h => by cases h), fun y hy => ?_⟩
      obtain rfl : x = y := Option.some.inj hy
      refine ⟨l.length, by simp, hc, fun z hz => ?_, fun j z hj hz hcz => ?_⟩
      · rcases List.mem_append.1 hz with h1 | h1
        · exact not_ahead hc fun h2 => by rw [hn z h1] at h2; cases h2
        · rw [List.mem_singleton.1 h1]; exact ahead_self _
      · rw [List.getElem?_append_left hj] at hz
        rw [hn z (List.mem_of_getElem? hz)] at hcz
        cases hcz
  | some y =>
    obtain ⟨i, hi, hc, hall, hbef⟩ := h.yes y rfl
    have hle : ∀ z ∈ l, canE (et z) = true → standI (et y) (et z) ≤ 0 := fun z hz hcz => by
      have h1 := hall z hz
      rw [aheadE_yes hcz hc] at h1
      have h2 := of_decide_eq_false h1
      have := stand_cmp.neg (et y) (et z)
      omega
    cases ha : aheadE (et x) (et y) with
    | true =>
      have e : firstS (some y) x = some x := by unfold firstS; simp only; rw [if_pos ha]
      have hcx : canE (et x) = true := by
        have := ha
        unfold aheadE at this
        simp only [Bool.and_eq_true] at this
        exact this.1.1
      have hlt : standI (et x) (et y) < 0 := by
        rw [aheadE_yes hcx hc] at ha
        exact of_decide_eq_true ha
      have hxz : ∀ z ∈ l, canE (et z) = true → standI (et x) (et z) < 0 := fun z hz hcz =>
        (stand_cmp.tr (et x) (et y) (et z) hcx hc hcz (by omega) (hle z hz hcz)).2 (.inl hlt)
      rw [e]
      refine ⟨(fun h => by cases h), fun y2 hy => ?_⟩
      obtain rfl : x = y2 := Option.some.inj hy
      refine ⟨l.length, by simp, hcx, fun z hz => ?_, fun j z hj hz hcz => ?_⟩
      · rcases List.mem_append.1 hz with h1 | h1
        · refine not_ahead hcx fun hcz => ?_
          have h2 := hxz z h1 hcz
          have := stand_cmp.neg (et z) (et x)
          omega
        · rw [List.mem_singleton.1 h1]; exact ahead_self _
      · rw [List.getElem?_append_left hj] at hz
        rw [aheadE_yes hcx hcz]
        exact decide_eq_true (hxz z (List.mem_of_getElem? hz) hcz)
    | false =>
      have e : firstS (some y) x = some y := by unfold firstS; simp only; rw [if_neg (by rw [ha]; decide)]
      rw [e]
      have hil := (List.getElem?_eq_some_iff.1 hi).1
      refine ⟨(fun h => by cases h), fun y2 hy => ?_⟩
      obtain rfl : y = y2 := Option.some.inj hy
      refine ⟨i, by rw [List.getElem?_append_left hil]; exact hi, hc, fun z hz => ?_, fun j z hj hz hcz => ?_⟩
      · rcases List.mem_append.1 hz with h1 | h1
        · exact hall z h1
        · rw [List.mem_singleton.1 h1]; exact ha
      · rw [List.getElem?_append_left (by omega)] at hz
        exact hbef j z hj hz hcz
theorem best_fold : ∀ (m l : List En) (b : Option En), Best l b → Best (l ++ m) (m.foldl firstS b)
  | [], l, b, h => by rw [List.append_nil]; exact h
  | x :: m, l, b, h => by
    rw [List.foldl_cons, show l ++ x :: m = (l ++ [x]) ++ m from by simp]
    exact best_fold m _ _ (best_snoc h x)
theorem best_first (l : List En) : Best l (firstK l) := by
  have := best_fold l [] none ⟨(fun _ x hx => by cases hx), (fun y hy => by cases hy)⟩
  rwa [List.nil_append] at this
/-- is it one ahead of which none of l stands? -/
def bestB (l : List En) (x : En) : Bool := canE (et x) && l.all fun y => !aheadE (et y) (et x)
/-- the document's first one -/
def firstD (l : List En) : Option En := l.find? (bestB l)
theorem first_same (l : List En) : firstD l = firstK l := by
  have h := best_first l
  cases hb : firstK l with
  | none =>
    refine List.find?_eq_none.2 fun x hx => ?_
    unfold bestB
    rw [h.no hb x hx]
    simp
  | some y =>
    obtain ⟨i, hi, hc, hall, hbef⟩ := h.yes y hb
    obtain ⟨hil, ei⟩ := List.getElem?_eq_some_iff.1 hi
    refine List.find?_eq_some_iff_getElem.2 ⟨?_, i, hil, ei, fun j hj => ?_⟩
    · unfold bestB
      rw [hc, Bool.true_and, List.all_eq_true]
      exact fun z hz => by rw [hall z hz]; rfl
    · have hjl : j < l.length := by omega
      cases hcj : canE (et l[j]) with
      | false => unfold bestB; rw [hcj]; rfl
      | true =>
        have h1 := hbef j l[j] hj (List.getElem?_eq_getElem hjl) hcj
        unfold bestB
        rw [hcj, Bool.true_and, Bool.not_eq_true', List.all_eq_false]
        exact ⟨y, List.mem_of_getElem? hi, by rw [h1]; simp⟩

theorem ask_can {n h l x o : Nat} {f : Bool} {is : List Int} (hl : is.length = n) (hu : l < 2 ^ 64) : askB n h x = canE (is, (h, l, x), o, f) := by
  unfold askB canE fN fW
  simp only
  rw [rightN_of hu, hl]
theorem lex_lt {x y : Int} : (lex x y < 0) = (x < 0 ∨ (x = 0 ∧ y < 0)) := by
  unfold lex
  apply propext
  split <;> omega
theorem cmpW_cases (x y : Nat) : (cmpW x y < 0 ↔ x < y) ∧ (cmpW x y = 0 ↔ x = y) := ⟨cmpW_neg_iff, cmpW_zero⟩
theorem cmpY_neg {a b : Int} : cmpY a b < 0 ↔ a < b := by
  unfold cmpY
  (repeat' split) <;> omega
theorem cmp_two (a b : Nat) : cmpW a b = cmpI a b := rfl
theorem ahead_doc {n h l x o n' h' l' x' o' : Nat} {f f' : Bool} {is is' : List Int} (hl : is.length = n) (hl' : is'.length = n') (hu : l < 2 ^ 64) (hu' : l' < 2 ^ 64) :
    (askB n h x && askB n' h' x' && aheadB f f' (cmpI ((h * 2 ^ 64 + l) * x') ((h' * 2 ^ 64 + l') * x)) o o' (is.getD 0 0) (is'.getD 0 0)) = aheadE (is, (h, l, x), o, f) (is', (h', l', x'), o', f') := by
  rw [ask_can (o := o) (f := f) hl hu, ask_can (o := o') (f := f') hl' hu']
  unfold aheadE
  cases hc : canE (is, (h, l, x), o, f) with
  | false => rfl
  | true =>
    cases hc' : canE (is', (h', l', x'), o', f') with
    | false => rfl
    | true =>
      have h1 : rightN (fN (h, l, x)) (fW (h, l, x)) = true := (canE_iff.1 hc).2
      have h2 : rightN (fN (h', l', x')) (fW (h', l', x')) = true := (canE_iff.1 hc').2
      have hT : cmpT (h, l, x) (h', l', x') = cmpI ((h * 2 ^ 64 + l) * x') ((h' * 2 ^ 64 + l') * x) := by
        unfold cmpT cmpR
        rw [h1, h2, Bool.and_self, if_pos rfl, cmp_two]
        simp only [fN, fW]
      rw [← hT]
      unfold standI
      simp only
      generalize cmpT (h, l, x) (h', l', x') = t
      clear hT h1 h2 hc hc' hu hu'
      unfold firstE
      simp only
      generalize is.getD 0 0 = a
      generalize is'.getD 0 0 = b
      rw [Bool.and_self, Bool.true_and, Bool.true_and]
      obtain ⟨w1, w2⟩ := cmpW_cases o o'
      have y1 := cmpY_neg (a := a) (b := b)
      unfold aheadB
      cases f with
      | false =>
        cases f' with
        | false =>
          rw [show (false != false) = false from rfl, if_neg (by decide)]
          rw [show lex (cmpF false false) (lex t (lex (cmpW o o') (cmpY a b))) = lex t (lex (cmpW o o') (cmpY a b)) from lex_zero rfl]
          by_cases ht0 : t = 0
          · subst ht0
            rw [if_neg (by simp)]
            by_cases ho : o = o'
            · subst ho
              rw [if_neg (by simp)]
              exact decide_eq_decide.2 (by rw [lex_lt, lex_lt]; omega)
            · rw [if_pos ho]
              exact decide_eq_decide.2 (by rw [lex_lt, lex_lt]; omega)
          · rw [if_pos ht0]
            exact decide_eq_decide.2 (by rw [lex_lt]; omega)
        | true =>
          rw [show (false != true) = true from rfl, if_pos rfl]
          rw [show lex (cmpF false true) (lex t (lex (cmpW o o') (cmpY a b))) = 1 from rfl]
          rfl
      | true =>
        cases f' with
        | false =>
          rw [show (true != false) = true from rfl, if_pos rfl]
          rw [show lex (cmpF true false) (lex t (lex (cmpW o o') (cmpY a b))) = -1 from rfl]
          rfl
        | true =>
          rw [show (true != true) = false from rfl, if_neg (by decide)]
          rw [show lex (cmpF true true) (lex t (lex (cmpW o o') (cmpY a b))) = lex t (lex (cmpW o o') (cmpY a b)) from lex_zero rfl]
          by_cases ht0 : t = 0
          · subst ht0
            rw [if_neg (by simp)]
            by_cases ho : o = o'
            · subst ho
              rw [if_neg (by simp)]
              exact decide_eq_decide.2 (by rw [lex_lt, lex_lt]; omega)
            · rw [if_pos ho]
              exact decide_eq_decide.2 (by rw [lex_lt, lex_lt]; omega)
          · rw [if_pos ht0]
            exact decide_eq_decide.2 (by rw [lex_lt]; omega)

end Go.Proofs.Ytniilfcbiliegaa
