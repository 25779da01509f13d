/-
  Plain mathematics: a row put in order by a key, equals as they came. No statement is proved here.
-/
import Derived.Test.YtfalkiinlkfanaaLw
namespace Go.Proofs.Ytfalkiinlkfanaa
open Go.RowKit

/-- T is the row o, in order by the key; equals stand as they came -/
def Rep (key : Int → Int) (T o : List Int) : Prop := T.Pairwise (fun x y => key x ≤ key y) ∧ ∀ k : Int, T.filter (fun x => key x == k) = o.filter (fun x => key x == k)
theorem rep_nil (key : Int → Int) : Rep key [] [] := ⟨List.Pairwise.nil, fun _ => rfl⟩
theorem rep_mem {key : Int → Int} {T o : List Int} (h : Rep key T o) {x : Int} (hx : x ∈ T) : x ∈ o := by
  have : x ∈ T.filter (fun y => key y == key x) := List.mem_filter.2 ⟨hx, by simp⟩
  rw [h.2] at this
  exact (List.mem_filter.1 this).1
theorem rep_insert {key : Int → Int} {P Q o : List Int} {x : Int} (h : Rep key (P ++ Q) o) (hq : ∀ q ∈ Q, key x < key q) (hp : ∀ p ∈ P, key p ≤ key x) : Rep key (P ++ x :: Q) (o ++ [x]) := by
  obtain ⟨hs, hf⟩ := h
  rw [List.pairwise_append] at hs
  refine ⟨?_, fun k => ?_⟩
  · rw [List.pairwise_append]
    refine ⟨hs.1, List.pairwise_cons.2 ⟨fun q h => Int.le_of_lt (hq q h), hs.2.1⟩, fun a ha b hb => ?_⟩
    rcases List.mem_cons.1 hb with rfl | hb
    · exact hp a ha
    · exact hs.2.2 a ha b hb
  · rw [List.filter_append, List.filter_append, ← hf k, List.filter_append]
    by_cases hk : key x = k
    · have e1 : Q.filter (fun y => key y == k) = [] := by
        rw [List.filter_eq_nil_iff]
        intro q h
        have := hq q h
        simp
        omega
      rw [List.filter_cons, e1]
      simp [hk]
    · rw [List.filter_cons]
      simp [hk]
theorem split_last {key : Int → Int} {m : Int} {T : List Int} (hs : T.Pairwise (fun x y => key x ≤ key y)) (hm : ∀ x ∈ T, key x ≤ m) : T = T.filter (fun x => decide (key x < m)) ++ T.filter (fun x => key x == m) := by
  induction T with
  | nil => rfl
  | cons a T ih =>
    rw [List.pairwise_cons] at hs
    have ih := ih hs.2 (fun x hx => hm x (List.mem_cons_of_mem _ hx))
    have ha := hm a (List.mem_cons_self ..)
    by_cases h : key a < m
    · rw [List.filter_cons, List.filter_cons]
      have : (key a == m) = false := by simp; omega
      rw [if_pos (by simp [h]), if_neg (by rw [this]; exact Bool.false_ne_true), List.cons_append]
      exact congrArg _ ih
    · have he : key a = m := by omega
      have e1 : T.filter (fun x => decide (key x < m)) = [] := by
        rw [List.filter_eq_nil_iff]
        intro q hq
        have := hs.1 q hq
        simp
        omega
      rw [e1, List.nil_append] at ih
      rw [List.filter_cons, List.filter_cons, e1]
      rw [if_neg (by simp; omega), if_pos (by simp [he]), List.nil_append]
      exact congrArg _ ih
theorem split_all {key : Int → Int} (m : Nat) {T : List Int} (hs : T.Pairwise (fun x y => key x ≤ key y)) (hm : ∀ x ∈ T, 0 ≤ key x ∧ key x < (m : Int)) : T = (List.range m).flatMap fun (d : Nat) => T.filter (fun x => key x == (d : Int)) := by
  induction m generalizing T with
  | zero =>
    cases T with
    | nil => rfl
    | cons a T => have := hm a (List.mem_cons_self ..); omega
  | succ m ih =>
    have h1 := split_last (m := (m : Int)) hs (fun x hx => by have := (hm x hx).2; omega)
    have h2 := ih (T := T.filter (fun x => decide (key x < (m : Int)))) (hs.sublist List.filter_sublist) (fun x hx => by
      rw [List.mem_filter] at hx
      have := (hm x hx.1).1
      have := hx.2
      simp at this
      exact ⟨by assumption, this⟩)
    rw [List.range_succ, List.flatMap_append, List.flatMap_cons, List.flatMap_nil, List.append_nil]
    have h3 : ((List.range m).flatMap fun (d : Nat) => (T.filter (fun x => decide (key x < (m : Int)))).filter (fun x => key x == (d : Int))) = (List.range m).flatMap fun (d : Nat) => T.filter (fun x => key x == (d : Int)) := by
      rw [List.flatMap_def, List.flatMap_def]
      congr 1
      apply List.map_congr_left
      intro d hd
      rw [List.mem_range] at hd
      rw [List.filter_filter]
      apply List.filter_congr
      intro x _
      by_cases e : key x = (d : Int)
      · simp [e]; omega
      · simp [e]
    rw [h3] at h2
    rw [← h2]
    exact h1
theorem near_rep {l : List (Int × Int)} {s : Int} {cpu : Nat} {T : List Int} (h : Rep (fun x => distN l cpu x.toNat) T (toldL (fun (k : Nat) => hasB s (k : Int)) l.length)) : T = nearL l s cpu := by
  have h1 := split_all 4 h.1 (fun x _ => by have := dist_range l cpu x.toNat; exact ⟨this.1, by omega⟩)
  rw [h1]
  unfold nearL nearO
  rw [List.flatMap_def, List.flatMap_def]
  congr 1
  apply List.map_congr_left
  intro d _
  rw [h.2]
  unfold toldL rowD
  rw [List.filter_map, List.filter_filter]
  congr 1
  apply List.filter_congr
  intro k _
  simp [Bool.and_comm]

/-- the row within a round: x, on its way down, stands at place j -/
def InW (key : Int → Int) (o : List Int) (i j : Nat) (xs : List Int) : Prop :=
  ∃ P Q x, xs = P ++ x :: (Q ++ o.drop (i + 1)) ∧ P.length = j ∧ P.length + Q.length = i ∧ o[i]? = some x ∧ Rep key (P ++ Q) (o.take i) ∧ ∀ q ∈ Q, key x < key q
/-- the row between two rounds -/
def OutW (key : Int → Int) (o : List Int) (i : Nat) (xs : List Int) : Prop := ∃ T, xs = T ++ o.drop i ∧ T.length = i ∧ Rep key T (o.take i)
theorem out_start {key : Int → Int} {o : List Int} (h : 1 ≤ o.length) : OutW key o 1 o := by
  match o, h with
  | x :: o, _ => exact ⟨[x], rfl, rfl, by simp, fun k => rfl⟩
theorem in_start {key : Int → Int} {o : List Int} {i : Nat} {xs : List Int} (h : OutW key o i xs) (hi : i < o.length) : InW key o i i xs := by
  obtain ⟨T, rfl, hl, hr⟩ := h
  refine ⟨T, [], o[i], ?_, hl, by simpa using hl, List.getElem?_eq_getElem hi, by rwa [List.append_nil], fun q hq => by cases hq⟩
  rw [List.nil_append, List.drop_eq_getElem_cons hi]
theorem in_parts {key : Int → Int} {o : List Int} {i j : Nat} {xs : List Int} (h : InW key o i (j + 1) xs) : ∃ P p x R, xs = P ++ p :: x :: R ∧ P.length = j ∧
    (key x < key p → InW key o i j (P ++ x :: p :: R)) ∧ (¬ key x < key p → OutW key o (i + 1) xs) := by
  obtain ⟨P, Q, x, rfl, hl, hpq, hx, hr, hq⟩ := h
  rcases List.eq_nil_or_concat P with rfl | ⟨P', p, rfl⟩
  · simp at hl
  · rw [List.concat_eq_append] at hl hpq hr ⊢
    have hl' : P'.length = j := by simpa using hl
    refine ⟨P', p, x, Q ++ o.drop (i + 1), by simp, hl', fun hlt => ?_, fun hlt => ?_⟩
    · refine ⟨P', p :: Q, x, by simp, hl', by simp at hpq ⊢; omega, hx, by simpa using hr, fun q hqm => ?_⟩
      rcases List.mem_cons.1 hqm with rfl | hqm
      · exact hlt
      · exact hq q hqm
    · refine ⟨P' ++ [p] ++ x :: Q, by simp, by simp at hpq ⊢; omega, ?_⟩
      rw [List.take_add_one, hx]
      refine rep_insert hr hq (fun y hy => ?_)
      have hs := hr.1
      rw [List.pairwise_append] at hs
      rcases List.mem_append.1 hy with hy | hy
      · have := (List.pairwise_append.1 hs.1).2.2 y hy p (List.mem_singleton.2 rfl)
        omega
      · rw [List.mem_singleton] at hy; subst hy; omega
theorem in_bottom {key : Int → Int} {o : List Int} {i : Nat} {xs : List Int} (h : InW key o i 0 xs) : OutW key o (i + 1) xs := by
  obtain ⟨P, Q, x, rfl, hl, hpq, hx, hr, hq⟩ := h
  obtain rfl := List.length_eq_zero_iff.1 hl
  refine ⟨x :: Q, by simp, by simp at hpq ⊢; omega, ?_⟩
  rw [List.take_add_one, hx]
  exact rep_insert (P := []) hr hq (fun p hp => by cases hp)
theorem out_end {key : Int → Int} {o xs : List Int} {i : Nat} (h : OutW key o i xs) (hi : o.length ≤ i) : Rep key xs o := by
  obtain ⟨T, rfl, _, hr⟩ := h
  rw [List.drop_eq_nil_of_le hi, List.append_nil]
  rwa [List.take_of_length_le hi] at hr

end Go.Proofs.Ytfalkiinlkfanaa
