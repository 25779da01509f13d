/-
  Several texts as one.
-/
import Derived.Test.YtngbamoffjlodaaZTc
import Derived.Test.YtngbamoffjlodaaZMm
import Derived.Test.YtngbamoffjlodaaZMg
/-
  The document's entity, as plain mathematics: runners with their waits, one joined after another. No statement is proved here.
-/
namespace Go.Proofs.Ytngbamoffjlodaa
open Go.RowKit

theorem topK_le (a b : Nat → Nat) : ∀ k, topK a b k ≤ k
  | 0 => Nat.le_refl _
  | k + 1 => by
    have := topK_le a b k
    unfold topK
    split <;> omega
theorem topK_lt (a b : Nat → Nat) {k : Nat} (h : 0 < k) : topK a b k < k := by
  match k, h with
  | k + 1, _ =>
    have := topK_le a b k
    unfold topK
    split <;> omega
theorem topK_congr {a b a' b' : Nat → Nat} : ∀ k, (∀ j, j < k → a j = a' j ∧ b j = b' j) → topK a b k = topK a' b' k
  | 0, _ => rfl
  | k + 1, h => by
    have ih := topK_congr k (fun j hj => h j (by omega))
    have hk := h k (by omega)
    have ht := h (topK a' b' k) (by have := topK_le a' b' k; omega)
    unfold topK
    rw [ih, hk.1, hk.2, ht.1, ht.2]
theorem ab_left {l : List (Nat × Nat × Nat)} {t : Nat × Nat × Nat} {j : Nat} (h : j < l.length) : aF (l ++ [t]) j = aF l j ∧ bF (l ++ [t]) j = bF l j := by
  unfold aF bF
  rw [List.getD_eq_getElem?_getD, List.getD_eq_getElem?_getD, List.getElem?_append_left h]
  exact ⟨rfl, rfl⟩
theorem ab_last (l : List (Nat × Nat × Nat)) (t : Nat × Nat × Nat) : aF (l ++ [t]) l.length = fN t ∧ bF (l ++ [t]) l.length = fW t := by
  unfold aF bF fN fW
  rw [List.getD_eq_getElem?_getD, List.getElem?_append_right (Nat.le_refl _), Nat.sub_self]
  exact ⟨rfl, rfl⟩
theorem tmax_snoc {ps : List Pt} {p : Pt} (h : ps ≠ []) : tmaxP (ps ++ [p]) = if fN (tmaxP ps) * fW p.2.1.2 < fN p.2.1.2 * fW (tmaxP ps) then p.2.1.2 else tmaxP ps := by
  unfold tmaxP
  have e : timesP (ps ++ [p]) = timesP ps ++ [p.2.1.2] := by unfold timesP; rw [List.map_append]; rfl
  have hl : 0 < (timesP ps).length := by unfold timesP; rw [List.length_map]; exact List.length_pos_iff.2 h
  rw [e]
  generalize timesP ps = l at *
  generalize p.2.1.2 = t
  have hlt := topK_lt (aF l) (bF l) hl
  have h1 : topI (l ++ [t]) = if aF l (topI l) * fW t < fN t * bF l (topI l) then l.length else topI l := by
    unfold topI
    rw [List.length_append]
    show (if aF (l ++ [t]) (topK (aF (l ++ [t])) (bF (l ++ [t])) l.length) * bF (l ++ [t]) l.length < aF (l ++ [t]) l.length * bF (l ++ [t]) (topK (aF (l ++ [t])) (bF (l ++ [t])) l.length) then l.length else topK (aF (l ++ [t])) (bF (l ++ [t])) l.length) = _
    rw [topK_congr (a' := aF l) (b' := bF l) l.length (fun j hj => ab_left hj), (ab_last l t).1, (ab_last l t).2, (ab_left (t := t) hlt).1, (ab_left (t := t) hlt).2]
  have hN : aF l (topI l) = fN (l.getD (topI l) (0, 0, 0)) := rfl
  have hW : bF l (topI l) = fW (l.getD (topI l) (0, 0, 0)) := rfl
  rw [h1, hN, hW]
  split
  · rw [List.getD_eq_getElem?_getD, List.getElem?_append_right (Nat.le_refl _), Nat.sub_self]; rfl
  · rw [List.getD_eq_getElem?_getD, List.getElem?_append_left (show topI l < l.length from hlt), ← List.getD_eq_getElem?_getD]

/-- an entity half laid -/
def entS (P : List Pt) : Et := if P = [] then ([], (0, 0, 0), 0, true) else joinP P
theorem entS_ids (P : List Pt) : (entS P).1 = idsP P := by
  unfold entS
  split
  · rename_i h; rw [h]; rfl
  · rfl
theorem entS_one {p : Pt} (h : p.2.2.1 ≤ 4611686018427387904) : entS [p] = ([p.1], p.2.1.2, p.2.2.1, p.2.2.2) := by
  obtain ⟨i, ⟨e, t⟩, o, f⟩ := p
  have h : o ≤ 4611686018427387904 := h
  unfold entS
  rw [if_neg (by simp)]
  unfold joinP
  have h1 : tmaxP [(i, (e, t), o, f)] = t := by
    unfold tmaxP topI
    show ([t] : List (Nat × Nat × Nat)).getD (topK _ _ 1) (0, 0, 0) = t
    have : topK (aF (timesP [(i, (e, t), o, f)])) (bF (timesP [(i, (e, t), o, f)])) 1 = 0 := by have := topK_lt (aF (timesP [(i, (e, t), o, f)])) (bF (timesP [(i, (e, t), o, f)])) (k := 1) (by omega); omega
    rw [this]; rfl
  rw [h1]
  unfold ordP freshP idsP
  simp
  omega
theorem entS_snoc {P : List Pt} {p : Pt} (h : P ≠ []) : entS (P ++ [p]) = ((entS P).1 ++ [p.1], (if fN (entS P).2.1 * fW p.2.1.2 < fN p.2.1.2 * fW (entS P).2.1 then p.2.1.2 else (entS P).2.1), (if p.2.2.1 < (entS P).2.2.1 then p.2.2.1 else (entS P).2.2.1), ((entS P).2.2.2 && p.2.2.2)) := by
  unfold entS
  rw [if_neg (by simp), if_neg h]
  unfold joinP
  rw [tmax_snoc h]
  have h1 : idsP (P ++ [p]) = idsP P ++ [p.1] := by unfold idsP; rw [List.map_append]; rfl
  have h2 : ordP (P ++ [p]) = if p.2.2.1 < ordP P then p.2.2.1 else ordP P := by
    unfold ordP
    rw [List.foldl_append]
    show min _ _ = _
    split <;> omega
  have h3 : freshP (P ++ [p]) = (freshP P && p.2.2.2) := by unfold freshP; rw [List.all_append]; simp
  rw [h1, h2, h3]
/-- of the first k runners those that are among some -/
def amongP (L : List Pt) (g : List Int) (k : Nat) : List Pt := (L.take k).filter fun p => decide (p.1 ∈ g)
theorem among_yes {L : List Pt} {g : List Int} {k : Nat} {p : Pt} (hk : L[k]? = some p) (h : decide (p.1 ∈ g) = true) : amongP L g (k + 1) = amongP L g k ++ [p] := by
  unfold amongP
  rw [List.take_add_one, hk, List.filter_append]
  simp only [Option.toList_some]
  rw [List.filter_cons_of_pos (p := fun q : Pt => decide (q.1 ∈ g)) h]
  rfl
theorem among_no {L : List Pt} {g : List Int} {k : Nat} {p : Pt} (hk : L[k]? = some p) (h : decide (p.1 ∈ g) = false) : amongP L g (k + 1) = amongP L g k := by
  unfold amongP
  rw [List.take_add_one, hk, List.filter_append]
  simp only [Option.toList_some]
  rw [List.filter_cons_of_neg (p := fun q : Pt => decide (q.1 ∈ g)) (by rw [h]; simp)]
  simp
theorem among_mem {L : List Pt} {g : List Int} {k : Nat} {p : Pt} (h : p ∈ amongP L g k) : p ∈ L := List.mem_of_mem_take (List.mem_filter.1 h).1
theorem among_le (L : List Pt) (g : List Int) (k : Nat) : (amongP L g k).length ≤ L.length := Nat.le_trans (List.length_filter_le _ _) (List.length_take_le' k L)
theorem among_all {L : List Pt} {g : List Int} (hR : Rise L) (hg : g.Pairwise (· < ·)) : amongP L g L.length = takeP L g := by
  unfold amongP
  rw [List.take_length, takeP_eq hR hg]
theorem entS_facts {L P : List Pt} (hL : LG L) (h : ∀ p ∈ P, p ∈ L) : (entS P).2.1.1 < 2 ^ 64 ∧ (entS P).2.1.2.1 < 2 ^ 64 ∧ (entS P).2.1.2.2 < 2 ^ 64 ∧ (entS P).2.2.1 ≤ 4611686018427387904 := by
  by_cases h0 : P = []
  · subst h0
    unfold entS
    rw [if_pos rfl]
    exact ⟨by decide, by decide, by decide, by decide⟩
  · have hj := join_facts hL h (List.length_pos_iff.2 h0)
    unfold entS
    rw [if_neg h0]
    refine ⟨hj.2.1, hj.2.2.1, hj.2.2.2, ?_⟩
    show ordP P ≤ _
    unfold ordP
    clear hj h h0
    generalize hm : 4611686018427387904 = m
    have : ∀ (P : List Pt) (x : Nat), x ≤ m → P.foldl (fun m p => min m p.2.2.1) x ≤ m := by
      intro P
      induction P with
      | nil => exact fun x h => h
      | cons p P ih => exact fun x h => ih _ (show min x p.2.2.1 ≤ m by omega)
    exact this P m (Nat.le_refl _)

end Go.Proofs.Ytngbamoffjlodaa
/-
  The document's Entities, as plain mathematics: the rows, one entity put in its place after another. No statement is proved here.
-/
namespace Go.Proofs.Ytngbamoffjlodaa
open Go.RowKit

theorem ins_snoc_done {x y : Et} : ∀ {l : List Et}, l.any (aheadE x) = true → insE x (l ++ [y]) = insE x l ++ [y]
  | [], h => by cases h
  | z :: l, h => by
    show (if aheadE x z = true then x :: z :: (l ++ [y]) else z :: insE x (l ++ [y])) = (if aheadE x z = true then x :: z :: l else z :: insE x l) ++ [y]
    cases hz : aheadE x z with
    | true => rfl
    | false =>
      rw [List.any_cons, hz, Bool.false_or] at h
      rw [if_neg (by simp), if_neg (by simp), ins_snoc_done h]
      rfl
theorem ins_none {x : Et} : ∀ {l : List Et}, l.any (aheadE x) = false → insE x l = l ++ [x]
  | [], _ => rfl
  | z :: l, h => by
    rw [List.any_cons, Bool.or_eq_false_iff] at h
    show (if aheadE x z = true then x :: z :: l else z :: insE x l) = _
    rw [h.1, if_neg (by simp), ins_none h.2]
    rfl
theorem ins_snoc_here {x y : Et} : ∀ {l : List Et}, l.any (aheadE x) = false → aheadE x y = true → insE x (l ++ [y]) = l ++ [x, y]
  | [], _, hy => by
    show (if aheadE x y = true then [x, y] else _) = _
    rw [hy, if_pos rfl]
    rfl
  | z :: l, h, hy => by
    rw [List.any_cons, Bool.or_eq_false_iff] at h
    show (if aheadE x z = true then x :: z :: (l ++ [y]) else z :: insE x (l ++ [y])) = _
    rw [h.1, if_neg (by simp), ins_snoc_here h.2 hy]
    rfl
/-- of the first k of a row: is one met that stands behind; what is laid -/
def metB (x : Et) (l : List Et) (k : Nat) : Bool := (l.take k).any (aheadE x)
def nextK (x : Et) (l : List Et) (k : Nat) : List Et := if metB x l k = true then insE x (l.take k) else l.take k
theorem met_step {x y : Et} {l : List Et} {k : Nat} (hk : l[k]? = some y) : metB x l (k + 1) = (metB x l k || aheadE x y) := by
  unfold metB
  rw [List.take_add_one, hk, List.any_append]
  simp
theorem next_here {x y : Et} {l : List Et} {k : Nat} (hk : l[k]? = some y) (h : metB x l k = false) (hy : aheadE x y = true) : nextK x l (k + 1) = nextK x l k ++ [x] ++ [y] := by
  unfold nextK
  rw [met_step hk, h, hy, if_pos (by simp), if_neg (by simp), List.take_add_one, hk]
  have := ins_snoc_here (y := y) h hy
  simp only [Option.toList_some]
  rw [this, List.append_assoc]
  rfl
theorem next_on {x y : Et} {l : List Et} {k : Nat} (hk : l[k]? = some y) (h : metB x l k = true ∨ aheadE x y = false) : nextK x l (k + 1) = nextK x l k ++ [y] := by
  unfold nextK
  rw [met_step hk, List.take_add_one, hk]
  simp only [Option.toList_some]
  cases hm : metB x l k with
  | true =>
    rw [if_pos (by simp), if_pos rfl]
    exact ins_snoc_done hm
  | false =>
    rcases h with h | h
    · rw [hm] at h; cases h
    · rw [h, if_neg (by simp), if_neg (by simp)]
theorem next_end {x : Et} {l : List Et} : insE x l = if metB x l l.length = true then nextK x l l.length else nextK x l l.length ++ [x] := by
  unfold nextK
  cases hm : metB x l l.length with
  | true => rw [if_pos rfl, if_pos rfl, List.take_length]
  | false =>
    unfold metB at hm
    rw [List.take_length] at hm
    rw [if_neg (by simp), if_neg (by simp), List.take_length]
    exact ins_none hm
/-- the rows: the gangs, and each that is in none -/
def rowsO (L : List Pt) (gs : List (List Int)) : List (List Int) := gs ++ L.flatMap fun p => if aloneB gs p.1 = true then [[p.1]] else []
theorem ents_rows {L : List Pt} (hR : Rise L) (gs : List (List Int)) : entsP L gs = (rowsO L gs).flatMap fun g => mkP (takeP L g) := by
  unfold entsP rowsO gangE singE
  rw [List.flatMap_append]
  congr 1
  have : ∀ M : List Pt, (∀ p ∈ M, p ∈ L) → (M.flatMap fun p => if aloneB gs p.1 = true then [joinP [p]] else []) = (M.flatMap fun p => if aloneB gs p.1 = true then [[p.1]] else []).flatMap fun g => mkP (takeP L g) := by
    intro M
    induction M with
    | nil => exact fun _ => rfl
    | cons p M ih =>
      intro h
      rw [List.flatMap_cons, List.flatMap_cons, List.flatMap_append, ih fun q hq => h q (List.mem_cons_of_mem _ hq)]
      congr 1
      cases ha : aloneB gs p.1 with
      | false => rfl
      | true =>
        rw [if_pos rfl, if_pos rfl]
        show _ = mkP (takeP L [p.1]) ++ []
        rw [takeP_one hR (h p List.mem_cons_self)]
        rfl
  exact this L fun p hp => hp
theorem sort_more (l : List Et) (P : List Pt) : sortE (l ++ mkP P) = if P = [] then sortE l else insE (joinP P) (sortE l) := by
  unfold sortE mkP
  rw [List.foldl_append]
  split
  · rfl
  · rfl

end Go.Proofs.Ytngbamoffjlodaa
