/-
  Gangs formed and parted, and left: who is in which. No statement is proved here.
-/
import Derived.Test.YtglphgfaknofcaaKg
namespace Go.Proofs.Ytglphgfaknofcaa
open Go.RowKit Go.Maps

theorem find_only {p : Gm → Bool} {l : List Gm} {g : Gm} (hg : g ∈ l) (hp : p g = true) (h : ∀ x ∈ l, p x = true → x = g) : l.find? p = some g := by
  cases e : l.find? p with
  | none => exact absurd hp (by simpa using List.find?_eq_none.1 e g hg)
  | some x => rw [h x (List.mem_of_find?_eq_some e) (List.find?_some e)]
theorem all_two {l : List Gm} (h : AllG l) {x y : Gm} (hx : x ∈ l) (hy : y ∈ l) : x = y ∨ TwoG x y ∨ TwoG y x := by
  obtain ⟨i, hi, rfl⟩ := List.mem_iff_getElem.1 hx
  obtain ⟨j, hj, rfl⟩ := List.mem_iff_getElem.1 hy
  have hp := List.pairwise_iff_getElem.1 h.2
  rcases Nat.lt_trichotomy i j with hij | hij | hij
  · exact .inr (.inl (hp i j hi hj hij))
  · subst hij; exact .inl rfl
  · exact .inr (.inr (hp j i hj hi hij))
theorem has_iff {v : Int} {g : Gm} : hasV v g = true ↔ v ∈ g.2 := by
  refine ⟨hasV_mem, fun h => ?_⟩
  unfold hasV havB
  rw [List.any_eq_true]
  exact ⟨v, h, by simp⟩
theorem find_has {l : List Gm} (h : AllG l) {g : Gm} (hg : g ∈ l) {n : Int} (hn : n ∈ g.2) : fndV (hasV n) l = some g := by
  unfold fndV
  rw [if_pos (all_right h)]
  refine find_only hg (has_iff.2 hn) (fun x hx hp => ?_)
  have hxn := has_iff.1 hp
  rcases all_two h hx hg with e | e | e
  · exact e
  · exact absurd hn (e.2 n hxn)
  · exact absurd hxn (e.2 n hn)
theorem find_is {l : List Gm} (h : AllG l) {g : Gm} (hg : g ∈ l) : fndV (isV g.1) l = some g := by
  unfold fndV
  rw [if_pos (all_right h)]
  refine find_only hg (by simp [isV]) (fun x hx hp => ?_)
  have hxi : x.1 = g.1 := by simpa [isV] using hp
  rcases all_two h hx hg with e | e | e
  · exact e
  · have := e.1; omega
  · have := e.1; omega
theorem find_no {l : List Gm} {n : Int} (hn : ∀ g ∈ l, n ∉ g.2) : fndV (hasV n) l = none := by
  unfold fndV
  split
  · exact List.find?_eq_none.2 (fun g hg hp => hn g hg (has_iff.1 hp))
  · rfl
theorem of_some {l : List Gm} {n : Int} {g : Gm} (h : fndV (hasV n) l = some g) : ofV l n = (g.1, true) := by unfold ofV; rw [h]
theorem of_none {l : List Gm} {n : Int} (h : fndV (hasV n) l = none) : ofV l n = (0, false) := by unfold ofV; rw [h]
/-! ### formed -/
theorem form_mem (l : List Gm) (ms : List Int) : ((gapG l : Int) + 1, ms) ∈ formG l ms := by unfold formG; simp
theorem form_at (l : List Gm) (ms : List Int) : (formG l ms)[gapG l]? = some ((gapG l : Int) + 1, ms) := by
  have hle := gap_le l
  unfold formG
  rw [List.getElem?_append_right (by rw [List.length_take]; omega), List.length_take, Nat.min_eq_left hle, Nat.sub_self]
  rfl
theorem form_erase (l : List Gm) (ms : List Int) : (formG l ms).eraseIdx (gapG l) = l := by
  have hle := gap_le l
  unfold formG
  rw [List.eraseIdx_append_of_length_le (by rw [List.length_take]; omega), List.length_take, Nat.min_eq_left hle, Nat.sub_self]
  show l.take (gapG l) ++ l.drop (gapG l) = l
  rw [List.take_append_drop]
theorem unf_all {l : List Gm} {ms : List Int} (h : unfV l ms = 0) : AllG (formG l ms) := by
  have := run_right (q := 0) (N := 0) (ms := ms) (l := l) (.inl rfl) (by rw [runV_form (.inl rfl)]; exact h)
  rw [runV_form (.inl rfl)] at this
  have h2 : rightG (if unfV l ms = 0 then formG l ms else []) = true := this
  rw [if_pos h] at h2
  exact right_all h2
/-- the place of a gang by its Id -/
theorem form_am {l : List Gm} {ms : List Int} (h : unfV l ms = 0) : amV (isV ((gapG l : Int) + 1)) (formG l ms) = ((gapG l : Int), 0) := by
  have ha := unf_all h
  rcases am_fnd (isV ((gapG l : Int) + 1)) (formG l ms) with ⟨e, _, _, h3, _⟩ | ⟨k, g, h1, h2, _, h4, _, _⟩
  · have := find_is ha (form_mem l ms)
    rw [show ((gapG l : Int) + 1, ms).1 = (gapG l : Int) + 1 from rfl, h3] at this
    cases this
  · obtain ⟨hk, e1⟩ := List.getElem?_eq_some_iff.1 h2
    obtain ⟨hg, e2⟩ := List.getElem?_eq_some_iff.1 (form_at l ms)
    have h5 : g.1 = (gapG l : Int) + 1 := by simpa [isV] using h4
    have hp := List.pairwise_iff_getElem.1 ha.2
    have hkg : k = gapG l := by
      rcases Nat.lt_trichotomy k (gapG l) with hij | hij | hij
      · have := (hp k (gapG l) hk hg hij).1
        rw [e1, e2] at this
        simp only at this
        omega
      · exact hij
      · have := (hp (gapG l) k hg hk hij).1
        rw [e1, e2] at this
        simp only at this
        omega
    rw [h1, hkg]
theorem form_members {l : List Gm} {ms : List Int} (h : unfV l ms = 0) : memV (formG l ms) ((gapG l : Int) + 1) = ms := by
  have := find_is (unf_all h) (form_mem l ms)
  unfold memV
  rw [show ((gapG l : Int) + 1, ms).1 = (gapG l : Int) + 1 from rfl] at this
  rw [this]
theorem form_of {l : List Gm} {ms : List Int} (h : unfV l ms = 0) {n : Int} (hn : n ∈ ms) : ofV (formG l ms) n = ((gapG l : Int) + 1, true) := of_some (find_has (unf_all h) (form_mem l ms) hn)
/-! ### left -/
theorem less_mem {v n : Int} {is : List Int} : n ∈ lessL v is ↔ n ∈ is ∧ n ≠ v := by
  unfold lessL
  rw [List.mem_filter]
  simp
theorem erase_ne {l : List Gm} (h : AllG l) {k : Nat} {g : Gm} (hk : l[k]? = some g) {x : Gm} (hx : x ∈ l.eraseIdx k) : ∀ n ∈ g.2, n ∉ x.2 := by
  have hp := h.2
  have e : l = l.take k ++ g :: l.drop (k + 1) := by rw [← drop_cons hk, List.take_append_drop]
  rw [e, List.pairwise_append] at hp
  intro n hn hx2
  rcases erase_mem_split hx with hx | hx
  · exact (hp.2.2 x hx g (List.mem_cons_self ..)).2 n hx2 hn
  · exact ((List.pairwise_cons.1 hp.2.1).1 x hx).2 n hn hx2
theorem mem_erase {l : List Gm} {k : Nat} {g x : Gm} (hk : l[k]? = some g) (hx : x ∈ l) : x = g ∨ x ∈ l.eraseIdx k := by
  have e : l = l.take k ++ g :: l.drop (k + 1) := by rw [← drop_cons hk, List.take_append_drop]
  rw [List.eraseIdx_eq_take_drop_succ]
  rw [e] at hx
  rcases List.mem_append.1 hx with hx | hx
  · exact .inr (List.mem_append_left _ hx)
  · rcases List.mem_cons.1 hx with hx | hx
    · exact .inl hx
    · exact .inr (List.mem_append_right _ hx)
theorem left_of {l : List Gm} (h : AllG l) {k : Nat} {g : Gm} (hk : l[k]? = some g) {v : Int} (hv : v ∈ g.2) (n : Int) :
    (n = v → ofV (leftG l k g.1 v g.2) n = (0, false)) ∧ (n ∈ g.2 ∧ g.2.length = 2 → ofV (leftG l k g.1 v g.2) n = (0, false)) ∧ (n ≠ v → ¬ (n ∈ g.2 ∧ g.2.length = 2) → ofV (leftG l k g.1 v g.2) n = ofV l n) := by
  have hg := List.mem_of_getElem? hk
  have hkl := (List.getElem?_eq_some_iff.1 hk).1
  have hal := all_left h hk v
  have hlen := less_len (members_nodup (h.1 g hg).2.2) hv
  have hm2 := (members_len (h.1 g hg).2.2).1
  have hout : ∀ x ∈ l.eraseIdx k, ∀ n ∈ g.2, n ∉ x.2 := fun x hx => erase_ne h hk hx
  have hmem : ∀ z ∈ leftG l k g.1 v g.2, z = (g.1, lessL v g.2) ∨ z ∈ l.eraseIdx k := fun z hz => by
    unfold leftG at hz
    split at hz
    · exact .inr hz
    · exact set_mem_split hz hkl
  have hin : ∀ z ∈ l.eraseIdx k, z ∈ leftG l k g.1 v g.2 := fun z hz => by
    unfold leftG
    split
    · exact hz
    · rw [List.set_eq_take_append_cons_drop, if_pos hkl]
      rcases erase_mem_split hz with hz | hz
      · exact List.mem_append_left _ hz
      · exact List.mem_append_right _ (List.mem_cons_of_mem _ hz)
  refine ⟨fun e => ?_, fun ⟨h1, h2⟩ => ?_, fun h1 h2 => ?_⟩
  · subst e
    refine of_none (find_no (fun z hz hzn => ?_))
    rcases hmem z hz with rfl | hz
    · exact (less_mem.1 hzn).2 rfl
    · exact hout z hz n hv hzn
  · have e : leftG l k g.1 v g.2 = l.eraseIdx k := by unfold leftG; rw [if_pos (by omega)]
    rw [e]
    exact of_none (find_no (fun z hz hzn => hout z hz n h1 hzn))
  · by_cases hex : ∃ x ∈ l, n ∈ x.2
    · obtain ⟨x, hx, hxn⟩ := hex
      rw [of_some (find_has h hx hxn)]
      rcases mem_erase hk hx with rfl | hx2
      · have h3 : ¬ x.2.length = 2 := fun e => h2 ⟨hxn, e⟩
        have e : leftG l k x.1 v x.2 = l.set k (x.1, lessL v x.2) := by unfold leftG; rw [if_neg (by omega)]
        have hz : (x.1, lessL v x.2) ∈ leftG l k x.1 v x.2 := by rw [e]; exact List.mem_set hkl _
        exact (of_some (find_has hal hz (less_mem.2 ⟨hxn, h1⟩))).trans rfl
      · exact of_some (find_has hal (hin x hx2) hxn)
    · have hno : ∀ x ∈ l, n ∉ x.2 := fun x hx hxn => hex ⟨x, hx, hxn⟩
      rw [of_none (find_no hno)]
      refine of_none (find_no (fun z hz hzn => ?_))
      rcases hmem z hz with rfl | hz
      · exact hno g hg (less_mem.1 hzn).1
      · exact hno z (List.mem_of_mem_eraseIdx hz) hzn

end Go.Proofs.Ytglphgfaknofcaa
