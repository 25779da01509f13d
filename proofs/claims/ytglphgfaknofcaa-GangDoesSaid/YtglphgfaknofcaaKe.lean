/-
  Gangs that may be: what Form, Part and Leave make of them may be too. No statement is proved here.
-/
import Derived.Test.YtglphgfaknofcaaKd
namespace Go.Proofs.Ytglphgfaknofcaa
open Go.RowKit Go.Maps

/-- one gang by itself may be -/
def OneG (g : Gm) : Prop := 0 < g.1 ∧ g.1 ≤ 8 ∧ membersB g.2 = true
/-- x may stand ahead of y -/
def TwoG (x y : Gm) : Prop := x.1 < y.1 ∧ ∀ v ∈ x.2, v ∉ y.2
def AllG (l : List Gm) : Prop := (∀ g ∈ l, OneG g) ∧ l.Pairwise TwoG
theorem okG_iff {l : List Gm} {k : Nat} {g : Gm} : okG l k g = true ↔ lastG l k < g.1 ∧ g.1 ≤ 8 ∧ membersB g.2 = true ∧ ∀ h ∈ l.take k, ∀ v ∈ h.2, v ∉ g.2 := by
  unfold okG havB
  simp only [Bool.and_eq_true, decide_eq_true_eq, Bool.not_eq_true', List.any_eq_false, List.any_eq_true, not_exists, not_and]
  exact ⟨fun ⟨⟨⟨a, b⟩, c⟩, d⟩ => ⟨a, b, c, d⟩, fun ⟨a, b, c, d⟩ => ⟨⟨⟨a, b⟩, c⟩, d⟩⟩
theorem right_all {l : List Gm} (h : rightG l = true) : AllG l := by
  have key : ∀ k, k ≤ l.length → AllG (l.take k) ∧ 0 ≤ lastG l k ∧ ∀ g ∈ l.take k, g.1 ≤ lastG l k := by
    intro k
    induction k with
    | zero => intro _; exact ⟨⟨by simp, by simp⟩, Int.le_refl _, by simp⟩
    | succ k ih =>
      intro hk
      obtain ⟨⟨h1, h2⟩, h3, h4⟩ := ih (by omega)
      have hx : l[k]? = some l[k] := List.getElem?_eq_getElem (by omega)
      generalize l[k] = g at hx
      obtain ⟨a, b, c, d⟩ := okG_iff.1 (right_ok h hx)
      have e : l.take (k + 1) = l.take k ++ [g] := by rw [List.take_add_one, hx]; rfl
      rw [e, lastG_at hx]
      refine ⟨⟨fun x hx => ?_, ?_⟩, by omega, fun x hx => ?_⟩
      · rcases List.mem_append.1 hx with hx | hx
        · exact h1 x hx
        · rw [List.mem_singleton] at hx
          subst hx
          exact ⟨by omega, b, c⟩
      · rw [List.pairwise_append]
        refine ⟨h2, List.pairwise_singleton _ _, fun x hz y hy => ?_⟩
        rw [List.mem_singleton] at hy
        subst hy
        have := h4 x hz
        exact ⟨by omega, d x hz⟩
      · rcases List.mem_append.1 hx with hx | hx
        · have := h4 x hx; omega
        · rw [List.mem_singleton] at hx
          subst hx
          exact Int.le_refl _
  have := (key l.length (Nat.le_refl _)).1
  rwa [List.take_length] at this
theorem all_right {l : List Gm} (h : AllG l) : rightG l = true := by
  unfold rightG rightK
  rw [List.all_eq_true]
  intro j hj
  rw [List.mem_range] at hj
  have hx : l[j]? = some l[j] := List.getElem?_eq_getElem hj
  have hg : l.getD j (0, []) = l[j] := by rw [List.getD_eq_getElem?_getD, hx]; rfl
  rw [hg]
  have hp := List.pairwise_iff_getElem.1 h.2
  refine okG_iff.2 ⟨?_, (h.1 _ (List.getElem_mem hj)).2.1, (h.1 _ (List.getElem_mem hj)).2.2, fun x hx v hv => ?_⟩
  · cases j with
    | zero => exact (h.1 _ (List.getElem_mem hj)).1
    | succ j =>
      rw [lastG_at (List.getElem?_eq_getElem (by omega : j < l.length))]
      exact (hp j (j + 1) (by omega) hj (by omega)).1
  · obtain ⟨i, hi, rfl⟩ := List.mem_iff_getElem.1 hx
    rw [List.length_take] at hi
    rw [List.getElem_take] at hv
    exact (hp i j (by omega) hj (by omega)).2 v hv
theorem all_erase {l : List Gm} (h : AllG l) (k : Nat) : AllG (l.eraseIdx k) := ⟨fun g hg => h.1 g (List.mem_of_mem_eraseIdx hg), h.2.sublist (List.eraseIdx_sublist _ _)⟩
theorem rise_of : ∀ {l : List Int} {a : Int}, (∀ x ∈ l, a < x ∧ x ≤ 16) → l.Pairwise (· < ·) → riseI a l = true
  | [], _, _, _ => rfl
  | y :: l, a, h, hp => by
    obtain ⟨h1, h2⟩ := List.pairwise_cons.1 hp
    unfold riseI
    have hy := h y (List.mem_cons_self ..)
    rw [rise_of (fun x hx => ⟨h1 x hx, (h x (List.mem_cons_of_mem _ hx)).2⟩) h2]
    simp [hy.1, hy.2]
theorem rise_top : ∀ {l : List Int} {a : Int}, riseI a l = true → ∀ x ∈ l, x ≤ 16
  | [], _, _ => fun x hx => (by cases hx)
  | y :: l, a, h => fun x hx => by
    unfold riseI at h
    simp only [Bool.and_eq_true, decide_eq_true_eq] at h
    rcases List.mem_cons.1 hx with rfl | hx
    · exact h.1.2
    · exact rise_top h.2 x hx
theorem members_less {is : List Int} {v : Int} (h : membersB is = true) (h2 : 2 ≤ (lessL v is).length) : membersB (lessL v is) = true := by
  unfold membersB at h ⊢
  simp only [Bool.and_eq_true, decide_eq_true_eq] at h ⊢
  have hs : (lessL v is).Sublist is := List.filter_sublist ..
  have := hs.length_le
  refine ⟨⟨h2, by omega⟩, rise_of (fun x hx => ⟨(rise_pair h.2).1 x (hs.subset hx), rise_top h.2 x (hs.subset hx)⟩) ((rise_pair h.2).2.sublist hs)⟩
theorem all_left {l : List Gm} (h : AllG l) {k : Nat} {g : Gm} (hk : l[k]? = some g) (v : Int) : AllG (leftG l k g.1 v g.2) := by
  have hkl := (List.getElem?_eq_some_iff.1 hk).1
  unfold leftG
  split
  · exact all_erase h k
  · rename_i h2
    have hs : (lessL v g.2).Sublist g.2 := List.filter_sublist ..
    have hg := h.1 g (List.mem_of_getElem? hk)
    have e : l = l.take k ++ g :: l.drop (k + 1) := by rw [← drop_cons hk, List.take_append_drop]
    have hp := h.2
    rw [e, List.pairwise_append] at hp
    have hc := List.pairwise_cons.1 hp.2.1
    refine ⟨fun z hz => ?_, ?_⟩
    · rcases set_mem_split hz hkl with rfl | hz
      · exact ⟨hg.1, hg.2.1, members_less hg.2.2 (by omega)⟩
      · exact h.1 z (List.mem_of_mem_eraseIdx hz)
    · rw [List.set_eq_take_append_cons_drop, if_pos hkl, List.pairwise_append]
      refine ⟨hp.1, List.pairwise_cons.2 ⟨fun z hz => ⟨(hc.1 z hz).1, fun x hx => (hc.1 z hz).2 x (hs.subset hx)⟩, hc.2⟩, fun y hy z hz => ?_⟩
      rcases List.mem_cons.1 hz with rfl | hz
      · have := hp.2.2 y hy g (List.mem_cons_self ..)
        exact ⟨this.1, fun x hx hm => this.2 x hx (hs.subset hm)⟩
      · exact hp.2.2 y hy z (List.mem_cons_of_mem _ hz)
/-! ### Form -/
theorem all_ids {l : List Gm} (h : AllG l) : ∀ (k : Nat) (g : Gm), l[k]? = some g → (k : Int) + 1 ≤ g.1 := by
  intro k
  induction k with
  | zero => intro g hg; have := (h.1 g (List.mem_of_getElem? hg)).1; omega
  | succ k ih =>
    intro g hg
    obtain ⟨hk, e⟩ := List.getElem?_eq_some_iff.1 hg
    have h1 := ih l[k] (List.getElem?_eq_getElem (by omega))
    have := (List.pairwise_iff_getElem.1 h.2 k (k + 1) (by omega) hk (by omega)).1
    rw [e] at this
    omega
theorem all_len {l : List Gm} (h : AllG l) : l.length ≤ 8 := by
  by_cases h0 : l.length = 0
  · omega
  · have hx : l[l.length - 1]? = some l[l.length - 1] := List.getElem?_eq_getElem (by omega)
    have := all_ids h _ _ hx
    have := (h.1 _ (List.mem_of_getElem? hx)).2.1
    omega
theorem gapFrom_spec : ∀ (i : Nat) (l : List Gm), i ≤ gapFrom i l ∧ (∀ (j : Nat) (g : Gm), l[j]? = some g → i + j < gapFrom i l → g.1 = ((i + j : Nat) : Int) + 1) ∧ ∀ g, l[gapFrom i l - i]? = some g → g.1 ≠ ((gapFrom i l : Nat) : Int) + 1
  | i, [] => ⟨Nat.le_refl _, fun j g h => by simp at h, fun g h => by simp at h⟩
  | i, x :: l => by
    unfold gapFrom
    by_cases hx : x.1 = (i : Int) + 1
    · rw [if_pos hx]
      obtain ⟨h1, h2, h3⟩ := gapFrom_spec (i + 1) l
      refine ⟨by omega, fun j g hg hj => ?_, fun g hg => ?_⟩
      · cases j with
        | zero =>
          obtain rfl : x = g := by simpa using hg
          simpa using hx
        | succ j =>
          have := h2 j g (by simpa using hg) (by omega)
          rw [this]
          omega
      · rw [show gapFrom (i + 1) l - i = (gapFrom (i + 1) l - (i + 1)) + 1 by omega] at hg
        exact h3 g (by simpa using hg)
    · rw [if_neg hx]
      refine ⟨Nat.le_refl _, fun j g _ hj => by omega, fun g hg => ?_⟩
      rw [Nat.sub_self] at hg
      obtain rfl : x = g := by simpa using hg
      exact hx
theorem all_form {l : List Gm} (h : AllG l) {ms : List Int} (hm : membersB ms = true) (hd : ∀ g ∈ l, ∀ v ∈ g.2, v ∉ ms) (hl : l.length ≠ 8) : AllG (formG l ms) := by
  obtain ⟨_, h2, h3⟩ := gapFrom_spec 0 l
  have hg : gapFrom 0 l = gapG l := rfl
  rw [hg] at h2 h3
  have hle := gap_le l
  have h8 := all_len h
  unfold formG
  have e : l = l.take (gapG l) ++ l.drop (gapG l) := (List.take_append_drop _ _).symm
  have hp := h.2
  rw [e, List.pairwise_append] at hp
  refine ⟨fun z hz => ?_, ?_⟩
  · rcases List.mem_append.1 hz with hz | hz
    · exact h.1 z (List.mem_of_mem_take hz)
    · rcases List.mem_cons.1 hz with rfl | hz
      · exact ⟨by simp only; omega, by simp only; omega, hm⟩
      · exact h.1 z (List.mem_of_mem_drop hz)
  · rw [List.pairwise_append]
    refine ⟨hp.1, List.pairwise_cons.2 ⟨fun z hz => ?_, hp.2.1⟩, fun y hy z hz => ?_⟩
    · refine ⟨?_, fun v hv hvz => hd z (List.mem_of_mem_drop hz) v hvz hv⟩
      obtain ⟨j, hj⟩ := List.mem_iff_getElem?.1 hz
      rw [List.getElem?_drop] at hj
      have h1 := all_ids h _ _ hj
      cases j with
      | zero =>
        have := h3 z (by simpa using hj)
        simp only at h1 ⊢
        omega
      | succ j => simp only; omega
    · rcases List.mem_cons.1 hz with rfl | hz
      · refine ⟨?_, fun v hv hvz => hd y (List.mem_of_mem_take hy) v hv hvz⟩
        obtain ⟨j, hj, rfl⟩ := List.mem_iff_getElem.1 hy
        rw [List.length_take] at hj
        rw [List.getElem_take]
        have := h2 j l[j] (List.getElem?_eq_getElem (by omega)) (by omega)
        simp only
        rw [this]
        omega
      · exact hp.2.2 y hy z hz

theorem run_right {q N : Int} {ms : List Int} {l : List Gm} (h6 : q = 0 ∨ q = 1 ∨ q = 2 ∨ q = 3 ∨ q = 4 ∨ q = 5) (h : (runV q N ms l).1 = 0) : rightG (runV q N ms l).2.2 = true := by
  have hle : ∀ (p : Gm → Bool), (amV p l).2 = 0 → ∃ (k : Nat) (g : Gm), amV p l = ((k : Int), 0) ∧ l[k]? = some g ∧ rightG l = true := fun p hp => by
    rcases am_fnd p l with ⟨e, h1, h2, _⟩ | ⟨k, g, h1, h2, _, _, h3, _⟩
    · rw [h1] at hp; exact absurd hp h2
    · exact ⟨k, g, h1, h2, h3⟩
  rcases (by omega : (q = 0 ∨ q = 1 ∨ q = 2) ∨ q = 3 ∨ (q = 4 ∨ q = 5)) with h1 | h1 | h1
  · rw [runV_form h1] at h ⊢
    have h : unfV l ms = 0 := h
    show rightG (if unfV l ms = 0 then formG l ms else []) = true
    rw [if_pos h]
    cases hr : rightG l with
    | false => rw [unf_1 hr] at h; cases h
    | true =>
      cases hm : membersB ms with
      | false => rw [unf_2 hr hm] at h; cases h
      | true =>
        cases ha : (l.any fun h => havB ms h) with
        | true => rw [unf_3 hr hm ha] at h; cases h
        | false =>
          rw [unf_4 hr hm ha] at h
          refine all_right (all_form (right_all hr) hm (fun g hg v hv hvm => ?_) (fun h8 => by rw [if_pos h8] at h; cases h))
          rw [List.any_eq_false] at ha
          refine ha g hg ?_
          unfold havB
          rw [List.any_eq_true]
          exact ⟨v, hv, by simpa using hvm⟩
  · subst h1
    rw [runV_part] at h ⊢
    have h : (amV (isV N) l).2 = 0 := h
    obtain ⟨k, g, _, _, hr⟩ := hle _ h
    show rightG (if (amV (isV N) l).2 = 0 then l.eraseIdx (plV (isV N) l) else []) = true
    rw [if_pos h]
    exact all_right (all_erase (right_all hr) _)
  · rw [runV_leave h1] at h ⊢
    have h : (amV (hasV N) l).2 = 0 := h
    obtain ⟨k, g, e, hk, hr⟩ := hle _ h
    show rightG (if (amV (hasV N) l).2 = 0 then leaveL N l else []) = true
    rw [if_pos h, leaveL_at e rfl hk]
    exact all_right (all_left (right_all hr) hk N)

end Go.Proofs.Ytglphgfaknofcaa
