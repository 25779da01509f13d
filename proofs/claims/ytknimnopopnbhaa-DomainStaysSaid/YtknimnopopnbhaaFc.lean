/-
  What the calls on virtual CPUs answer is what the document says (mathematics). No statement is proved here.
-/
import Derived.Test.YtknimnopopnbhaaFa0
namespace Go.Proofs.Ytknimnopopnbhaa
open Go.RowKit

theorem gap_exists {us : List Vc} (hR : Rise us) (h1 : ∀ y ∈ us, 1 ≤ y.1) : ∃ g, IsGap us g := by
  have step : ∀ j, j ≤ us.length → (∃ g, IsGap us g) ∨ (∀ (k : Nat) (x : Vc), k < j → us[k]? = some x → ¬ (k : Int) + 1 < x.1) := by
    intro j
    induction j with
    | zero => exact fun _ => .inr fun k x hk => by omega
    | succ j ih =>
      intro hj
      rcases ih (by omega) with h | h
      · exact .inl h
      · obtain ⟨x, hx⟩ := elem_at (l := us) (k := j) (by omega)
        by_cases hq : (j : Int) + 1 < x.1
        · refine .inl ⟨j, by omega, fun k y hk hy => ?_, gap_high hR hx hq⟩
          have h2 := h k y hk hy
          have h3 := rise_least hR h1 hy
          omega
        · refine .inr fun k y hk hy => ?_
          by_cases e : k = j
          · subst e; rw [hx] at hy; injection hy with hy; subst hy; exact hq
          · exact h k y (by omega) hy
  rcases step us.length (Nat.le_refl _) with h | h
  · exact h
  · refine ⟨us.length, Nat.le_refl _, fun k x hk hx => ?_, fun k x hk hx => ?_⟩
    · have h2 := h k x hk hx
      have h3 := rise_least hR h1 hx
      omega
    · have := (List.getElem?_eq_some_iff.1 hx).1; omega
theorem add_is (ds : List Dom) (us : List Vc) (dom : Int) (h s : Nat) : IsOk (addQ ds us dom h s).2.2.2 (addQ ds us dom h s).1 (addQ ds us dom h s).2.1 (madeD ds zeroD 0 8) (madeV us ((addQ ds us dom h s).2.2.1, dom, h, s) 0 16) := by
  unfold addQ IsOk
  by_cases h0 : unE ds us dom h s = 0
  · rw [if_pos h0]
    obtain ⟨hP, hk, hm, hl, _⟩ := un_right h0
    obtain ⟨g, hg⟩ := gap_exists hP.rv (fun y hy => (hP.ov y hy).1)
    have hf := free_gap hP.rv hg (by omega)
    have hgl := hg.1
    refine .inr ⟨rfl, (made_same hP).symm, ?_⟩
    rw [hf]
    exact (madeV_ins hP (v := (((g + 1 : Nat) : Int), dom, h, s)) (by show (1 : Int) ≤ ((g + 1 : Nat) : Int); omega) (by show ((g + 1 : Nat) : Int) ≤ 16; omega) (dom_pos hP hk) (gap_none hg)).symm
  · rw [if_neg h0]; exact .inl ⟨h0, rfl, rfl⟩
theorem drop_is (ds : List Dom) (us : List Vc) (id : Int) : IsOk (dropQ ds us id).2.2 (dropQ ds us id).1 (dropQ ds us id).2.1 (madeD ds zeroD 0 8) (madeV us zeroV id 16) := by
  unfold dropQ IsOk
  by_cases hr : rightG ds us = true
  · rw [if_pos hr]
    by_cases hk : (kf us id).isSome = true
    · rw [if_pos hk]
      have hP := rightG_iff.1 hr
      obtain ⟨y, hy⟩ := kf_is hk
      exact .inr ⟨rfl, (made_same hP).symm, (madeV_del hP hy).symm⟩
    · rw [if_neg hk]; exact .inl ⟨by decide, rfl, rfl⟩
  · rw [if_neg hr]; exact .inl ⟨by decide, rfl, rfl⟩
theorem remask_is (ds : List Dom) (us : List Vc) (id : Int) (h s : Nat) : IsOk (remaskQ ds us id h s).2.2 (remaskQ ds us id h s).1 (remaskQ ds us id h s).2.1 (madeD ds zeroD 0 8) (madeV us ((vcV us id).1.1, (vcV us id).1.2.1, h, s) 0 16) := by
  unfold remaskQ IsOk
  by_cases hr : rightG ds us = true
  · rw [if_pos hr]
    by_cases hk : (kf us id).isSome = true
    · rw [if_pos hk]
      by_cases hm : rightK h s = true
      · rw [if_pos hm]
        have hP := rightG_iff.1 hr
        obtain ⟨⟨y1, y2, y3, y4⟩, hy⟩ := kf_is hk
        rw [show vcV us id = ((y1, y2, y3, y4), true) from vcV_some hy]
        obtain rfl : y1 = id := (kf_some hy).2
        exact .inr ⟨rfl, (made_same hP).symm, (madeV_set hP (v := (y1, y2, h, s)) (dom_pos hP (hP.ov _ (kf_some hy).1).2.2.1) hy).symm⟩
      · rw [if_neg hm]; exact .inl ⟨by decide, rfl, rfl⟩
    · rw [if_neg hk]; exact .inl ⟨by decide, rfl, rfl⟩
  · rw [if_neg hr]; exact .inl ⟨by decide, rfl, rfl⟩
/-- the errors, as the statement reckons them -/
theorem vcpus_vals {ds : List Dom} {us : List Vc} {v1 v2 : Int} {v3 v4 m Q : Nat} {F : Int} {r1 : List Dom × List Vc × Int × Int} {r2 r3 : List Dom × List Vc × Int} {mk th vt r : Bool} (h1 : addQ ds us v2 v3 v4 = r1) (h2 : dropQ ds us v1 = r2) (h3 : remaskQ ds us v1 v3 v4 = r3)
    (hmk : rightK v3 v4 = mk) (hth : (domV ds v2).2 = th) (hvt : (vcV us v1).2 = vt) (hr : rightG ds us = r) (hF : ((freeK us 16 : Nat) : Int) = F) (hm : us.length = m) (hQ : (ofL us v2).length = Q) :
    (if r = true then (if th = true then (if mk = true then (if (decide (16 ≤ m) || decide (8 ≤ Q)) = true then (6 : Int) else 0) else 170) else 4) else 190) = r1.2.2.2 ∧ (if r = true then (if vt = true then (0 : Int) else 4) else 190) = r2.2.2 ∧
      (if r = true then (if vt = true then (if mk = true then (0 : Int) else 170) else 4) else 190) = r3.2.2 ∧ r1.2.2.1 = (if r1.2.2.2 = 0 then F else 0) := by
  rw [domV_is] at hth
  rw [vcV_is] at hvt
  refine ⟨?_, ?_, ?_, ?_⟩
  · rw [← h1]
    have hu : (if r = true then (if th = true then (if mk = true then (if (decide (16 ≤ m) || decide (8 ≤ Q)) = true then (6 : Int) else 0) else 170) else 4) else 190) = unE ds us v2 v3 v4 := by
      unfold unE
      rw [hr, hth, hmk, hm, hQ]
      cases r with
      | false => rfl
      | true =>
        have hP := rightG_iff.1 hr
        have h16 := hP.vn
        cases th with
        | false => rfl
        | true =>
          obtain ⟨x, hx⟩ := kf_is hth
          have hc := hP.cd x (kf_some hx).1
          rw [(kf_some hx).2] at hc
          cases mk with
          | false => rfl
          | true =>
            by_cases e1 : m = 16 ∨ Q = 8
            · rw [if_pos rfl, if_pos rfl, if_pos rfl, if_pos (by rcases e1 with e | e <;> simp [e]), if_pos rfl, if_pos rfl, if_pos rfl, if_pos e1]
            · rw [if_pos rfl, if_pos rfl, if_pos rfl, if_neg (by simp; omega), if_pos rfl, if_pos rfl, if_pos rfl, if_neg e1]
    rw [hu]
    unfold addQ
    by_cases h0 : unE ds us v2 v3 v4 = 0
    · rw [if_pos h0, h0]
    · rw [if_neg h0]
  · rw [← h2]
    unfold dropQ
    rw [hr, hvt]
    cases r <;> cases vt <;> rfl
  · rw [← h3]
    unfold remaskQ
    rw [hr, hvt, hmk]
    cases r <;> cases vt <;> cases mk <;> rfl
  · rw [← h1]
    unfold addQ
    by_cases h0 : unE ds us v2 v3 v4 = 0
    · rw [if_pos h0, if_pos rfl]; exact hF
    · rw [if_neg h0, if_neg h0]

end Go.Proofs.Ytknimnopopnbhaa
