/-
  Weighed, and weighed back (mathematics). No statement is proved here.
-/
import Derived.Test.YtfgabmelmopgdaaVm
namespace Go.Proofs.Ytfgabmelmopgdaa
open Go.RowKit

theorem eachS_none {S : Rn → Rn × Int} {qs : List Rn} {fits : Bool} {is : List Int} (h : (eachS S qs fits is).2 ≠ 0) : (eachS S qs fits is).1 = [] := by
  unfold eachS at h ⊢
  split
  · rename_i h1
    rw [if_pos h1] at h
    cases he : eachF (optS S) qs is with
    | some m => rw [he] at h; exact (h rfl).elim
    | none => rfl
  · rfl
theorem one_eq {S : Rn → Rn × Int} {qs : List Rn} {id : Int} {r : Rn} (hr : rightQ qs = true) (hk : kf qs id = some r) : eachS S qs true [id] = match optS S r with | some s => (setK qs s, 0) | none => ([], 131) := by
  unfold eachS
  rw [if_pos (get_yes hr hk).1, eachF_cons hk]
  cases optS S r <;> rfl
theorem range_w {x : Nat} (h : inB (x : Int) 1 65535 = true) : 1 ≤ x ∧ x ≤ 65535 := by
  unfold inB at h
  simp only [Bool.and_eq_true, decide_eq_true_eq] at h
  omega
theorem range_e {e : Int} (h : inB e 1 8 = true) : 1 ≤ e ∧ e ≤ 8 := by
  unfold inB at h
  simpa using h
theorem weigh_one {qs : List Rn} {id : Int} {x : Nat} {each : Int} (h : (weighQS qs [id] x each).2 = 0) : ∃ r, rightQ qs = true ∧ kf qs id = some r ∧ (1 ≤ x ∧ x ≤ 65535) ∧ (1 ≤ each ∧ each ≤ 8) ∧
    overW (rN r) x (rW r) < 2 ^ 100 ∧ (weighQS qs [id] x each).1 = setK qs (mkR r.1 each (overW (rN r) x (rW r)) x) := by
  have hz : unfoundQ qs (inB (x : Int) 1 65535 && inB each 1 8) [id] = 0 := by
    unfold weighQS eachS at h
    split at h
    · assumption
    · rename_i h1; exact (h1 h).elim
  have q := unfound_zero hz
  have hf := q.2.1
  rw [Bool.and_eq_true] at hf
  have hx := range_w hf.1
  have he := range_e hf.2
  obtain ⟨r, hk⟩ : ∃ r, kf qs id = some r := Option.isSome_iff_exists.1 (q.2.2.2 id (by simp))
  have hr := rightQ_iff.2 q.1
  have e1 : weighQS qs [id] x each = match optS (weighS x each) r with | some s => (setK qs s, 0) | none => ([], 131) := by
    unfold weighQS
    rw [q.2.1]
    exact one_eq hr hk
  have hw := weigh_opt (each := each) hx (q.1.get hk)
  obtain ⟨M, hM⟩ : ∃ M, overW (rN r) x (rW r) = M := ⟨_, rfl⟩
  have hy : weighF x each r = if M < 2 ^ 100 then some (mkR r.1 each M x) else none := by unfold weighF; rw [hM]
  obtain ⟨s, hs⟩ : ∃ s, mkR r.1 each M x = s := ⟨_, rfl⟩
  rw [hs] at hy
  by_cases ho : M < 2 ^ 100
  · rw [if_pos ho] at hy
    rw [hy] at hw
    rw [hw] at e1
    have e2 : weighQS qs [id] x each = (setK qs s, 0) := e1
    refine ⟨r, hr, hk, hx, he, by rw [hM]; exact ho, ?_⟩
    rw [e2, hM, hs]
  · rw [if_neg ho] at hy
    rw [hy] at hw
    rw [hw] at e1
    have e2 : weighQS qs [id] x each = ([], 131) := e1
    rw [e2] at h
    exact absurd h (by decide)
theorem weigh_131 {qs : List Rn} {id : Int} {x : Nat} {each : Int} {r : Rn} (hr : rightQ qs = true) (hk : kf qs id = some r) (hx : 1 ≤ x ∧ x ≤ 65535) (he : 1 ≤ each ∧ each ≤ 8) : (weighQS qs [id] x each).2 = 0 ∨ (weighQS qs [id] x each).2 = 131 := by
  have hf : (inB (x : Int) 1 65535 && inB each 1 8) = true := by
    rw [inB_yes (by omega) (by omega), inB_yes he.1 he.2]
    rfl
  unfold weighQS
  rw [hf, one_eq hr hk]
  cases optS (weighS x each) r
  · exact .inr rfl
  · exact .inl rfl
theorem weigh_none {qs : List Rn} {id : Int} {x : Nat} {each : Int} (h : (weighQS qs [id] x each).2 ≠ 0) : (weighQS qs [id] x each).1 = [] := eachS_none h
/-- what is weighed lies in the queue that comes -/
theorem set_get {qs : List Rn} {id : Int} {r s : Rn} (hr : rightQ qs = true) (hk : kf qs id = some r) (hs : rightR s = true) (e : s.1 = r.1) : rightQ (setK qs s) = true ∧ kf (setK qs s) id = some s ∧ getQ (setK qs s) id = (s, true) := by
  have hR := rightQ_iff.1 hr
  have hid := kf_id hk
  have hks : kf qs s.1 = some r := by rw [e, hid]; exact hk
  have h1 := rightQ_iff.2 (hR.set hs hks)
  have h2 : kf (setK qs s) id = some s := by rw [kf_set hR.rise hks, e, hid, if_pos rfl]
  exact ⟨h1, h2, (get_yes h1 h2).2⟩
theorem set_uq {qs : List Rn} {s : Rn} (hU : UQ qs) (hs : UR s) : UQ (setK qs s) := fun y hy => by
  unfold setK at hy
  rcases List.mem_or_eq_of_mem_set hy with h | h
  · exact hU y h
  · exact h ▸ hs
theorem take_uq {qs : List Rn} (hU : UQ qs) (k : Nat) : UQ (qs.take k) := fun y hy => hU y (List.mem_of_mem_take hy)
/-- the numbers: no less, by less than one more; and back no less -/
theorem weigh_cmp {N x X : Nat} (hx : 1 ≤ x) : ¬ cmpW (overW N X x * x) (N * X) < 0 := by
  have h := over_ge (n := N) (m := X) hx
  rcases cmpW_ge h with e | e <;> rw [e] <;> decide
theorem weigh_less {N x X : Nat} (hx : 1 ≤ x) (h0 : overW N X x ≠ 0) : cmpW ((overW N X x - 1) * x) (N * X) < 0 := by
  rw [cmpW_lt (over_lt hx (by omega))]
  decide
theorem weigh_back {N x X : Nat} (hx : 1 ≤ x) (hX : 1 ≤ X) : ¬ cmpW (overW (overW N X x) x X * x) (N * x) < 0 := by
  have h1 := over_ge (n := N) (m := X) hx
  have h2 := over_ge (n := overW N X x) (m := x) hX
  have h3 : N * X ≤ overW (overW N X x) x X * X := Nat.le_trans h1 h2
  have h4 : N ≤ overW (overW N X x) x X := Nat.le_of_mul_le_mul_right h3 hX
  rcases cmpW_ge (Nat.mul_le_mul_right x h4) with e | e <;> rw [e] <;> decide
end Go.Proofs.Ytfgabmelmopgdaa
