/-
  Entities: what may be said of all of them: plain mathematics. No statement is proved here.
-/
import Derived.Test.YtniilfcbiliegaaZMb
namespace Go.Proofs.Ytniilfcbiliegaa
open Go.RowKit

/-- runners with their waits, that may be -/
structure LG (L : List Pt) : Prop where
  rise : Rise L
  right : ∀ p ∈ L, rightB p.2.1.2.1 p.2.1.2.2.2 = true
  u64 : ∀ p ∈ L, p.2.1.2.1 < 2 ^ 64 ∧ p.2.1.2.2.1 < 2 ^ 64 ∧ p.2.1.2.2.2 < 2 ^ 64
  ids : ∀ p ∈ L, 1 ≤ p.1 ∧ p.1 ≤ 16
  ord : ∀ p ∈ L, p.2.2.1 ≤ 4611686018427387904
theorem pts_mem {qs : List Rn} {ws : List Wt} {p : Pt} (h : p ∈ pts qs ws) : ∃ (k : Nat) (r : Rn) (w : Wt), qs[k]? = some r ∧ ws[k]? = some w ∧ p = (r.1, r.2, w.2) := by
  obtain ⟨k, hk⟩ := List.mem_iff_getElem?.1 h
  unfold pts at hk
  rw [List.getElem?_zipWith] at hk
  cases hq : qs[k]? with
  | none => rw [hq] at hk; cases hk
  | some r =>
    cases hw : ws[k]? with
    | none => rw [hq, hw] at hk; cases hk
    | some w =>
      rw [hq, hw] at hk
      exact ⟨k, r, w, hq, hw, (Option.some.inj hk).symm⟩
theorem lg_of {qs : List Rn} {ws : List Wt} (hU : UQ qs) (hQ : RQ qs) (hW : WR qs ws) : LG (pts qs ws) := by
  refine ⟨pts_rise hW.len hQ.rise, fun p hp => ?_, fun p hp => ?_, fun p hp => ?_, fun p hp => ?_⟩
  · obtain ⟨k, r, w, hq, hw, rfl⟩ := pts_mem hp
    have hm := List.mem_of_getElem? hq
    have h1 := rightR_iff.1 (hQ.each r hm)
    have q := rightN_of (h := r.2.2.1) (x := r.2.2.2.2) (hU r hm).2.1
    exact q.symm.trans (rightN_yes h1.2.2.1.1 h1.2.2.1.2 h1.2.2.2)
  · obtain ⟨k, r, w, hq, hw, rfl⟩ := pts_mem hp
    exact hU r (List.mem_of_getElem? hq)
  · obtain ⟨k, r, w, hq, hw, rfl⟩ := pts_mem hp
    exact (rightR_iff.1 (hQ.each r (List.mem_of_getElem? hq))).1
  · obtain ⟨k, r, w, hq, hw, rfl⟩ := pts_mem hp
    exact (hW.each k w r hw hq).2.2
section
variable {L ps : List Pt}
theorem LG.times (h : LG L) (hs : ∀ p ∈ ps, p ∈ L) : allB (timesP ps) = true ∧ Small (timesP ps) := by
  refine ⟨?_, fun k p q x hk => ?_⟩
  · unfold allB
    rw [List.all_eq_true]
    intro f hf
    obtain ⟨p, hp, rfl⟩ := List.mem_map.1 hf
    exact h.right p (hs p hp)
  · obtain ⟨y, hy, e⟩ := List.mem_map.1 (List.mem_of_getElem? hk)
    have := h.u64 y (hs y hy)
    rw [e] at this
    exact this
theorem tmaxP_mem (h : LG L) (hs : ∀ p ∈ ps, p ∈ L) (h0 : 0 < ps.length) : ∃ p ∈ ps, tmaxP ps = p.2.1.2 := by
  obtain ⟨a, b, x, hk⟩ := topI_at (l := timesP ps) (by unfold timesP; rw [List.length_map]; exact h0) (h.times hs).1
  obtain ⟨p, hp, e⟩ := List.mem_map.1 (List.mem_of_getElem? hk)
  exact ⟨p, hp, by unfold tmaxP; rw [getD_at hk]; exact e.symm⟩
theorem join_facts (h : LG L) (hs : ∀ p ∈ ps, p ∈ L) (h0 : 0 < ps.length) : canE (joinP ps) = true ∧ (joinP ps).2.1.1 < 2 ^ 64 ∧ (joinP ps).2.1.2.1 < 2 ^ 64 ∧ (joinP ps).2.1.2.2 < 2 ^ 64 := by
  obtain ⟨p, hp, e⟩ := tmaxP_mem h hs h0
  have hu := h.u64 p (hs p hp)
  have e2 : (joinP ps).2.1 = p.2.1.2 := e
  rw [e2]
  refine ⟨canE_iff.2 ⟨by show 0 < (idsP ps).length; unfold idsP; rw [List.length_map]; exact h0, ?_⟩, hu⟩
  rw [e2]
  unfold fN fW
  rw [rightN_of hu.2.1]
  exact h.right p (hs p hp)
theorem takeP_sub {g : List Int} : ∀ p ∈ takeP L g, p ∈ L := by
  intro p hp
  unfold takeP at hp
  obtain ⟨i, _, hk⟩ := List.mem_filterMap.1 hp
  exact (kf_some hk).1
theorem mkP_mem {x : Et} (h : x ∈ mkP ps) : 0 < ps.length ∧ x = joinP ps := by
  unfold mkP at h
  split at h
  · cases h
  · rename_i hne
    exact ⟨List.length_pos_iff.2 hne, by simpa using h⟩
/-- each entity is that of some that are there -/
theorem ents_of {gs : List (List Int)} {x : Et} (h : x ∈ entsP L gs) : ∃ ps : List Pt, 0 < ps.length ∧ (∀ p ∈ ps, p ∈ L) ∧ x = joinP ps := by
  unfold entsP at h
  rcases List.mem_append.1 h with h | h
  · unfold gangE at h
    obtain ⟨g, _, hx⟩ := List.mem_flatMap.1 h
    obtain ⟨h1, h2⟩ := mkP_mem hx
    exact ⟨_, h1, takeP_sub, h2⟩
  · unfold singE at h
    obtain ⟨p, hp, hx⟩ := List.mem_flatMap.1 h
    split at hx
    · exact ⟨[p], by simp, by simpa using hp, by simpa using hx⟩
    · cases hx
theorem ents_facts (hL : LG L) {gs : List (List Int)} {x : Et} (h : x ∈ entsP L gs) : canE x = true ∧ x.2.1.1 < 2 ^ 64 ∧ x.2.1.2.1 < 2 ^ 64 ∧ x.2.1.2.2 < 2 ^ 64 := by
  obtain ⟨ps, h0, hs, rfl⟩ := ents_of h
  exact join_facts hL hs h0
end
/-! ### all members -/
theorem mkP_ids (ps : List Pt) : (mkP ps).flatMap (fun x => x.1) = idsP ps := by
  unfold mkP
  split
  · rename_i h; subst h; rfl
  · simp [joinP]
theorem gang_ids (L : List Pt) : ∀ gs : List (List Int), (gangE L gs).flatMap (fun x => x.1) = gs.flatten.filter fun i => (kf L i).isSome
  | [] => rfl
  | g :: gs => by
    have ih := gang_ids L gs
    unfold gangE at ih ⊢
    rw [List.flatMap_cons, List.flatMap_append, ih, mkP_ids, takeP_ids, List.flatten_cons, List.filter_append]
theorem sing_ids (gs : List (List Int)) : ∀ L : List Pt, (singE gs L).flatMap (fun x => x.1) = (idsP L).filter (aloneB gs)
  | [] => rfl
  | p :: L => by
    have ih := sing_ids gs L
    unfold singE at ih ⊢
    rw [List.flatMap_cons, List.flatMap_append, ih]
    show _ = (p.1 :: idsP L).filter (aloneB gs)
    rw [List.filter_cons]
    split
    · simp [joinP, idsP]
    · simp
theorem rise_nodup {l : List Int} (h : l.Pairwise (· < ·)) : l.Nodup := h.imp fun hab e => by omega
theorem GR.flat_nodup {gs : List (List Int)} (h : GR gs) : gs.flatten.Nodup := by
  unfold List.Nodup
  rw [List.pairwise_flatten]
  exact ⟨fun g hg => rise_nodup (h.rise g hg), h.apart⟩
theorem ids_nodup {L : List Pt} (hL : LG L) {gs : List (List Int)} (hG : GR gs) : ((entsP L gs).flatMap fun x => x.1).Nodup := by
  unfold entsP
  rw [List.flatMap_append, gang_ids, sing_ids, List.nodup_append]
  refine ⟨hG.flat_nodup.sublist List.filter_sublist, (rise_nodup (rise_ids.1 hL.rise)).sublist List.filter_sublist, fun a ha b hb e => ?_⟩
  subst e
  have h1 := (List.mem_filter.1 ha).1
  have h2 := (List.mem_filter.1 hb).2
  obtain ⟨g, hg, hx⟩ := List.mem_flatten.1 h1
  exact aloneB_iff.1 h2 g hg hx
theorem ids_mem {L : List Pt} (hL : LG L) {gs : List (List Int)} {i : Int} : i ∈ (entsP L gs).flatMap (fun x => x.1) ↔ i ∈ idsP L := by
  unfold entsP
  rw [List.flatMap_append, gang_ids, sing_ids, List.mem_append, List.mem_filter, List.mem_filter]
  have hk : (kf L i).isSome = true ↔ i ∈ idsP L := by
    constructor
    · intro h
      obtain ⟨p, hp⟩ := Option.isSome_iff_exists.1 h
      exact List.mem_map.2 ⟨p, (kf_some hp).1, (kf_some hp).2⟩
    · intro h
      obtain ⟨p, hp, e⟩ := List.mem_map.1 h
      rw [← e, kf_mem hL.rise hp]
      rfl
  rw [hk]
  constructor
  · rintro (h | h)
    · exact h.2
    · exact h.1
  · intro h
    cases ha : aloneB gs i with
    | true => exact .inr ⟨h, rfl⟩
    | false =>
      left
      unfold aloneB at ha
      have ha2 : (gs.any fun g => decide (i ∈ g)) = true := by simpa using ha
      obtain ⟨g, hg, hx⟩ := List.any_eq_true.1 ha2
      exact ⟨List.mem_flatten.2 ⟨g, hg, by simpa using hx⟩, h⟩
theorem nodup_apart {l : List Et} (h : (l.flatMap fun x => x.1).Nodup) : l.Pairwise fun a b => ∀ i ∈ a.1, ∀ j ∈ b.1, i ≠ j := by
  unfold List.Nodup at h
  rw [List.pairwise_flatMap] at h
  exact h.2
theorem first_mem {x : Et} (h : canE x = true) : firstE x ∈ x.1 := by
  have h0 := (canE_iff.1 h).1
  unfold firstE
  rw [List.getD_eq_getElem?_getD, List.getElem?_eq_getElem h0]
  exact List.getElem_mem _
theorem apart_one {l : List Et} (h : l.Pairwise fun a b => ∀ i ∈ a.1, ∀ j ∈ b.1, i ≠ j) {a b : Et} (ha : a ∈ l) (hb : b ∈ l) {i : Int} (h1 : i ∈ a.1) (h2 : i ∈ b.1) : a = b := by
  obtain ⟨p, hp⟩ := List.mem_iff_getElem.1 ha
  obtain ⟨q, hq⟩ := List.mem_iff_getElem.1 hb
  obtain ⟨hpl, rfl⟩ := hp
  obtain ⟨hql, rfl⟩ := hq
  rcases Nat.lt_trichotomy p q with hlt | heq | hlt
  · exact absurd rfl ((List.pairwise_iff_getElem.1 h) p q hpl hql hlt i h1 i h2)
  · subst heq; rfl
  · exact absurd rfl ((List.pairwise_iff_getElem.1 h) q p hql hpl hlt i h2 i h1)
theorem ents_diff {L : List Pt} (hL : LG L) {gs : List (List Int)} (hG : GR gs) : Diff (entsP L gs) := by
  intro a ha b hb h
  have hl := stand_zero.1 h
  unfold likeE at hl
  simp only [Bool.and_eq_true, beq_iff_eq] at hl
  have h1 := first_mem (ents_facts hL ha).1
  have h2 := first_mem (ents_facts hL hb).1
  rw [hl.2] at h1
  exact apart_one (nodup_apart (ids_nodup hL hG)) ha hb h1 h2
theorem ents_nodup {L : List Pt} (hL : LG L) {gs : List (List Int)} (hG : GR gs) : (entsP L gs).Nodup := by
  have h := nodup_apart (ids_nodup hL hG)
  refine h.imp_of_mem fun {a b} ha _ hab e => ?_
  subst e
  have h1 := first_mem (ents_facts hL ha).1
  exact hab _ h1 _ h1 rfl
/-- what sorting leads to -/
theorem ents_sorted {L : List Pt} (hL : LG L) {gs : List (List Int)} (hG : GR gs) {m : List Et} (hp : m.Perm (entsP L gs)) (hs : m.Pairwise leE) : m = sortE (entsP L gs) :=
  sorted_eq (ents_diff hL hG) hp hs fun _ hy => (ents_facts hL hy).1

end Go.Proofs.Ytniilfcbiliegaa
