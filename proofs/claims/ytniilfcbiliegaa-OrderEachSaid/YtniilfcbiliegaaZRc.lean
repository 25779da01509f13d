/-
  What holds of all entities, in order: plain mathematics. No statement is proved here.
-/
import Derived.Test.YtniilfcbiliegaaZRb
import Derived.Test.YtniilfcbiliegaaZQe
namespace Go.Proofs.Ytniilfcbiliegaa
open Go.RowKit Go.Maps

theorem cmpT_ge {s t : Nat × Nat × Nat} (h : fN t * fW s ≤ fN s * fW t) : 0 ≤ cmpT s t := by
  unfold cmpT cmpR
  split
  · rcases Int.lt_or_le (cmpW (fN s * fW t) (fN t * fW s)) 0 with h2 | h2
    · exact absurd (cmpW_neg_iff.1 h2) (Nat.not_lt.2 h)
    · exact h2
  · exact Int.le_refl _
theorem tmax_ge {L ps : List Pt} (hL : LG L) (hs : ∀ p ∈ ps, p ∈ L) {p : Pt} (hp : p ∈ ps) : 0 ≤ cmpT (tmaxP ps) p.2.1.2 := by
  have h0 : 0 < (timesP ps).length := by unfold timesP; rw [List.length_map]; exact List.length_pos_of_mem hp
  have hb := (hL.times hs).1
  have hT := topK_top (a := aF (timesP ps)) (b := bF (timesP ps)) h0 (bF_pos hb)
  obtain ⟨a, b, x, hk⟩ := topI_at h0 hb
  obtain ⟨j, hj⟩ := List.mem_iff_getElem?.1 hp
  have hj2 : (timesP ps)[j]? = some (p.2.1.2.1, p.2.1.2.2.1, p.2.1.2.2.2) := by unfold timesP; rw [List.getElem?_map, hj]; rfl
  have q := hT.2.1 j (List.getElem?_eq_some_iff.1 hj2).1
  have a1 := ab_at hj2
  have a2 := ab_at hk
  unfold topI at a2
  rw [a1.1, a1.2, a2.1, a2.2] at q
  have e : tmaxP ps = (a, b, x) := by unfold tmaxP; rw [getD_at hk]
  rw [e]
  refine cmpT_ge ?_
  unfold fN fW
  exact q
theorem fold_first {a : En} : ∀ {l : List En}, (∀ y ∈ l, aheadE (et y) (et a) = false) → l.foldl firstS (some a) = some a
  | [], _ => rfl
  | y :: l, h => by
    rw [List.foldl_cons]
    have e : firstS (some a) y = some a := by
      unfold firstS
      simp only
      rw [h y (by simp)]
      rfl
    rw [e]
    exact fold_first fun z hz => h z (by simp [hz])
def sumM (l : List En) : Nat := (l.map fun e => e.1.2.2.2.length).sum
theorem sum_next {l : List En} {k : Nat} {x : En} (hx : l[k]? = some x) : sumM (l.take (k + 1)) = sumM (l.take k) + x.1.2.2.2.length := by
  unfold sumM
  rw [List.take_add_one, hx]
  simp
/-- what holds of the entities of L -/
structure EachF (L : List Pt) (E : List En) : Prop where
  fwd : ∀ (i j : Nat) (a b : En), E[i]? = some a → E[j]? = some b → i < j → aheadE (et a) (et b) = true ∧ aheadE (et b) (et a) = false
  mine : ∀ (i : Nat) (a : En) (id : Int), E[i]? = some a → id ∈ a.1.2.2.2 → placeE E id = (i, true)
  all : ∀ p ∈ L, ∃ (i : Nat) (a : En), placeE E p.1 = (i, true) ∧ E[i]? = some a ∧ 0 ≤ cmpT a.2.1 p.2.1.2
  sum : sumM E = L.length
  first : firstK E = E[0]?
theorem each_of {L : List Pt} (hL : LG L) {gs : List (List Int)} (hG : GR gs) {E : List En} (hE : E.map et = sortE (entsP L gs)) : EachF L E := by
  have hf : ∀ y ∈ entsP L gs, canE y = true := fun y hy => (ents_facts hL hy).1
  have hA := sorted_ahead (ents_diff hL hG) (ents_nodup hL hG) hf
  have hc : ∀ a ∈ E, canE (et a) = true := fun a ha => hf _ ((sortE_perm _).mem_iff.1 (by rw [← hE]; exact List.mem_map.2 ⟨a, ha, rfl⟩))
  have hN : ((E.map et).flatMap fun x => x.1).Nodup := by
    rw [hE]
    exact ((sortE_perm (entsP L gs)).flatMap_right (fun x => x.1)).nodup_iff.2 (ids_nodup hL hG)
  have hP := nodup_apart hN
  have fwd : ∀ (i j : Nat) (a b : En), E[i]? = some a → E[j]? = some b → i < j → aheadE (et a) (et b) = true ∧ aheadE (et b) (et a) = false := by
    intro i j a b ha hb hij
    have ha2 : (E.map et)[i]? = some (et a) := by rw [List.getElem?_map, ha]; rfl
    have hb2 : (E.map et)[j]? = some (et b) := by rw [List.getElem?_map, hb]; rfl
    rw [hE] at ha2 hb2
    obtain ⟨h1, e1⟩ := List.getElem?_eq_some_iff.1 ha2
    obtain ⟨h2, e2⟩ := List.getElem?_eq_some_iff.1 hb2
    have h := (List.pairwise_iff_getElem.1 hA) i j h1 h2 hij
    rw [e1, e2] at h
    have hn := stand_cmp.neg (et a) (et b)
    rw [aheadE_yes (hc a (List.mem_of_getElem? ha)) (hc b (List.mem_of_getElem? hb)), aheadE_yes (hc b (List.mem_of_getElem? hb)) (hc a (List.mem_of_getElem? ha))]
    exact ⟨decide_eq_true h, decide_eq_false (by omega)⟩
  have mine : ∀ (i : Nat) (a : En) (id : Int), E[i]? = some a → id ∈ a.1.2.2.2 → placeE E id = (i, true) := by
    intro i a id ha hid
    refine place_some ha (by unfold hasE; exact decide_eq_true hid) fun j y hj hy => ?_
    unfold hasE
    refine decide_eq_false fun hy2 => ?_
    have ha2 : (E.map et)[i]? = some (et a) := by rw [List.getElem?_map, ha]; rfl
    have hb2 : (E.map et)[j]? = some (et y) := by rw [List.getElem?_map, hy]; rfl
    obtain ⟨h1, e1⟩ := List.getElem?_eq_some_iff.1 ha2
    obtain ⟨h2, e2⟩ := List.getElem?_eq_some_iff.1 hb2
    have h := (List.pairwise_iff_getElem.1 hP) j i h2 h1 hj
    rw [e1, e2] at h
    exact h id hy2 id hid rfl
  refine ⟨fwd, mine, fun p hp => ?_, ?_, ?_⟩
  · have h1 := (ids_mem hL (gs := gs) (i := p.1)).2 (List.mem_map.2 ⟨p, hp, rfl⟩)
    obtain ⟨x, hx, hid⟩ := List.mem_flatMap.1 h1
    obtain ⟨ps, _, hs, rfl⟩ := ents_of hx
    obtain ⟨q, hq, e⟩ := List.mem_map.1 (show p.1 ∈ idsP ps from hid)
    obtain rfl : q = p := by
      have k1 := kf_mem hL.rise (hs q hq)
      have k2 := kf_mem hL.rise hp
      rw [e, k2] at k1
      exact (Option.some.inj k1).symm
    have hx2 := (sortE_perm _).mem_iff.2 hx
    rw [← hE] at hx2
    obtain ⟨a, ha, e2⟩ := List.mem_map.1 hx2
    obtain ⟨i, hi⟩ := List.mem_iff_getElem?.1 ha
    have e3 : a.1.2.2.2 = idsP ps := congrArg Prod.fst e2
    have e4 : a.2.1 = tmaxP ps := congrArg (fun z : Et => z.2.1) e2
    exact ⟨i, a, mine i a q.1 hi (by rw [e3]; exact hid), hi, by rw [e4]; exact tmax_ge hL hs hq⟩
  · have h1 := (((sortE_perm (entsP L gs)).flatMap_right (fun x => x.1)).trans (ents_ids hL hG)).length_eq
    rw [← hE, List.length_flatMap, List.map_map] at h1
    unfold idsP at h1
    rw [List.length_map] at h1
    exact h1
  · cases E with
    | nil => rfl
    | cons a l =>
      show (a :: l).foldl firstS none = some a
      rw [List.foldl_cons]
      have e : firstS none a = some a := by
        unfold firstS
        simp only
        rw [if_pos (hc a (by simp))]
      rw [e]
      refine fold_first fun y hy => ?_
      obtain ⟨j, hj⟩ := List.mem_iff_getElem?.1 hy
      exact (fwd 0 (j + 1) a y rfl (by simpa using hj) (by omega)).2

end Go.Proofs.Ytniilfcbiliegaa
