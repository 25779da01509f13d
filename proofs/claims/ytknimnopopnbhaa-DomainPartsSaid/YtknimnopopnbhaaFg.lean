/-
  Numbers told class by class: none twice, all of them in the end; weights, pool by pool (mathematics, for DomainParts). No statement is proved here.
-/
import Derived.Test.YtknimnopopnbhaaFa0
namespace Go.Proofs.Ytknimnopopnbhaa

section
variable (P : Nat → Vc → Bool) (us : List Vc)
/-- the numbers of those of the first k classes -/
def partsK : Nat → List Int
  | 0 => []
  | k + 1 => partsK k ++ idsL (P k) us
theorem mem_ids {p : Vc → Bool} {us : List Vc} {x : Int} : x ∈ idsL p us ↔ ∃ v ∈ us, p v = true ∧ v.1 = x := by
  unfold idsL
  simp only [List.mem_map, List.mem_filter]
  constructor
  · rintro ⟨v, ⟨h1, h2⟩, h3⟩; exact ⟨v, h1, h2, h3⟩
  · rintro ⟨v, h1, h2, h3⟩; exact ⟨v, ⟨h1, h2⟩, h3⟩
theorem mem_parts {k : Nat} {x : Int} : x ∈ partsK P us k ↔ ∃ j < k, ∃ v ∈ us, P j v = true ∧ v.1 = x := by
  induction k with
  | zero => simp [partsK]
  | succ k ih =>
    unfold partsK
    rw [List.mem_append, ih, mem_ids]
    constructor
    · rintro (⟨j, hj, h⟩ | h)
      · exact ⟨j, by omega, h⟩
      · exact ⟨k, by omega, h⟩
    · rintro ⟨j, hj, h⟩
      by_cases e : j = k
      · subst e; exact .inr h
      · exact .inl ⟨j, by omega, h⟩
theorem ids_nodup {us : List Vc} (hR : Rise us) (p : Vc → Bool) : (idsL p us).Nodup := by
  unfold idsL
  have h : (us.filter p).Pairwise (fun a b => a.1 < b.1) := List.Pairwise.sublist List.filter_sublist hR
  rw [List.Nodup, List.pairwise_map]
  exact h.imp (fun h e => by omega)
theorem parts_nodup {P : Nat → Vc → Bool} {us : List Vc} (hR : Rise us) (hd : ∀ j j' v, v ∈ us → P j v = true → P j' v = true → j = j') : ∀ k, (partsK P us k).Nodup
  | 0 => List.Pairwise.nil
  | k + 1 => by
    unfold partsK
    rw [List.Nodup, List.pairwise_append]
    refine ⟨parts_nodup hR hd k, ids_nodup hR _, fun a ha b hb e => ?_⟩
    subst e
    obtain ⟨j, hj, v, hv, h1, h2⟩ := (mem_parts P us).1 ha
    obtain ⟨v', hv', h3, h4⟩ := mem_ids.1 hb
    have : v = v' := by
      have e1 := kf_mem hR hv
      have e2 := kf_mem hR hv'
      rw [h2, ← h4, e2] at e1
      injection e1 with e1
      exact e1.symm
    subst this
    have := hd j k v hv h1 h3
    omega
def inSome (k : Nat) (v : Vc) : Bool := (List.range k).any fun j => P j v
theorem inSome_succ {P : Nat → Vc → Bool} {k : Nat} {v : Vc} : inSome P (k + 1) v = (inSome P k v || P k v) := by
  unfold inSome
  rw [List.range_succ, List.any_append]
  simp
theorem count_add {p q : Vc → Bool} {us : List Vc} (h : ∀ v ∈ us, p v = true → q v = true → False) : us.countP (fun v => p v || q v) = us.countP p + us.countP q := by
  induction us with
  | nil => rfl
  | cons a l ih =>
    have ih := ih fun v hv => h v (List.mem_cons_of_mem _ hv)
    have ha := h a (List.mem_cons_self ..)
    simp only [List.countP_cons, ih]
    cases hp : p a <;> cases hq : q a <;> simp <;> first | omega | exact absurd hq (by intro e; exact ha hp e)
theorem len_parts {P : Nat → Vc → Bool} {us : List Vc} (hd : ∀ j j' v, v ∈ us → P j v = true → P j' v = true → j = j') : ∀ k, (partsK P us k).length = us.countP (inSome P k)
  | 0 => (List.countP_eq_zero.2 (fun v _ => by simp [inSome])).symm
  | k + 1 => by
    unfold partsK
    rw [List.length_append, len_parts hd k, show us.countP (inSome P (k + 1)) = us.countP (fun v => inSome P k v || P k v) from List.countP_congr fun v _ => by rw [inSome_succ], count_add (fun v hv h1 h2 => by
      unfold inSome at h1
      obtain ⟨j, hj, h3⟩ := List.any_eq_true.1 h1
      have := hd j k v hv h3 h2
      have := List.mem_range.1 hj
      omega)]
    congr 1
    unfold idsL
    rw [List.length_map, List.countP_eq_length_filter]
theorem len_all {P : Nat → Vc → Bool} {us : List Vc} {k : Nat} (hd : ∀ j j' v, v ∈ us → P j v = true → P j' v = true → j = j') (ha : ∀ v ∈ us, ∃ j < k, P j v = true) : (partsK P us k).length = us.length := by
  rw [len_parts hd, List.countP_eq_length]
  intro v hv
  obtain ⟨j, hj, h⟩ := ha v hv
  exact List.any_eq_true.2 ⟨j, List.mem_range.2 hj, h⟩
end

/-- by the place of its domain -/
def byDom (ds : List Dom) (j : Nat) (v : Vc) : Bool := v.2.1 == (ds.getD j zeroD).1
/-- by the pool of its domain -/
def byPool (ds : List Dom) (j : Nat) (v : Vc) : Bool := (domV ds v.2.1).1.2.2.2 == (j : Int)
theorem dom_disj {ds : List Dom} {us : List Vc} (hP : RightP ds us) {j j' : Nat} (hj : j < ds.length) (hj' : j' < ds.length) {v : Vc} (h1 : byDom ds j v = true) (h2 : byDom ds j' v = true) : j = j' := by
  obtain ⟨x, hx⟩ := elem_at (l := ds) (k := j) hj
  obtain ⟨y, hy⟩ := elem_at (l := ds) (k := j') hj'
  unfold byDom at h1 h2
  rw [dgetD hx] at h1
  rw [dgetD hy] at h2
  have e : x.1 = y.1 := by have a := eq_of_beq h1; have b := eq_of_beq h2; omega
  rcases Nat.lt_trichotomy j j' with h | h | h
  · have := rise_lt_of hP.rd hx hy h; omega
  · exact h
  · have := rise_lt_of hP.rd hy hx h; omega
where
  rise_lt_of {l : List Dom} (hR : Rise l) {i k : Nat} {x y : Dom} (hx : l[i]? = some x) (hy : l[k]? = some y) (h : i < k) : x.1 < y.1 := by
    have q := List.pairwise_iff_getElem.1 hR i k (List.getElem?_eq_some_iff.1 hx).1 (List.getElem?_eq_some_iff.1 hy).1 h
    rw [(List.getElem?_eq_some_iff.1 hx).2, (List.getElem?_eq_some_iff.1 hy).2] at q
    exact q
/-- every virtual CPU is of a domain, in a pool -/
theorem dom_all {ds : List Dom} {us : List Vc} (hP : RightP ds us) {v : Vc} (hv : v ∈ us) : ∃ j < ds.length, byDom ds j v = true := by
  obtain ⟨x, hx⟩ := kf_is (hP.ov v hv).2.2.1
  have h := kf_some hx
  obtain ⟨j, hj⟩ := List.mem_iff_getElem?.1 h.1
  refine ⟨j, (List.getElem?_eq_some_iff.1 hj).1, ?_⟩
  unfold byDom
  rw [dgetD hj, h.2]
  simp
theorem pool_disj {ds : List Dom} {j j' : Nat} {v : Vc} (h1 : byPool ds j v = true) (h2 : byPool ds j' v = true) : j = j' := by
  unfold byPool at h1 h2
  have a := eq_of_beq h1
  have b := eq_of_beq h2
  omega
theorem pool_all {ds : List Dom} {us : List Vc} (hP : RightP ds us) {v : Vc} (hv : v ∈ us) : ∃ j < 4, byPool ds j v = true := by
  obtain ⟨x, hx⟩ := kf_is (hP.ov v hv).2.2.1
  have h := rightD_iff.1 (hP.od x (kf_some hx).1)
  refine ⟨x.2.2.2.toNat, by omega, ?_⟩
  unfold byPool
  rw [show domV ds v.2.1 = (x, true) from domV_some hx]
  simp
  omega
theorem byDom_of {ds : List Dom} {us : List Vc} {k : Nat} {x : Dom} (hx : ds[k]? = some x) : idsL (byDom ds k) us = ofL us x.1 := by
  rw [← idsL_of]
  congr 1
  funext v
  unfold byDom
  rw [dgetD hx]
theorem byPool_of (ds : List Dom) (us : List Vc) (k : Nat) : idsL (byPool ds k) us = inL ds us (k : Int) := (idsL_in ds us (k : Int)).symm ▸ rfl
/-- the weights of those that have virtual CPUs, and pool by pool -/
def wsK (ds : List Dom) (us : List Vc) : Nat → Int
  | 0 => 0
  | k + 1 => wsK ds us k + (if 0 < (ofL us (ds.getD k zeroD).1).length then (ds.getD k zeroD).2.1 else 0)
theorem weights_all {ds : List Dom} {us : List Vc} (hP : RightP ds us) : ∀ k, k ≤ ds.length → weighK ds us 0 k + weighK ds us 1 k + weighK ds us 2 k + weighK ds us 3 k = wsK ds us k
  | 0, _ => rfl
  | k + 1, hk => by
    obtain ⟨x, hx⟩ := elem_at (l := ds) (k := k) (by omega)
    have h := rightD_iff.1 (hP.od x (List.mem_of_getElem? hx))
    have ih := weights_all hP k (by omega)
    unfold weighK wsK
    rw [dgetD hx]
    by_cases h0 : 0 < (ofL us x.1).length
    · have : x.2.2.2 = 0 ∨ x.2.2.2 = 1 ∨ x.2.2.2 = 2 ∨ x.2.2.2 = 3 := by omega
      rcases this with e | e | e | e <;> simp [e, h0] <;> omega
    · simp [h0]; omega

end Go.Proofs.Ytknimnopopnbhaa
