/-
  Timers slot by slot: none twice, all of them in the end; a timer's digit is above the time's; who is due first stands on the least level (mathematics, for WheelSlots). No statement is proved here.
-/
import Derived.Test.YtbhcpkmofnfjgaaMc
import Derived.Test.YtbhcpkmofnfjgaaWt
import Derived.Test.YtbhcpkmofnfjgaaWu
namespace Go.Proofs.Ytbhcpkmofnfjgaa
open Go.RowKit Go.Maps

section
variable (P : Nat → Tm → Bool) (us : List Tm)
def idsL (p : Tm → Bool) (us : List Tm) : List Int := (us.filter p).map (·.1)
/-- the numbers of those of the first k classes -/
def partsK : Nat → List Int
  | 0 => []
  | k + 1 => partsK k ++ idsL (P k) us
theorem parts_succ (k : Nat) : partsK P us k ++ idsL (P k) us = partsK P us (k + 1) := rfl
theorem mem_ids {p : Tm → Bool} {us : List Tm} {x : Int} : x ∈ idsL p us ↔ ∃ v ∈ us, p v = true ∧ v.1 = x := by
  unfold idsL
  simp only [List.mem_map, List.mem_filter]
  constructor
  · rintro ⟨v, ⟨h1, h2⟩, h3⟩; exact ⟨v, h1, h2, h3⟩
  · rintro ⟨v, h1, h2, h3⟩; exact ⟨v, ⟨h1, h2⟩, h3⟩
theorem mem_parts {k : Nat} {x : Int} : x ∈ partsK P us k ↔ ∃ j < k, ∃ v ∈ us, P j v = true ∧ v.1 = x := by
  induction k with
  | zero => simp [partsK]
  | succ k ih =>
    unfold partsK
    rw [List.mem_append, ih, mem_ids]
    constructor
    · rintro (⟨j, hj, h⟩ | h)
      · exact ⟨j, by omega, h⟩
      · exact ⟨k, by omega, h⟩
    · rintro ⟨j, hj, h⟩
      by_cases e : j = k
      · subst e; exact .inr h
      · exact .inl ⟨j, by omega, h⟩
def RiseT (us : List Tm) : Prop := us.Pairwise (fun a b => a.1 < b.1)
theorem rise_inj {us : List Tm} (hR : RiseT us) {u v : Tm} (hu : u ∈ us) (hv : v ∈ us) (e : u.1 = v.1) : u = v := by
  obtain ⟨i, hi⟩ := List.mem_iff_getElem?.1 hu
  obtain ⟨j, hj⟩ := List.mem_iff_getElem?.1 hv
  obtain ⟨i1, e1⟩ := List.getElem?_eq_some_iff.1 hi
  obtain ⟨j1, e2⟩ := List.getElem?_eq_some_iff.1 hj
  rcases Nat.lt_trichotomy i j with h | h | h
  · have q := List.pairwise_iff_getElem.1 hR i j i1 j1 h
    rw [e1, e2] at q; omega
  · subst h; rw [← e1, ← e2]
  · have q := List.pairwise_iff_getElem.1 hR j i j1 i1 h
    rw [e1, e2] at q; omega
theorem ids_nodup {us : List Tm} (hR : RiseT us) (p : Tm → Bool) : (idsL p us).Nodup := by
  unfold idsL
  have h : (us.filter p).Pairwise (fun a b => a.1 < b.1) := List.Pairwise.sublist List.filter_sublist hR
  rw [List.Nodup, List.pairwise_map]
  exact h.imp (fun h e => by omega)
theorem nodup_take {l : List Int} (h : l.Nodup) {j : Nat} {v : Int} (hv : l[j]? = some v) : v ∉ l.take j := by
  intro hm
  obtain ⟨i, hi⟩ := List.mem_iff_getElem?.1 hm
  rw [List.getElem?_take] at hi
  split at hi
  · rename_i hlt
    obtain ⟨i1, e1⟩ := List.getElem?_eq_some_iff.1 hi
    obtain ⟨j1, e2⟩ := List.getElem?_eq_some_iff.1 hv
    exact List.pairwise_iff_getElem.1 h i j i1 j1 hlt (by rw [e1, e2])
  · cases hi
theorem parts_nodup {P : Nat → Tm → Bool} {us : List Tm} (hR : RiseT us) (hd : ∀ j j' v, P j v = true → P j' v = true → j = j') : ∀ k, (partsK P us k).Nodup
  | 0 => List.Pairwise.nil
  | k + 1 => by
    unfold partsK
    rw [List.Nodup, List.pairwise_append]
    refine ⟨parts_nodup hR hd k, ids_nodup hR _, fun a ha b hb e => ?_⟩
    subst e
    obtain ⟨j, hj, v, hv, h1, h2⟩ := (mem_parts P us).1 ha
    obtain ⟨v', hv', h3, h4⟩ := mem_ids.1 hb
    have : v = v' := rise_inj hR hv hv' (by omega)
    subst this
    have := hd j k v h1 h3
    omega
theorem parts_take {P : Nat → Tm → Bool} {us : List Tm} (hR : RiseT us) (hd : ∀ j j' v, P j v = true → P j' v = true → j = j') (k : Nat) {j : Nat} {v : Int} (hv : (idsL (P k) us)[j]? = some v) : v ∉ partsK P us k ++ (idsL (P k) us).take j := by
  rw [List.mem_append]
  rintro (h | h)
  · obtain ⟨i, hi, u, hu, h1, h2⟩ := (mem_parts P us).1 h
    obtain ⟨u', hu', h3, h4⟩ := mem_ids.1 (List.mem_of_getElem? hv)
    have : u = u' := rise_inj hR hu hu' (by omega)
    subst this
    have := hd i k u h1 h3
    omega
  · exact nodup_take (ids_nodup hR _) hv h
def inSome (k : Nat) (v : Tm) : Bool := (List.range k).any fun j => P j v
theorem inSome_succ {P : Nat → Tm → Bool} {k : Nat} {v : Tm} : inSome P (k + 1) v = (inSome P k v || P k v) := by
  unfold inSome
  rw [List.range_succ, List.any_append]
  simp
theorem count_add {p q : Tm → Bool} {us : List Tm} (h : ∀ v ∈ us, p v = true → q v = true → False) : us.countP (fun v => p v || q v) = us.countP p + us.countP q := by
  induction us with
  | nil => rfl
  | cons a l ih =>
    have ih := ih fun v hv => h v (List.mem_cons_of_mem _ hv)
    have ha := h a (List.mem_cons_self ..)
    simp only [List.countP_cons, ih]
    cases hp : p a <;> cases hq : q a <;> simp <;> first | omega | exact absurd hq (by intro e; exact ha hp e)
theorem len_parts {P : Nat → Tm → Bool} {us : List Tm} (hd : ∀ j j' v, P j v = true → P j' v = true → j = j') : ∀ k, (partsK P us k).length = us.countP (inSome P k)
  | 0 => (List.countP_eq_zero.2 (fun v _ => by simp [inSome])).symm
  | k + 1 => by
    unfold partsK
    rw [List.length_append, len_parts hd k, show us.countP (inSome P (k + 1)) = us.countP (fun v => inSome P k v || P k v) from List.countP_congr fun v _ => by rw [inSome_succ], count_add (fun v hv h1 h2 => by
      unfold inSome at h1
      obtain ⟨j, hj, h3⟩ := List.any_eq_true.1 h1
      have := hd j k v h3 h2
      have := List.mem_range.1 hj
      omega)]
    congr 1
    unfold idsL
    rw [List.length_map, List.countP_eq_length_filter]
theorem len_all {P : Nat → Tm → Bool} {us : List Tm} {k : Nat} (hd : ∀ j j' v, P j v = true → P j' v = true → j = j') (ha : ∀ v ∈ us, ∃ j < k, P j v = true) : (partsK P us k).length = us.length := by
  rw [len_parts hd, List.countP_eq_length]
  intro v hv
  obtain ⟨j, hj, h⟩ := ha v hv
  exact List.any_eq_true.2 ⟨j, List.mem_range.2 hj, h⟩
theorem len_le {P : Nat → Tm → Bool} {us : List Tm} (hd : ∀ j j' v, P j v = true → P j' v = true → j = j') (k : Nat) : (partsK P us k).length ≤ us.length := by
  rw [len_parts hd]
  exact List.countP_le_length
end

/-- by its slot -/
def byS (now : Int) (j : Nat) (t : Tm) : Bool := decide (spotT now t.2 = (((j / 64 : Nat) : Int), ((j % 64 : Nat) : Int)))
theorem byS_one (now : Int) (j j' : Nat) (v : Tm) (h1 : byS now j v = true) (h2 : byS now j' v = true) : j = j' := by
  have a := of_decide_eq_true h1
  have b := of_decide_eq_true h2
  rw [a] at b
  obtain ⟨e1, e2⟩ := Prod.mk.inj b
  omega
theorem byS_at (now : Int) (a s : Nat) (hs : s < 64) : byS now (64 * a + s) = fun t => decide (spotT now t.2 = ((a : Int), (s : Int))) := by
  funext t
  unfold byS
  rw [show (64 * a + s) / 64 = a by omega, show (64 * a + s) % 64 = s by omega]
theorem slot_is {now : Int} {ts : List Tm} (hc : chkW now ts = true) (a s : Nat) (hs : s < 64) : slotV now ts (a : Int) (s : Int) = idsL (byS now (64 * a + s)) ts := by
  unfold slotV idsL
  rw [if_pos hc, byS_at now a s hs]

/-- the level at which a later time differs, and that its digit is above -/
theorem spow_succ (k : Nat) : (64 : Int) ^ (k + 1) = 64 ^ k * 64 := by rw [Int.pow_succ]
theorem sdiv_step (x : Int) (k : Nat) : x / 64 ^ k = 64 * (x / 64 ^ (k + 1)) + dgT x k := by
  unfold dgT
  rw [spow_succ, ← Int.ediv_ediv_of_nonneg (Int.le_of_lt (Int.pow_pos (by decide)))]
  omega
theorem div_mono {x y : Int} (h : x ≤ y) (k : Nat) : x / 64 ^ k ≤ y / 64 ^ k := Int.ediv_le_ediv (Int.pow_pos (by decide)) h
theorem spot_spec {now b : Int} (hlt : now < b) : ∀ K : Nat, b / 64 ^ K = now / 64 ^ K → ∃ k : Nat, k < K ∧ spotF now b K = ((k : Int), dgT b k) ∧ dgT now k < dgT b k ∧ b / 64 ^ (k + 1) = now / 64 ^ (k + 1)
  | 0, h => by simp at h; omega
  | K + 1, h => by
    have e1 := sdiv_step b K
    have e2 := sdiv_step now K
    have hm := div_mono (Int.le_of_lt hlt) K
    unfold spotF
    by_cases he : dgT b K = dgT now K
    · rw [if_pos he]
      obtain ⟨k, hk, h1, h2, h3⟩ := spot_spec hlt K (by omega)
      exact ⟨k, by omega, h1, h2, h3⟩
    · rw [if_neg he]
      exact ⟨K, by omega, rfl, by omega, h⟩
theorem top_same {x : Int} (h0 : 0 ≤ x) (h1 : x ≤ 1125899906842624) : x / 64 ^ 9 = 0 := Int.ediv_eq_zero_of_lt h0 (by omega)
theorem spotT_spec {now b : Int} (h0 : 0 ≤ now) (hlt : now < b) (hb : b ≤ 1125899906842624) : ∃ k : Nat, k < 9 ∧ spotT now b = ((k : Int), dgT b k) ∧ dgT now k < dgT b k ∧ b / 64 ^ (k + 1) = now / 64 ^ (k + 1) :=
  spot_spec hlt 9 (by rw [top_same (by omega) hb, top_same h0 (by omega)])
theorem div_le {x y : Int} {m : Nat} (h : x / 64 ^ m = y / 64 ^ m) : ∀ d, x / 64 ^ (m + d) = y / 64 ^ (m + d)
  | 0 => h
  | d + 1 => by
    have ih := div_le h d
    have e1 := sdiv_step x (m + d)
    have e2 := sdiv_step y (m + d)
    rw [← Nat.add_assoc]
    have r : ∀ z : Int, z / 64 ^ (m + d + 1) = z / 64 ^ (m + d) / 64 := fun z => by
      rw [spow_succ, ← Int.ediv_ediv_of_nonneg (Int.le_of_lt (Int.pow_pos (by decide)))]
    rw [r, r, ih]
/-- who is due earlier stands on no greater level -/
theorem level_mono {now b c : Int} (h0 : 0 ≤ now) (h1 : now < b) (h2 : b ≤ c) (hc : c ≤ 1125899906842624) : (spotT now b).1 ≤ (spotT now c).1 := by
  obtain ⟨k, hk, e1, e2, e3⟩ := spotT_spec h0 h1 (by omega)
  obtain ⟨j, hj, g1, g2, g3⟩ := spotT_spec h0 (show now < c by omega) hc
  rw [e1, g1]
  show (k : Int) ≤ (j : Int)
  apply Classical.byContradiction
  intro hn
  have hjk : j + 1 ≤ k := by omega
  have hbj : b / 64 ^ (j + 1) = now / 64 ^ (j + 1) := by
    have a1 := div_mono (Int.le_of_lt h1) (j + 1)
    have a2 := div_mono h2 (j + 1)
    omega
  have hbk := div_le hbj (k - (j + 1))
  rw [show j + 1 + (k - (j + 1)) = k by omega] at hbk
  have d1 := sdiv_step b k
  have d2 := sdiv_step now k
  omega
theorem slot_above {now : Int} {ts : List Tm} (hc : chkW now ts = true) {a s : Nat} (hs : s < 64) {x : Int} (hx : x ∈ idsL (byS now (64 * a + s)) ts) : dgT now a < (s : Int) := by
  obtain ⟨h0, _, hR⟩ := chkW_iff.1 hc
  obtain ⟨t, ht, h1, _⟩ := mem_ids.1 hx
  rw [byS_at now a s hs] at h1
  have h1 := of_decide_eq_true h1
  obtain ⟨_, _, q1, q2⟩ := tmB_iff.1 (hR.each t ht)
  obtain ⟨k, hk, e1, e2, _⟩ := spotT_spec h0 q1 q2
  rw [e1] at h1
  obtain ⟨g1, g2⟩ := Prod.mk.inj h1
  have : k = a := by omega
  subst this
  omega
theorem byS_all {now : Int} {ts : List Tm} (hc : chkW now ts = true) (v : Tm) (hv : v ∈ ts) : ∃ j < 576, byS now j v = true := by
  obtain ⟨h0, _, hR⟩ := chkW_iff.1 hc
  obtain ⟨_, _, q1, q2⟩ := tmB_iff.1 (hR.each v hv)
  obtain ⟨k, hk, e1, e2, _⟩ := spotT_spec h0 q1 q2
  have hd : 0 ≤ dgT v.2 k ∧ dgT v.2 k < 64 := by unfold dgT; omega
  refine ⟨64 * k + (dgT v.2 k).toNat, by omega, ?_⟩
  rw [byS_at now k _ (by omega)]
  refine decide_eq_true ?_
  rw [e1]
  exact Prod.ext rfl (by dsimp only; omega)
theorem slots_rise {now : Int} {ts : List Tm} (hc : chkW now ts = true) : RiseT ts := (chkW_iff.1 hc).2.2.rise
theorem slots_size {H : Type} {now : Int} {ts : List Tm} (hc : chkW now ts = true) {T : Nat} (hT : T = 576) : size (cnt (H := H) (partsK (byS now) ts T)) = ts.length := by
  rw [cnt_size _ (parts_nodup (slots_rise hc) (byS_one now) _), len_all (byS_one now) (fun v hv => by rw [hT]; exact byS_all hc v hv)]
theorem slots_in {now : Int} {ts : List Tm} (hc : chkW now ts = true) {T : Nat} (hT : T = 576) {v : Tm} (hv : v ∈ ts) : v.1 ∈ partsK (byS now) ts T := by
  obtain ⟨j, hj, h⟩ := byS_all hc v hv
  exact (mem_parts _ _).2 ⟨j, by omega, v, hv, h, rfl⟩
theorem tid_wf {now : Int} {ts : List Tm} (hc : chkW now ts = true) {v : Tm} (hv : v ∈ ts) : (Lit.int .i64 v.1).wf = true := by
  obtain ⟨q1, q2, _, _⟩ := tmB_iff.1 ((chkW_iff.1 hc).2.2.each v hv)
  rw [show v.1 = wrap64 v.1 by unfold wrap64; omega]
  exact wrap64_wf _

/-- the least level of all -/
def minS (now : Int) (l : List Tm) : Int := l.foldl (fun m t => min m (spotT now t.2).1) 9
theorem minS_step (now : Int) {l : List Tm} {k : Nat} {x : Tm} (h : l[k]? = some x) : minS now (l.take (k + 1)) = min (minS now (l.take k)) (spotT now x.2).1 := by
  unfold minS
  rw [List.take_add_one, h, List.foldl_append]
  rfl
theorem minS_fold (now : Int) : ∀ (l : List Tm) (m : Int), (let r := l.foldl (fun m t => min m (spotT now t.2).1) m; r ≤ m ∧ (∀ t ∈ l, r ≤ (spotT now t.2).1) ∧ (r = m ∨ ∃ t ∈ l, (spotT now t.2).1 = r))
  | [], m => ⟨Int.le_refl _, fun t h => by simp at h, .inl rfl⟩
  | x :: l, m => by
    rw [List.foldl_cons]
    obtain ⟨h1, h2, h3⟩ := minS_fold now l (min m (spotT now x.2).1)
    refine ⟨by omega, fun t ht => ?_, ?_⟩
    · rcases List.mem_cons.1 ht with rfl | ht
      · omega
      · exact h2 t ht
    · rcases h3 with h3 | ⟨t, ht, h3⟩
      · by_cases hm : m ≤ (spotT now x.2).1
        · exact .inl (by omega)
        · exact .inr ⟨x, by simp, by omega⟩
      · exact .inr ⟨t, by simp [ht], h3⟩
theorem least_level {now : Int} {ts : List Tm} (hc : chkW now ts = true) {a b : Int} (hx : (a, b) ∈ ts) (hb : b = leastD ts) : (spotT now b).1 = minS now ts := by
  obtain ⟨h0, _, hR⟩ := chkW_iff.1 hc
  obtain ⟨_, _, q1, q2⟩ := tmB_iff.1 (hR.each _ hx)
  dsimp only at q1 q2
  have hl : ∀ t ∈ ts, b ≤ t.2 := by
    rw [hb]
    have hpos : ∀ t ∈ ts, 0 < t.2 := fun t ht => by have := tmB_iff.1 (hR.each t ht); omega
    cases ts with
    | nil => simp at hx
    | cons x l =>
      have hx := hpos x (by simp)
      have e : leastD (x :: l) = l.foldl (fun m t => if m = 0 ∨ t.2 < m then t.2 else m) x.2 := by
        unfold leastD
        rw [List.foldl_cons, if_pos (.inl rfl)]
      obtain ⟨_, h2, h3, _⟩ := least_fold l x.2 hx (fun t ht => hpos t (by simp [ht]))
      rw [← e] at h2 h3
      intro t ht
      rcases List.mem_cons.1 ht with rfl | ht
      · exact h2
      · exact h3 t ht
  have hlev : ∀ t ∈ ts, (spotT now b).1 ≤ (spotT now t.2).1 := fun t ht => by
    obtain ⟨_, _, _, q4⟩ := tmB_iff.1 (hR.each _ ht)
    exact level_mono h0 q1 (hl t ht) q4
  obtain ⟨h1, h2, h3⟩ := minS_fold now ts 9
  change minS now ts ≤ 9 at h1
  change ∀ t ∈ ts, minS now ts ≤ (spotT now t.2).1 at h2
  change minS now ts = 9 ∨ ∃ t ∈ ts, (spotT now t.2).1 = minS now ts at h3
  have g1 := h2 _ hx
  dsimp only at g1
  have g2 := (spot_level now b).2
  rcases h3 with h3 | ⟨t, ht, h3⟩
  · omega
  · have := hlev t ht; omega
theorem next_len {now : Int} {ts : List Tm} (hc : chkW now ts = true) : nextV now ts = (leastD ts, decide (0 < ts.length)) := by
  rw [least_next hc]
  obtain ⟨h0, _, hR⟩ := chkW_iff.1 hc
  have hpos : ∀ t ∈ ts, 0 < t.2 := fun t ht => by have := tmB_iff.1 (hR.each t ht); omega
  congr 1
  cases ts with
  | nil => rfl
  | cons x l =>
    have hx := hpos x (by simp)
    have e : leastD (x :: l) = l.foldl (fun m t => if m = 0 ∨ t.2 < m then t.2 else m) x.2 := by
      unfold leastD
      rw [List.foldl_cons, if_pos (.inl rfl)]
    obtain ⟨h1, _⟩ := least_fold l x.2 hx (fun t ht => hpos t (by simp [ht]))
    rw [← e] at h1
    exact decide_eq_decide.2 ⟨fun _ => by simp, fun _ => h1⟩

end Go.Proofs.Ytbhcpkmofnfjgaa
