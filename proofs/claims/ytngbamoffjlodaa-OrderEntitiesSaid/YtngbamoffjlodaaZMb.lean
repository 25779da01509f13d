/-
  Entities out of runners, waits and gangs: plain mathematics. No statement is proved here.
-/
import Derived.Test.YtngbamoffjlodaaZMa
namespace Go.Proofs.Ytngbamoffjlodaa
open Go.RowKit

/-- a wait: Id, Order, Fresh -/
abbrev Wt := Int × Nat × Bool
/-- a runner with its wait: Id; Each and its time; Order, Fresh -/
abbrev Pt := Int × (Int × Nat × Nat × Nat) × Nat × Bool
def pts (qs : List Rn) (ws : List Wt) : List Pt := List.zipWith (fun r w => (r.1, r.2, w.2)) qs ws
def timesP (ps : List Pt) : List (Nat × Nat × Nat) := ps.map fun p => p.2.1.2
def tmaxP (ps : List Pt) : Nat × Nat × Nat := (timesP ps).getD (topI (timesP ps)) (0, 0, 0)
def ordP (ps : List Pt) : Nat := ps.foldl (fun m p => min m p.2.2.1) 4611686018427387904
def freshP (ps : List Pt) : Bool := ps.all fun p => p.2.2.2
def idsP (ps : List Pt) : List Int := ps.map fun p => p.1
def joinP (ps : List Pt) : Et := (idsP ps, tmaxP ps, ordP ps, freshP ps)
def mkP (ps : List Pt) : List Et := if ps = [] then [] else [joinP ps]
def takeP (L : List Pt) (is : List Int) : List Pt := is.filterMap (kf L)
def aloneB (gs : List (List Int)) (i : Int) : Bool := !gs.any fun g => decide (i ∈ g)
def gangE (L : List Pt) (gs : List (List Int)) : List Et := gs.flatMap fun g => mkP (takeP L g)
def singE (gs : List (List Int)) (L : List Pt) : List Et := L.flatMap fun p => if aloneB gs p.1 = true then [joinP [p]] else []
def entsP (L : List Pt) (gs : List (List Int)) : List Et := gangE L gs ++ singE gs L

/-! ### what may be put in order -/
def wOk (qs : List Rn) (ws : List Wt) (k : Nat) : Bool :=
  decide ((ws.getD k (0, 0, false)).1 = (qs.getD k (0, 0, 0, 0, 0)).1) && decide (1 ≤ (ws.getD k (0, 0, false)).2.1) && decide ((ws.getD k (0, 0, false)).2.1 ≤ 4611686018427387904) && decide ((ws.getD k (0, 0, false)).2.1 ∉ (ws.take k).map fun w => w.2.1)
def waitsB (qs : List Rn) (ws : List Wt) : Bool := decide (ws.length = qs.length) && (List.range ws.length).all (wOk qs ws)
def gOk (gs : List (List Int)) (k : Nat) : Bool :=
  decide (gs.getD k [] ≠ []) && riseI 0 (gs.getD k []) && (gs.getD k []).all fun i => aloneB (gs.take k) i
def gangsB (gs : List (List Int)) : Bool := (List.range gs.length).all (gOk gs)
def chkO (qs : List Rn) (ws : List Wt) (gs : List (List Int)) : Int := if rightQ qs = false then 200 else if (waitsB qs ws && gangsB gs) = true then 0 else 220

theorem waits_yes {qs : List Rn} {ws : List Wt} (hl : ws.length = qs.length) (h : ∀ k, k < ws.length → wOk qs ws k = true) : waitsB qs ws = true := by
  unfold waitsB
  rw [decide_eq_true hl, Bool.true_and, List.all_eq_true]
  exact fun k hk => h k (List.mem_range.1 hk)
theorem waits_len {qs : List Rn} {ws : List Wt} (hl : ¬ ws.length = qs.length) : waitsB qs ws = false := by unfold waitsB; rw [decide_eq_false hl]; rfl
theorem waits_no {qs : List Rn} {ws : List Wt} {k : Nat} (hk : k < ws.length) (h : wOk qs ws k = false) : waitsB qs ws = false := by
  unfold waitsB
  rw [Bool.and_eq_false_iff]
  right
  rw [List.all_eq_false]
  exact ⟨k, List.mem_range.2 hk, by rw [h]; simp⟩
theorem gangs_yes {gs : List (List Int)} (h : ∀ k, k < gs.length → gOk gs k = true) : gangsB gs = true := by
  unfold gangsB
  rw [List.all_eq_true]
  exact fun k hk => h k (List.mem_range.1 hk)
theorem gangs_no {gs : List (List Int)} {k : Nat} (hk : k < gs.length) (h : gOk gs k = false) : gangsB gs = false := by
  unfold gangsB
  rw [List.all_eq_false]
  exact ⟨k, List.mem_range.2 hk, by rw [h]; simp⟩
theorem getD_at {α : Type} {l : List α} {k : Nat} {x d : α} (h : l[k]? = some x) : l.getD k d = x := by rw [List.getD_eq_getElem?_getD, h]; rfl
theorem wOk_at {qs : List Rn} {ws : List Wt} {k : Nat} {w : Wt} {r : Rn} (hw : ws[k]? = some w) (hr : qs[k]? = some r) :
    wOk qs ws k = (decide (w.1 = r.1) && decide (1 ≤ w.2.1) && decide (w.2.1 ≤ 4611686018427387904) && decide (w.2.1 ∉ (ws.take k).map fun w => w.2.1)) := by
  unfold wOk
  rw [getD_at hw, getD_at hr]
theorem gOk_at {gs : List (List Int)} {k : Nat} {g : List Int} (hg : gs[k]? = some g) : gOk gs k = (decide (g ≠ []) && riseI 0 g && g.all fun i => aloneB (gs.take k) i) := by
  unfold gOk
  rw [getD_at hg]

/-- waits that may be -/
structure WR (qs : List Rn) (ws : List Wt) : Prop where
  len : ws.length = qs.length
  each : ∀ (k : Nat) (w : Wt) (r : Rn), ws[k]? = some w → qs[k]? = some r → w.1 = r.1 ∧ 1 ≤ w.2.1 ∧ w.2.1 ≤ 4611686018427387904
  apart : (ws.map fun w => w.2.1).Nodup
theorem waits_wr {qs : List Rn} {ws : List Wt} (h : waitsB qs ws = true) : WR qs ws := by
  unfold waitsB at h
  simp only [Bool.and_eq_true, decide_eq_true_eq, List.all_eq_true, List.mem_range] at h
  obtain ⟨hl, h⟩ := h
  have hk : ∀ (k : Nat) (w : Wt) (r : Rn), ws[k]? = some w → qs[k]? = some r → (w.1 = r.1 ∧ 1 ≤ w.2.1 ∧ w.2.1 ≤ 4611686018427387904) ∧ w.2.1 ∉ (ws.take k).map fun w => w.2.1 := by
    intro k w r hw hr
    have q := h k (List.getElem?_eq_some_iff.1 hw).1
    rw [wOk_at hw hr] at q
    simp only [Bool.and_eq_true, decide_eq_true_eq] at q
    exact ⟨⟨q.1.1.1, q.1.1.2, q.1.2⟩, q.2⟩
  refine ⟨hl, fun k w r hw hr => (hk k w r hw hr).1, ?_⟩
  refine List.pairwise_iff_getElem.2 fun i j hi hj hij => ?_
  rw [List.length_map] at hi hj
  have hw : ws[j]? = some ws[j] := List.getElem?_eq_getElem hj
  have hr : qs[j]? = some (qs[j]'(by omega)) := List.getElem?_eq_getElem (by omega)
  have q := (hk j _ _ hw hr).2
  intro e
  apply q
  rw [List.getElem_map, List.getElem_map] at e
  rw [← e]
  refine List.mem_map.2 ⟨ws[i], ?_, rfl⟩
  exact List.mem_iff_getElem?.2 ⟨i, by rw [List.getElem?_take, if_pos hij]; exact List.getElem?_eq_getElem hi⟩
theorem riseI_pair : ∀ {last : Int} {l : List Int}, riseI last l = true → (∀ x ∈ l, last < x ∧ x ≤ 16) ∧ l.Pairwise (· < ·)
  | _, [], _ => ⟨by simp, List.Pairwise.nil⟩
  | last, a :: l, h => by
    have h0 : (decide (last < a) && decide (a ≤ 16) && riseI a l) = true := h
    simp only [Bool.and_eq_true, decide_eq_true_eq] at h0
    obtain ⟨i1, i2⟩ := riseI_pair h0.2
    refine ⟨fun x hx => ?_, List.pairwise_cons.2 ⟨fun y hy => (i1 y hy).1, i2⟩⟩
    rcases List.mem_cons.1 hx with e | e
    · subst e; exact h0.1
    · have := i1 x e; omega
/-- gangs that may be -/
structure GR (gs : List (List Int)) : Prop where
  some_ : ∀ g ∈ gs, g ≠ []
  rise : ∀ g ∈ gs, g.Pairwise (· < ·)
  each : ∀ g ∈ gs, ∀ x ∈ g, 0 < x ∧ x ≤ 16
  apart : gs.Pairwise (fun g h => ∀ x ∈ g, ∀ y ∈ h, x ≠ y)
theorem aloneB_iff {gs : List (List Int)} {i : Int} : aloneB gs i = true ↔ ∀ g ∈ gs, i ∉ g := by
  unfold aloneB
  simp
theorem aloneB_false {gs : List (List Int)} {i : Int} {g : List Int} (hg : g ∈ gs) (hi : i ∈ g) : aloneB gs i = false := by
  cases h : aloneB gs i with
  | false => rfl
  | true => exact absurd hi (aloneB_iff.1 h g hg)
theorem gangs_gr {gs : List (List Int)} (h : gangsB gs = true) : GR gs := by
  unfold gangsB at h
  simp only [List.all_eq_true, List.mem_range] at h
  have hk : ∀ (k : Nat) (g : List Int), gs[k]? = some g → g ≠ [] ∧ riseI 0 g = true ∧ ∀ i ∈ g, aloneB (gs.take k) i = true := by
    intro k g hg
    have q := h k (List.getElem?_eq_some_iff.1 hg).1
    rw [gOk_at hg] at q
    simp only [Bool.and_eq_true, decide_eq_true_eq, List.all_eq_true] at q
    exact ⟨q.1.1, q.1.2, q.2⟩
  have hm : ∀ g ∈ gs, ∃ k, gs[k]? = some g := fun g hg => List.mem_iff_getElem?.1 hg
  refine ⟨fun g hg => ?_, fun g hg => ?_, fun g hg => ?_, ?_⟩
  · obtain ⟨k, e⟩ := hm g hg; exact (hk k g e).1
  · obtain ⟨k, e⟩ := hm g hg; exact (riseI_pair (hk k g e).2.1).2
  · obtain ⟨k, e⟩ := hm g hg; exact (riseI_pair (hk k g e).2.1).1
  · refine List.pairwise_iff_getElem.2 fun i j hi hj hij x hx y hy e => ?_
    have q := (hk j _ (List.getElem?_eq_getElem hj)).2.2 y hy
    exact aloneB_iff.1 q gs[i] (List.mem_iff_getElem?.2 ⟨i, by rw [List.getElem?_take, if_pos hij]; exact List.getElem?_eq_getElem hi⟩) (e ▸ hx)
theorem chkO_ok {qs : List Rn} {ws : List Wt} {gs : List (List Int)} (h : chkO qs ws gs = 0) : RQ qs ∧ WR qs ws ∧ GR gs := by
  unfold chkO at h
  split at h
  · omega
  · rename_i hq
    split at h
    · rename_i hb
      rw [Bool.and_eq_true] at hb
      refine ⟨rightQ_iff.1 (by simpa using hq), waits_wr hb.1, gangs_gr hb.2⟩
    · omega

/-! ### the parts -/
theorem pts_at {qs : List Rn} {ws : List Wt} {k : Nat} {r : Rn} {w : Wt} (hr : qs[k]? = some r) (hw : ws[k]? = some w) : (pts qs ws)[k]? = some (r.1, r.2, w.2) := by
  unfold pts
  rw [List.getElem?_zipWith, hr, hw]
theorem pts_len {qs : List Rn} {ws : List Wt} (h : ws.length = qs.length) : (pts qs ws).length = qs.length := by unfold pts; rw [List.length_zipWith]; omega
theorem pts_ids : ∀ {qs : List Rn} {ws : List Wt}, ws.length = qs.length → idsP (pts qs ws) = qs.map (·.1)
  | [], [], _ => rfl
  | [], _ :: _, h => by simp at h
  | _ :: _, [], h => by simp at h
  | r :: qs, w :: ws, h => by
    have ih := pts_ids (qs := qs) (ws := ws) (by simpa using h)
    show r.1 :: idsP (pts qs ws) = r.1 :: qs.map (·.1)
    rw [ih]
theorem rise_ids {L : List Pt} : Rise L ↔ (idsP L).Pairwise (· < ·) := by unfold Rise idsP; rw [List.pairwise_map]
theorem rise_map {l : List Rn} : Rise l ↔ (l.map (·.1)).Pairwise (· < ·) := by unfold Rise; rw [List.pairwise_map]
theorem pts_rise {qs : List Rn} {ws : List Wt} (h : ws.length = qs.length) (hR : Rise qs) : Rise (pts qs ws) := by
  rw [rise_ids, pts_ids h]
  exact rise_map.1 hR
theorem kf_filter (f : Int → Bool) : ∀ (L : List Pt) (i : Int), kf (L.filter fun p => f p.1) i = if f i = true then kf L i else none
  | [], i => by simp [kf]
  | a :: L, i => by
    have ih := kf_filter f L i
    rw [List.filter_cons, kf_cons]
    by_cases h : f a.1 = true
    · rw [if_pos h, kf_cons, ih]
      by_cases e : a.1 = i
      · subst e; rw [if_pos rfl, if_pos rfl, if_pos h]
      · rw [if_neg e, if_neg e]
    · rw [if_neg h, ih]
      by_cases e : a.1 = i
      · subst e; rw [if_neg h, if_neg h]
      · rw [if_neg e]
theorem fm_congr {α β : Type} {f g : α → Option β} : ∀ {l : List α}, (∀ i ∈ l, f i = g i) → l.filterMap f = l.filterMap g
  | [], _ => rfl
  | a :: l, h => by
    rw [List.filterMap_cons, List.filterMap_cons, h a (by simp), fm_congr fun i hi => h i (by simp [hi])]
theorem takeP_filter {f : Int → Bool} {L : List Pt} {g : List Int} (h : ∀ i ∈ g, f i = true) : takeP (L.filter fun p => f p.1) g = takeP L g := by
  unfold takeP
  exact fm_congr fun i hi => by rw [kf_filter, if_pos (h i hi)]
theorem takeP_ids (L : List Pt) : ∀ g : List Int, idsP (takeP L g) = g.filter fun i => (kf L i).isSome
  | [] => rfl
  | i :: g => by
    have ih := takeP_ids L g
    unfold takeP at ih ⊢
    rw [List.filterMap_cons, List.filter_cons]
    cases h : kf L i with
    | none => simpa using ih
    | some p =>
      have e := (kf_some h).2
      show p.1 :: idsP (g.filterMap (kf L)) = _
      rw [ih, e]
      rfl
theorem takeP_mem {L : List Pt} {g : List Int} {p : Pt} (hR : Rise L) : p ∈ takeP L g ↔ p ∈ L ∧ p.1 ∈ g := by
  unfold takeP
  rw [List.mem_filterMap]
  constructor
  · rintro ⟨i, hi, h⟩
    have q := kf_some h
    exact ⟨q.1, q.2 ▸ hi⟩
  · rintro ⟨h1, h2⟩
    exact ⟨p.1, h2, kf_mem hR h1⟩
theorem takeP_rise {L : List Pt} {g : List Int} (hg : g.Pairwise (· < ·)) : Rise (takeP L g) := by
  rw [rise_ids, takeP_ids]
  exact hg.sublist List.filter_sublist
theorem takeP_eq {L : List Pt} {g : List Int} (hR : Rise L) (hg : g.Pairwise (· < ·)) : takeP L g = L.filter fun p => decide (p.1 ∈ g) := by
  refine rise_ext (takeP_rise hg) (hR.sublist List.filter_sublist) fun y => ?_
  rw [takeP_mem hR, List.mem_filter, decide_eq_true_eq]
theorem takeP_one {L : List Pt} (hR : Rise L) {p : Pt} (hp : p ∈ L) : takeP L [p.1] = [p] := by
  unfold takeP
  rw [List.filterMap_cons, kf_mem hR hp]
  rfl
theorem aloneB_snoc {gs : List (List Int)} {k : Nat} {g : List Int} (hg : gs[k]? = some g) (i : Int) : aloneB (gs.take (k + 1)) i = (aloneB (gs.take k) i && decide (i ∉ g)) := by
  unfold aloneB
  rw [List.take_add_one, hg, List.any_append]
  simp
theorem gangE_snoc {L : List Pt} {gs : List (List Int)} {k : Nat} {g : List Int} (hg : gs[k]? = some g) : gangE L (gs.take (k + 1)) = gangE L (gs.take k) ++ mkP (takeP L g) := by
  unfold gangE
  rw [List.take_add_one, hg, List.flatMap_append]
  simp
theorem singE_snoc {L : List Pt} {gs : List (List Int)} {k : Nat} {p : Pt} (hp : L[k]? = some p) : singE gs (L.take (k + 1)) = singE gs (L.take k) ++ if aloneB gs p.1 = true then [joinP [p]] else [] := by
  unfold singE
  rw [List.take_add_one, hp, List.flatMap_append]
  simp
/-- what is left behind k gangs -/
def leftG (L : List Pt) (gs : List (List Int)) : List Pt := L.filter fun p => aloneB gs p.1
/-- what is left behind all gangs and k runners -/
def leftR (L : List Pt) (gs : List (List Int)) (k : Nat) : List Pt := L.filter fun p => aloneB gs p.1 && decide (p.1 ∉ idsP (L.take k))
theorem leftG_nil (L : List Pt) : leftG L [] = L := by unfold leftG aloneB; simp
theorem leftR_zero (L : List Pt) (gs : List (List Int)) : leftR L gs 0 = leftG L gs := by unfold leftR leftG idsP; simp
theorem leftG_snoc {L : List Pt} {gs : List (List Int)} {k : Nat} {g : List Int} (hg : gs[k]? = some g) : leftG L (gs.take (k + 1)) = (leftG L (gs.take k)).filter fun p => decide (p.1 ∉ g) := by
  unfold leftG
  rw [List.filter_filter]
  congr 1
  funext p
  rw [aloneB_snoc hg, Bool.and_comm]
theorem leftG_take {L : List Pt} {gs : List (List Int)} (hG : GR gs) {k : Nat} {g : List Int} (hg : gs[k]? = some g) : takeP (leftG L (gs.take k)) g = takeP L g := by
  refine takeP_filter (f := aloneB (gs.take k)) fun i hi => aloneB_iff.2 fun h hh hi2 => ?_
  obtain ⟨j, hj⟩ := List.mem_iff_getElem?.1 hh
  rw [List.getElem?_take] at hj
  split at hj
  · rename_i hjk
    obtain ⟨h1, e1⟩ := List.getElem?_eq_some_iff.1 hj
    obtain ⟨h2, e2⟩ := List.getElem?_eq_some_iff.1 hg
    exact (List.pairwise_iff_getElem.1 hG.apart) j k h1 h2 hjk i (e1 ▸ hi2) i (e2 ▸ hi) rfl
  · cases hj
theorem leftR_snoc {L : List Pt} {gs : List (List Int)} {k : Nat} {p : Pt} (hp : L[k]? = some p) : leftR L gs (k + 1) = (leftR L gs k).filter fun q => decide (q.1 ∉ [p.1]) := by
  unfold leftR idsP
  rw [List.filter_filter]
  congr 1
  funext q
  rw [List.take_add_one, hp]
  by_cases h1 : aloneB gs q.1 = true <;> by_cases h2 : q.1 ∈ (L.take k).map (fun p => p.1) <;> by_cases h3 : q.1 = p.1 <;> simp_all
theorem leftR_take {L : List Pt} {gs : List (List Int)} (hR : Rise L) {k : Nat} {p : Pt} (hp : L[k]? = some p) : mkP (takeP (leftR L gs k) [p.1]) = if aloneB gs p.1 = true then [joinP [p]] else [] := by
  have hm : p ∈ L := List.mem_of_getElem? hp
  have hn : p.1 ∉ idsP (L.take k) := by
    intro h
    obtain ⟨q, hq, e⟩ := List.mem_map.1 h
    obtain ⟨j, hj⟩ := List.mem_iff_getElem?.1 hq
    rw [List.getElem?_take] at hj
    split at hj
    · rename_i hjk
      obtain ⟨h1, e1⟩ := List.getElem?_eq_some_iff.1 hj
      obtain ⟨h2, e2⟩ := List.getElem?_eq_some_iff.1 hp
      have := (List.pairwise_iff_getElem.1 hR) j k h1 h2 hjk
      rw [e1, e2] at this
      omega
    · cases hj
  unfold takeP leftR
  rw [List.filterMap_cons, List.filterMap_nil, kf_filter (fun i => aloneB gs i && decide (i ∉ idsP (L.take k))), decide_eq_true hn, Bool.and_true, kf_mem hR hm]
  by_cases ha : aloneB gs p.1 = true
  · rw [if_pos ha, if_pos ha]; rfl
  · rw [if_neg ha, if_neg ha]; rfl
end Go.Proofs.Ytngbamoffjlodaa
