/-
  What the document's With is, of wheels that may be. No statement is proved here.
-/
import Derived.Test.YtbhcpkmofnfjgaaWn
import Derived.Test.YtbhcpkmofnfjgaaWp
namespace Go.Proofs.Ytbhcpkmofnfjgaa
open Go.RowKit

theorem rise_ext : ∀ {l m : List Tm}, l.Pairwise (fun a b => a.1 < b.1) → m.Pairwise (fun a b => a.1 < b.1) → (∀ x, x ∈ l ↔ x ∈ m) → l = m
  | [], [], _, _, _ => rfl
  | [], y :: m, _, _, h => absurd ((h y).2 (by simp)) (by simp)
  | x :: l, [], _, _, h => absurd ((h x).1 (by simp)) (by simp)
  | x :: l, y :: m, hl, hm, h => by
    obtain ⟨h1, h2⟩ := List.pairwise_cons.1 hl
    obtain ⟨h3, h4⟩ := List.pairwise_cons.1 hm
    have e : x = y := by
      rcases List.mem_cons.1 ((h x).1 (by simp)) with e | hx
      · exact e
      · rcases List.mem_cons.1 ((h y).2 (by simp)) with e | hy
        · exact e.symm
        · have a := h3 x hx
          have b := h1 y hy
          omega
    subst e
    have : l = m := rise_ext h2 h4 (fun z => by
      constructor
      · intro hz
        rcases List.mem_cons.1 ((h z).1 (by simp [hz])) with e | hz'
        · subst e; have := h1 z hz; omega
        · exact hz'
      · intro hz
        rcases List.mem_cons.1 ((h z).2 (by simp [hz])) with e | hz'
        · subst e; have := h3 z hz; omega
        · exact hz')
    rw [this]
theorem mem_withF {ts : List Tm} {id tm : Int} {x : Tm} : ∀ {K : Nat}, x ∈ withF ts id tm K ↔ ∃ k : Nat, k < K ∧ x = ((k : Int), withT ts id tm k) ∧ 0 < withT ts id tm k
  | 0 => ⟨fun h => by simp [withF] at h, fun ⟨k, h, _⟩ => by omega⟩
  | K + 1 => by
    unfold withF
    rw [List.mem_append, mem_withF]
    constructor
    · rintro (⟨k, h1, h2, h3⟩ | h)
      · exact ⟨k, by omega, h2, h3⟩
      · split at h
        · rename_i hp
          rw [List.mem_singleton] at h
          exact ⟨K, by omega, h, hp⟩
        · simp at h
    · rintro ⟨k, h1, h2, h3⟩
      by_cases e : k = K
      · subst e
        right
        rw [if_pos h3]
        simp [h2]
      · exact .inl ⟨k, by omega, h2, h3⟩
theorem withF_rise (ts : List Tm) (id tm : Int) : ∀ K, (withF ts id tm K).Pairwise (fun a b => a.1 < b.1)
  | 0 => List.Pairwise.nil
  | K + 1 => by
    unfold withF
    rw [List.pairwise_append]
    refine ⟨withF_rise ts id tm K, ?_, fun a ha b hb => ?_⟩
    · split
      · exact List.pairwise_singleton _ _
      · exact List.Pairwise.nil
    · obtain ⟨k, h1, rfl, _⟩ := mem_withF.1 ha
      split at hb
      · rw [List.mem_singleton] at hb
        subst hb
        show (k : Int) < (K : Int)
        omega
      · simp at hb
theorem atD_mem {id b : Int} : ∀ {ts : List Tm}, ts.Pairwise (fun a b => a.1 < b.1) → (id, b) ∈ ts → atD id ts = b
  | [], _, h => by simp at h
  | t :: l, hp, h => by
    obtain ⟨h1, h2⟩ := List.pairwise_cons.1 hp
    unfold atD
    rcases List.mem_cons.1 h with e | h
    · subst e; rw [if_pos rfl]
    · rw [if_neg (by have := h1 _ h; dsimp only at this; omega)]
      exact atD_mem h2 h
theorem atD_none {id : Int} : ∀ {ts : List Tm}, (∀ t ∈ ts, t.1 ≠ id) → atD id ts = 0
  | [], _ => rfl
  | t :: l, h => by
    unfold atD
    rw [if_neg (h t (by simp))]
    exact atD_none (fun x hx => h x (by simp [hx]))
theorem atD_pos {id : Int} {ts : List Tm} (h : ∀ t ∈ ts, 0 < t.2) : 0 ≤ atD id ts ∧ (0 < atD id ts → (id, atD id ts) ∈ ts) := by
  induction ts with
  | nil => exact ⟨Int.le_refl _, fun h => by simp [atD] at h⟩
  | cons t l ih =>
    have ih := ih (fun x hx => h x (by simp [hx]))
    unfold atD
    by_cases e : t.1 = id
    · rw [if_pos e]
      have := h t (by simp)
      exact ⟨by omega, fun _ => by rw [← e]; simp⟩
    · rw [if_neg e]
      exact ⟨ih.1, fun h => List.mem_cons_of_mem _ (ih.2 h)⟩
/-- a rising row, parted at a number -/
structure Cut (ts P M R : List Tm) (id : Int) : Prop where
  eq : ts = P ++ M ++ R
  lo : ∀ x ∈ P, x.1 < id
  hi : ∀ x ∈ R, id < x.1
  mid : ∀ x ∈ M, x.1 = id
theorem cut_at {ts : List Tm} (hp : ts.Pairwise (fun a b => a.1 < b.1)) (id : Int) :
    (metK (·.1) ts id = true ∧ ∃ b, Cut ts (ts.take (lowK (·.1) ts id)) [(id, b)] (ts.drop (lowK (·.1) ts id + 1)) id ∧ ts[lowK (·.1) ts id]? = some (id, b)) ∨
    (metK (·.1) ts id = false ∧ Cut ts (ts.take (lowK (·.1) ts id)) [] (ts.drop (lowK (·.1) ts id)) id) := by
  have hs : SortK (·.1) ts := hp.imp (fun h => Int.le_of_lt h)
  obtain ⟨h1, h2⟩ := low_below hs (x := id)
  have hlo : ∀ x ∈ ts.take (lowK (·.1) ts id), x.1 < id := fun x hx => by
    obtain ⟨k, hk⟩ := List.mem_iff_getElem?.1 hx
    rw [List.getElem?_take] at hk
    split at hk
    · rename_i hlt; exact h1 k x hlt hk
    · cases hk
  have hge : ∀ x ∈ ts.drop (lowK (·.1) ts id), id ≤ x.1 := fun x hx => by
    obtain ⟨k, hk⟩ := List.mem_iff_getElem?.1 hx
    rw [List.getElem?_drop] at hk
    exact h2 _ x (by omega) hk
  cases hm : metK (·.1) ts id with
  | true =>
    obtain ⟨b, hb⟩ := met_at hm
    left
    have hlt := (List.getElem?_eq_some_iff.1 hb).1
    have hd : ts.drop (lowK (·.1) ts id) = (id, b) :: ts.drop (lowK (·.1) ts id + 1) := by rw [List.drop_eq_getElem_cons hlt, (List.getElem?_eq_some_iff.1 hb).2]
    have hpd : (ts.drop (lowK (·.1) ts id)).Pairwise (fun a b => a.1 < b.1) := hp.sublist (List.drop_sublist _ _)
    rw [hd] at hpd
    refine ⟨rfl, b, ⟨?_, hlo, (List.pairwise_cons.1 hpd).1, fun x hx => by rw [List.mem_singleton] at hx; subst hx; rfl⟩, hb⟩
    rw [List.append_assoc, List.singleton_append, ← hd, List.take_append_drop]
  | false =>
    right
    refine ⟨rfl, ?_, hlo, fun x hx => ?_, fun x hx => by simp at hx⟩
    · rw [List.append_nil, List.take_append_drop]
    · have hg := hge x hx
      rcases Int.lt_or_eq_of_le hg with h | h
      · exact h
      · exfalso
        obtain ⟨k, hk⟩ := List.mem_iff_getElem?.1 hx
        rw [List.getElem?_drop] at hk
        have hpd : (ts.drop (lowK (·.1) ts id)).Pairwise (fun a b => a.1 < b.1) := hp.sublist (List.drop_sublist _ _)
        cases k with
        | zero =>
          unfold metK at hm
          rw [Nat.add_zero] at hk
          rw [hk] at hm
          simp at hm
          exact hm h.symm
        | succ k =>
          have hlt : lowK (·.1) ts id < ts.length := by have := (List.getElem?_eq_some_iff.1 hk).1; omega
          have hd : ts.drop (lowK (·.1) ts id) = ts[lowK (·.1) ts id] :: ts.drop (lowK (·.1) ts id + 1) := List.drop_eq_getElem_cons hlt
          rw [hd] at hpd
          have hmem : x ∈ ts.drop (lowK (·.1) ts id + 1) := List.mem_iff_getElem?.2 ⟨k, by rw [List.getElem?_drop, ← hk]; congr 1; omega⟩
          have := (List.pairwise_cons.1 hpd).1 x hmem
          have h5 := h2 (lowK (·.1) ts id) _ (Nat.le_refl _) (List.getElem?_eq_getElem hlt)

          omega
theorem cut_rise {ts P M R : List Tm} {id tm : Int} (h : Cut ts P M R id) (hp : ts.Pairwise (fun a b => a.1 < b.1)) : (P ++ (id, tm) :: R).Pairwise (fun a b => a.1 < b.1) ∧ (P ++ R).Pairwise (fun a b => a.1 < b.1) := by
  have e := h.eq
  subst e
  rw [List.pairwise_append] at hp
  obtain ⟨h1, h2, h3⟩ := hp
  have hP := (List.pairwise_append.1 h1).1
  refine ⟨?_, ?_⟩
  · rw [List.pairwise_append, List.pairwise_cons]
    refine ⟨hP, ⟨h.hi, h2⟩, fun a ha b hb => ?_⟩
    rcases List.mem_cons.1 hb with rfl | hb
    · exact h.lo a ha
    · exact h3 a (by simp [ha]) b hb
  · rw [List.pairwise_append]
    exact ⟨hP, h2, fun a ha b hb => h3 a (by simp [ha]) b hb⟩
theorem mem_cut {ts P M R : List Tm} {id : Int} (h : Cut ts P M R id) {x : Tm} : (x ∈ P ∨ x ∈ R) ↔ x ∈ ts ∧ x.1 ≠ id := by
  rw [h.eq, List.mem_append, List.mem_append]
  constructor
  · rintro (hx | hx)
    · exact ⟨.inl (.inl hx), by have := h.lo x hx; omega⟩
    · exact ⟨.inr hx, by have := h.hi x hx; omega⟩
  · rintro ⟨(hx | hx) | hx, hne⟩
    · exact .inl hx
    · exact absurd (h.mid x hx) hne
    · exact .inr hx
/-- what With is, of a row that may be -/
theorem mem_with {now : Int} {ts : List Tm} {id tm : Int} (h0 : 0 ≤ now) (h : Rt now ts) (hid : 0 ≤ id ∧ id < 32) {x : Tm} : x ∈ withF ts id tm 32 ↔ (x = (id, tm) ∧ 0 < tm) ∨ (x ∈ ts ∧ x.1 ≠ id) := by
  have hpos : ∀ t ∈ ts, 0 < t.2 := fun t ht => by have := tmB_iff.1 (h.each t ht); omega
  rw [mem_withF]
  unfold withT
  constructor
  · rintro ⟨k, hk, rfl, hp⟩
    by_cases e : (k : Int) = id
    · rw [if_pos e] at hp ⊢
      exact .inl ⟨by rw [e], hp⟩
    · rw [if_neg e] at hp ⊢
      exact .inr ⟨(atD_pos hpos).2 hp, e⟩
  · rintro (⟨rfl, hp⟩ | ⟨hx, hne⟩)
    · refine ⟨id.toNat, by omega, ?_, ?_⟩
      · rw [if_pos (by omega)]
        congr 1
        omega
      · rw [if_pos (by omega)]
        exact hp
    · obtain ⟨a, b⟩ := x
      have hb := tmB_iff.1 (h.each _ hx)
      dsimp only at hb hne
      have ea : ((a.toNat : Nat) : Int) = a := by omega
      have ev : atD a ts = b := atD_mem h.rise hx
      refine ⟨a.toNat, by omega, ?_, ?_⟩
      · rw [ea, if_neg hne, ev]
      · rw [ea, if_neg hne, ev]
        omega
theorem with_set {now : Int} {ts : List Tm} {id tm : Int} (h0 : 0 ≤ now) (h : Rt now ts) (hid : 0 ≤ id ∧ id < 32) (ht : 0 < tm) : setL ts id tm = withF ts id tm 32 := by
  unfold setL
  rcases cut_at h.rise id with ⟨hm, b, hc, hb⟩ | ⟨hm, hc⟩
  · have hlt := (List.getElem?_eq_some_iff.1 hb).1
    rw [if_pos hm, List.set_eq_take_append_cons_drop, if_pos hlt]
    refine rise_ext (cut_rise hc h.rise).1 (withF_rise _ _ _ _) (fun x => ?_)
    rw [mem_with h0 h hid, List.mem_append, List.mem_cons, ← mem_cut hc]
    constructor
    · rintro (h | h | h)
      · exact .inr (.inl h)
      · exact .inl ⟨h, ht⟩
      · exact .inr (.inr h)
    · rintro (⟨h, _⟩ | h | h)
      · exact .inr (.inl h)
      · exact .inl h
      · exact .inr (.inr h)
  · rw [if_neg (by rw [hm]; simp)]
    refine rise_ext (cut_rise hc h.rise).1 (withF_rise _ _ _ _) (fun x => ?_)
    rw [mem_with h0 h hid, List.mem_append, List.mem_cons, ← mem_cut hc]
    constructor
    · rintro (h | h | h)
      · exact .inr (.inl h)
      · exact .inl ⟨h, ht⟩
      · exact .inr (.inr h)
    · rintro (⟨h, _⟩ | h | h)
      · exact .inr (.inl h)
      · exact .inl h
      · exact .inr (.inr h)
theorem with_none {now : Int} {ts : List Tm} {id : Int} (h0 : 0 ≤ now) (h : Rt now ts) (hm : metK (·.1) ts id = true) : ts.eraseIdx (lowK (·.1) ts id) = withF ts id 0 32 := by
  rcases cut_at h.rise id with ⟨_, b, hc, hb⟩ | ⟨hm', hc⟩
  · have hbb := tmB_iff.1 (h.each _ (List.mem_of_getElem? hb))
    dsimp only at hbb
    rw [List.eraseIdx_eq_take_drop_succ]
    refine rise_ext (cut_rise (tm := 0) hc h.rise).2 (withF_rise _ _ _ _) (fun x => ?_)
    rw [mem_with h0 h ⟨hbb.1, hbb.2.1⟩, List.mem_append, mem_cut hc]
    constructor
    · exact .inr
    · rintro (⟨_, h⟩ | h)
      · omega
      · exact h
  · rw [hm] at hm'
    cases hm'
/-- when a timer is due, both ways -/
theorem at_both {now : Int} {ts : List Tm} {id : Int} (hc : chkW now ts = true) : (metK (·.1) ts id = true ∧ 0 < atD id ts ∧ atV now ts id = (atD id ts, true)) ∨ (metK (·.1) ts id = false ∧ atD id ts = 0 ∧ atV now ts id = (0, false)) := by
  obtain ⟨h0, h1, h⟩ := chkW_iff.1 hc
  rcases cut_at h.rise id with ⟨hm, b, hcu, hb⟩ | ⟨hm, hcu⟩
  · have hbb := tmB_iff.1 (h.each _ (List.mem_of_getElem? hb))
    dsimp only at hbb
    have ev : atD id ts = b := atD_mem h.rise (List.mem_of_getElem? hb)
    left
    refine ⟨hm, by omega, ?_⟩
    unfold atV theTm
    rw [if_pos ⟨hc, hm⟩, hb, ev]
  · right
    have hn : ∀ t ∈ ts, t.1 ≠ id := fun t ht => by
      rw [hcu.eq, List.append_nil, List.mem_append] at ht
      rcases ht with ht | ht
      · have := hcu.lo t ht; omega
      · have := hcu.hi t ht; omega
    refine ⟨hm, atD_none hn, ?_⟩
    unfold atV theTm
    rw [if_neg (fun h => by rw [hm] at h; cases h.2)]
end Go.Proofs.Ytbhcpkmofnfjgaa
