/-
  Plain mathematics: what the search for a choice lays in its map. No statement is proved here.
-/
import Derived.Test.YtcdlhfhachpcdaaDoorMn
namespace Go.Proofs.YtcdlhfhachpcdaaDoor

theorem fits_of_first {h : Nat} {t : List Nat} {s c : Nat} (hf : firstC h t s = some c) : fitsN (h :: t) s = true := by
  obtain ⟨hc, hb, hm, _⟩ := first_facts hf
  have hp := part_most t (s - 2 ^ c)
  have h1 := part_le (.take c hc hb hp)
  have h2 := most_len (h :: t) s
  unfold fitsN
  rw [beq_iff_eq]
  simp only [List.length_cons] at *
  omega
theorem first_of_fits {h : Nat} {t : List Nat} {s : Nat} (hf : fitsN (h :: t) s = true) : ∃ c, firstC h t s = some c := first_there (by unfold fitsN at hf; rw [beq_iff_eq] at hf; exact hf)
theorem unfit_of_none {h : Nat} {t : List Nat} {s : Nat} (hf : firstC h t s = none) : fitsN (h :: t) s = false := by
  cases hq : fitsN (h :: t) s with
  | false => rfl
  | true => obtain ⟨c, hc⟩ := first_of_fits hq; rw [hf] at hc; cases hc

/-- what stands at a set, when it was looked for -/
def fans : List Nat → Nat → Int
  | [], _ => -1
  | h :: t, s => match firstC h t s with
    | none => -1
    | some c => (c : Int)
theorem fans_some {h : Nat} {t : List Nat} {s c : Nat} (hf : firstC h t s = some c) : fans (h :: t) s = (c : Int) := by
  show (match firstC h t s with | none => (-1 : Int) | some c => (c : Int)) = (c : Int)
  rw [hf]
theorem fans_none {h : Nat} {t : List Nat} {s : Nat} (hf : firstC h t s = none) : fans (h :: t) s = (-1 : Int) := by
  show (match firstC h t s with | none => (-1 : Int) | some c => (c : Int)) = (-1 : Int)
  rw [hf]

def upd (F : Nat → Option Int) (s : Nat) (v : Int) : Nat → Option Int := fun t => if t = s then some v else F t
theorem upd_same {F : Nat → Option Int} {s : Nat} {v : Int} : upd F s v s = some v := if_pos rfl
theorem upd_other {F : Nat → Option Int} {s t : Nat} {v : Int} (h : t ≠ s) : upd F s v t = F t := if_neg h
theorem upd_keeps {F : Nat → Option Int} {s t : Nat} {v x : Int} (hn : F s = none) (h : F t = some x) : upd F s v t = some x := by
  rw [upd_other (fun e => by rw [e, hn] at h; cases h)]; exact h

def Good (H : List Nat) (N k : Nat) (F : Nat → Option Int) : Prop :=
  (∀ s v, F s = some v → s < 256 ∧ popN s ≤ N ∧ N - popN s < H.length) ∧
  (∀ s v, F s = some v → popN s < k → v = fans (H.drop (N - popN s)) s) ∧
  (∀ s (c : Nat), F s = some (c : Int) → popN s < k → N - popN s + 1 = H.length ∨ ∃ c' : Nat, F (s - 2 ^ c) = some (c' : Int))
def Ext (k : Nat) (F F' : Nat → Option Int) : Prop := (∀ s v, F s = some v → F' s = some v) ∧ ∀ s, k ≤ popN s → F' s = F s
theorem Ext.refl (k : Nat) (F : Nat → Option Int) : Ext k F F := ⟨fun _ _ h => h, fun _ _ => rfl⟩
theorem Ext.trans {k : Nat} {F F' F'' : Nat → Option Int} (h : Ext k F F') (h' : Ext k F' F'') : Ext k F F'' := ⟨fun s v hs => h'.1 s v (h.1 s v hs), fun s hs => (h'.2 s hs).trans (h.2 s hs)⟩
theorem good_start (H : List Nat) (N k : Nat) : Good H N k fun _ => none := ⟨fun s v h => (by cases h), fun s v h => (by cases h), fun s c h => (by cases h)⟩

section
variable {H : List Nat} {N K : Nat} {F F2 : Nat → Option Int} {left : Nat}
theorem good_enter (hG : Good H N (K + 1) F) (h0 : F left = none) (hK : popN left = K) (h8 : left < 256) (hN : K ≤ N) (hp : N - K < H.length) : Good H N K (upd F left (-1)) := by
  refine ⟨fun s v h => ?_, fun s v h hs => ?_, fun s c h hs => ?_⟩
  · by_cases e : s = left
    · subst e; rw [hK]; exact ⟨h8, hN, hp⟩
    · rw [upd_other e] at h; exact hG.1 s v h
  · have e : s ≠ left := fun e => by rw [e] at hs; omega
    rw [upd_other e] at h
    exact hG.2.1 s v h (by omega)
  · have e : s ≠ left := fun e => by rw [e] at hs; omega
    rw [upd_other e] at h
    rcases hG.2.2 s c h (by omega) with h1 | ⟨c', h1⟩
    · exact .inl h1
    · exact .inr ⟨c', upd_keeps h0 h1⟩
theorem good_hit (hG : Good H N (K + 1) F) (h0 : F left = none) (hK : popN left = K) (h8 : left < 256) (hN : K ≤ N) (hG2 : Good H N K F2) (hE : Ext K (upd F left (-1)) F2)
    {h : Nat} {t : List Nat} {p c : Nat} (hp : p + K = N) (hd : H.drop p = h :: t) (hc : firstC h t left = some c) (hn : p + 1 = H.length ∨ ∃ c' : Nat, F2 (left - 2 ^ c) = some (c' : Int)) :
    Good H N (K + 1) (upd F2 left (c : Int)) ∧ Ext (K + 1) F (upd F2 left (c : Int)) := by
  have hpe : N - K = p := by omega
  have hl : p < H.length := by
    have := congrArg List.length hd
    rw [List.length_drop, List.length_cons] at this
    omega
  obtain ⟨hc8, hb, _, _⟩ := first_facts hc
  rw [Nat.testBit_and, Bool.and_eq_true] at hb
  have hpop := pop_less hc8 hb.2
  have h2l : F2 left = some (-1) := hE.1 _ _ upd_same
  have hne : left - 2 ^ c ≠ left := fun e => by rw [e] at hpop; omega
  refine ⟨⟨fun s v h' => ?_, fun s v h' hs => ?_, fun s c1 h' hs => ?_⟩, fun s v h' => ?_, fun s hs => ?_⟩
  · by_cases e : s = left
    · subst e; rw [hK]; exact ⟨h8, hN, by omega⟩
    · rw [upd_other e] at h'; exact hG2.1 s v h'
  · by_cases e : s = left
    · subst e
      rw [upd_same] at h'
      rw [hK, hpe, hd, fans_some hc]
      exact (Option.some.inj h').symm
    · rw [upd_other e] at h'
      by_cases hs' : popN s < K
      · exact hG2.2.1 s v h' hs'
      · have e2 := hE.2 s (by omega)
        rw [upd_other e] at e2
        exact hG.2.1 s v (by rw [← e2]; exact h') hs
  · by_cases e : s = left
    · subst e
      rw [upd_same] at h'
      have : c = c1 := by have := Option.some.inj h'; omega
      subst this
      rw [hK, hpe]
      rcases hn with hn | ⟨c', hn⟩
      · exact .inl hn
      · exact .inr ⟨c', by rw [upd_other hne]; exact hn⟩
    · rw [upd_other e] at h'
      have fin : (∃ c' : Nat, F2 (s - 2 ^ c1) = some (c' : Int)) → ∃ c' : Nat, upd F2 left (c : Int) (s - 2 ^ c1) = some (c' : Int) := fun ⟨c', hh⟩ => ⟨c', by
        rw [upd_other (fun e => by rw [e, h2l] at hh; have := Option.some.inj hh; omega)]; exact hh⟩
      by_cases hs' : popN s < K
      · exact (hG2.2.2 s c1 h' hs').imp id fin
      · have e2 := hE.2 s (by omega)
        rw [upd_other e] at e2
        exact (hG.2.2 s c1 (by rw [← e2]; exact h') hs).imp id fun ⟨c', hh⟩ => fin ⟨c', hE.1 _ _ (upd_keeps h0 hh)⟩
  · have e : s ≠ left := fun e => by rw [e, h0] at h'; cases h'
    rw [upd_other e]
    exact hE.1 _ _ (by rw [upd_other e]; exact h')
  · have e : s ≠ left := fun e => by rw [e] at hs; omega
    rw [upd_other e, hE.2 s (by omega), upd_other e]
theorem good_miss (hG : Good H N (K + 1) F) (h0 : F left = none) (hK : popN left = K) (hG2 : Good H N K F2) (hE : Ext K (upd F left (-1)) F2)
    {h : Nat} {t : List Nat} {p : Nat} (hp : p + K = N) (hd : H.drop p = h :: t) (hc : firstC h t left = none) :
    Good H N (K + 1) F2 ∧ Ext (K + 1) F F2 := by
  have hpe : N - K = p := by omega
  have h2l : F2 left = some (-1) := hE.1 _ _ upd_same
  refine ⟨⟨hG2.1, fun s v h' hs => ?_, fun s c1 h' hs => ?_⟩, fun s v h' => ?_, fun s hs => ?_⟩
  · by_cases e : s = left
    · subst e
      rw [h2l] at h'
      rw [hK, hpe, hd, fans_none hc]
      exact (Option.some.inj h').symm
    · by_cases hs' : popN s < K
      · exact hG2.2.1 s v h' hs'
      · have e2 := hE.2 s (by omega)
        rw [upd_other e] at e2
        exact hG.2.1 s v (by rw [← e2]; exact h') hs
  · by_cases e : s = left
    · subst e
      rw [h2l] at h'
      have := Option.some.inj h'
      omega
    · by_cases hs' : popN s < K
      · exact hG2.2.2 s c1 h' hs'
      · have e2 := hE.2 s (by omega)
        rw [upd_other e] at e2
        exact (hG.2.2 s c1 (by rw [← e2]; exact h') hs).imp id fun ⟨c', hh⟩ => ⟨c', hE.1 _ _ (upd_keeps h0 hh)⟩
  · have e : s ≠ left := fun e => by rw [e, h0] at h'; cases h'
    exact hE.1 _ _ (by rw [upd_other e]; exact h')
  · have e : s ≠ left := fun e => by rw [e] at hs; omega
    rw [hE.2 s (by omega), upd_other e]
/-- what was looked for tells whether there is a choice -/
theorem good_memo (hG : Good H N (K + 1) F) (hK : popN left = K) {h : Nat} {t : List Nat} {p : Nat} (hp : p + K = N) (hd : H.drop p = h :: t) {v : Int} (hv : F left = some v) :
    (v = -1 ∧ fitsN (h :: t) left = false) ∨ (∃ c : Nat, v = (c : Int) ∧ fitsN (h :: t) left = true ∧ firstC h t left = some c) := by
  have := hG.2.1 left v hv (by omega)
  rw [hK, show N - K = p by omega, hd] at this
  cases hf : firstC h t left with
  | none => exact .inl ⟨by rw [this, fans_none hf], unfit_of_none hf⟩
  | some c => exact .inr ⟨c, by rw [this, fans_some hf], fits_of_first hf, rfl⟩
end

/-- the pCPUs of a set, rising -/
def memN (a : Nat) : List Nat := (List.range 8).filter fun c => a.testBit c
theorem first_memN (h : Nat) (t : List Nat) (s : Nat) : firstC h t s = (memN (h &&& s)).find? fun c => fitsN t (s - 2 ^ c) := by
  unfold firstC memN fitsN
  rw [List.find?_filter]
  congr 1
  funext c
  rw [Bool.eq_iff_iff]
  simp
theorem find_hit {l : List Nat} {k x : Nat} {q : Nat → Bool} (hx : l[k]? = some x) (hq : q x = true) : (l.drop k).find? q = some x := by
  obtain ⟨h, rfl⟩ := List.getElem?_eq_some_iff.1 hx
  rw [List.drop_eq_getElem_cons h, List.find?_cons, hq]
theorem find_miss {l : List Nat} {k x : Nat} {q : Nat → Bool} (hx : l[k]? = some x) (hq : q x = false) : (l.drop k).find? q = (l.drop (k + 1)).find? q := by
  obtain ⟨h, rfl⟩ := List.getElem?_eq_some_iff.1 hx
  rw [List.drop_eq_getElem_cons h, List.find?_cons, hq]
theorem memN_at {a k x : Nat} (h : (memN a)[k]? = some x) : x < 8 ∧ a.testBit x = true := by
  have := List.mem_of_getElem? h
  unfold memN at this
  rw [List.mem_filter] at this
  exact ⟨List.mem_range.1 this.1, this.2⟩
theorem memN_len (a : Nat) : (memN a).length ≤ 8 := by
  unfold memN
  exact Nat.le_trans (List.length_filter_le _ _) (by simp)

/-- how many updates a search behind a set of so many pCPUs makes at most -/
def costN (k : Nat) : Nat := 3 * 9 ^ k
theorem cost_one (k : Nat) : 3 ≤ costN k := by
  unfold costN
  have := Nat.pow_pos (n := k) (show 0 < 9 by omega)
  omega
theorem cost_step (k : Nat) : 2 + 8 * costN k ≤ costN (k + 1) := by
  unfold costN
  have := Nat.pow_pos (n := k) (show 0 < 9 by omega)
  rw [Nat.pow_succ]
  omega

/-! ### the road along what was found -/
theorem road_step {H : List Nat} {N : Nat} {F : Nat → Option Int} (hG : Good H N (N + 1) F) {s j : Nat} (hs : popN s + j = N) {h : Nat} {t : List Nat} (hd : H.drop j = h :: t) (hd' : H.drop (j + 1) = t) {v : Int} (hv : F s = some v) (hf : fitsN (h :: t) s = true) :
    ∃ c : Nat, v = (c : Int) ∧ firstC h t s = some c ∧ c < 8 ∧ s.testBit c = true ∧ popN (s - 2 ^ c) + (j + 1) = N ∧ fitsN (H.drop (j + 1)) (s - 2 ^ c) = true ∧ (j + 1 < H.length → ∃ c' : Nat, F (s - 2 ^ c) = some (c' : Int)) := by
  have hk := hG.2.1 s v hv (by omega)
  rw [show N - popN s = j by omega, hd] at hk
  obtain ⟨c, hc⟩ := first_of_fits hf
  rw [fans_some hc] at hk
  obtain ⟨h8, hb, hm, _⟩ := first_facts hc
  rw [Nat.testBit_and, Bool.and_eq_true] at hb
  have hpop := pop_less h8 hb.2
  refine ⟨c, hk, hc, h8, hb.2, by omega, by rw [hd']; unfold fitsN; rw [beq_iff_eq]; exact hm, fun hj => ?_⟩
  rcases hG.2.2 s c (by rw [hv, hk]) (by omega) with h1 | h1
  · omega
  · exact h1
theorem road_end {H : List Nat} {N : Nat} {F : Nat → Option Int} (hG : Good H N (N + 1) F) {s j : Nat} (hs : popN s + j = N) (hj : H.length ≤ j) : F s = none := by
  cases hv : F s with
  | none => rfl
  | some v => have := hG.1 s v hv; omega

end Go.Proofs.YtcdlhfhachpcdaaDoor
