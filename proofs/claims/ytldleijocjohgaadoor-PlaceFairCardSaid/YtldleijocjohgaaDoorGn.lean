/-
  What best takes; rows whose masks allow all. No statement is proved here.
-/
import Derived.Test.YtldleijocjohgaaDoorGm
namespace Go.Proofs.YtldleijocjohgaaDoor
open Go.RowKit

def nextB (l : Nat) : Bool := (nextV (mem (l : Int)) (-1)).2 == !(l == 0) && (l == 0 || hasB (l : Int) (nextV (mem (l : Int)) (-1)).1) && (!(l == 0) || (nextV (mem (l : Int)) (-1)).1 == 0)
theorem next_all : (List.range 256).all nextB = true := by kernel_rfl
theorem next_facts {l : Nat} (h : l < 256) : ((nextV (mem (l : Int)) (-1)).2 = true → hasB (l : Int) (nextV (mem (l : Int)) (-1)).1 = true) ∧ ((nextV (mem (l : Int)) (-1)).2 = false → l = 0 ∧ (nextV (mem (l : Int)) (-1)).1 = 0) := by
  have := of_all 256 next_all h
  unfold nextB at this
  simp only [Bool.and_eq_true, beq_iff_eq, Bool.or_eq_true, Bool.not_eq_true', beq_eq_false_iff_ne] at this
  obtain ⟨⟨h1, h2⟩, h3⟩ := this
  constructor
  · intro h
    rw [h] at h1
    have : ¬ l = 0 := by intro e; subst e; cases h1
    exact h2.resolve_left this
  · intro h
    rw [h] at h1
    have : l = 0 := by
      by_cases e : l = 0
      · exact e
      · have : (l == 0) = false := by simpa using e
        rw [this] at h1; cases h1
    exact ⟨this, h3.resolve_left (fun h => h this)⟩
theorem likes_sub {w : Wi} (_hw : UW w) (S : Nat) : (∀ k : Nat, k < 8 → hasB (likesR (w.h, w.s) (S : Int) : Int) (k : Int) = true → hasB (alW w S : Int) (k : Int) = true) ∧ (likesR (w.h, w.s) (S : Int) = 0 → alW w S = 0) := by
  rw [likes_eq]
  show (∀ k : Nat, k < 8 → hasB ((if 0 < alW w S &&& w.s.toNat then alW w S &&& w.s.toNat else alW w S : Nat) : Int) (k : Int) = true → _) ∧ ((if 0 < alW w S &&& w.s.toNat then alW w S &&& w.s.toNat else alW w S) = 0 → _)
  split
  · rename_i h
    refine ⟨fun k hk h2 => ?_, fun h0 => by omega⟩
    rw [has_bit hk] at h2 ⊢
    rw [Nat.testBit_and] at h2
    simp only [Bool.and_eq_true] at h2
    exact h2.1
  · exact ⟨fun k _ h2 => h2, fun h0 => h0⟩
/-- what it takes it may have; it takes none if it may have none; it stays where it is, if it may -/
theorem best_facts {w : Wi} (hw : UW w) (S : Nat) : ((bestW w S).2 = true → hasB (alW w S : Int) (bestW w S).1 = true) ∧ ((bestW w S).2 = false → alW w S = 0 ∧ (bestW w S).1 = 0) ∧ (hasB (alW w S : Int) w.a = true → bestW w S = (w.a, true)) := by
  have e : bestW w S = if hasB (alW w S : Int) w.a = true then (w.a, true) else nextV (mem (likesR (w.h, w.s) (S : Int) : Int)) (-1) := rfl
  obtain ⟨h1, h2⟩ := likes_sub hw S
  have hl : likesR (w.h, w.s) (S : Int) < 256 := li_small hw.1.1
  obtain ⟨n1, n2⟩ := next_facts hl
  rw [e]
  by_cases hh : hasB (alW w S : Int) w.a = true
  · rw [if_pos hh]
    exact ⟨fun _ => hh, fun h => (by cases h), fun _ => rfl⟩
  · rw [if_neg hh]
    refine ⟨fun h => ?_, fun h => ⟨h2 (n2 h).1, (n2 h).2⟩, fun h => absurd h hh⟩
    have := n1 h
    obtain ⟨c0, c1⟩ := cpuB_true (has_cpu this)
    obtain ⟨k, hk⟩ := Int.eq_ofNat_of_zero_le c0
    rw [hk] at this ⊢
    exact h1 k (by omega) this

/-! ### rows whose masks allow all -/
def popS (S : Nat) : Nat := (mem (S : Int)).length
def popB (s c : Nat) : Bool := if s.testBit c then (mem ((s - 2 ^ c : Nat) : Int)).length + 1 == (mem (s : Int)).length else true
theorem pop_all : (List.range 256).all (fun s => (List.range 8).all (popB s)) = true := by kernel_rfl
theorem out_nat' {S k : Nat} (h : S < 256) (hk : k < 8) (hb : S.testBit k = true) : outN S (k : Int) = S - 2 ^ k := by
  have h3 : 2 ^ k ≤ S := Nat.ge_two_pow_of_testBit hb
  unfold outN outV
  rw [if_pos (by omega), if_pos (cpuB_yes (by omega) (by omega)), if_pos (by rw [has_bit hk]; exact hb), Int.toNat_natCast]
  have : (2 : Int) ^ k = ((2 ^ k : Nat) : Int) := by push_cast; rfl
  show ((S : Int) - 2 ^ k).toNat = _
  rw [this]
  omega
theorem pop_out {S : Nat} (h : S < 256) {c : Int} (hc : hasB (S : Int) c = true) : popS (outN S c) + 1 = popS S := by
  obtain ⟨c0, c1⟩ := cpuB_true (has_cpu hc)
  obtain ⟨k, rfl⟩ := Int.eq_ofNat_of_zero_le c0
  have hk : k < 8 := by omega
  rw [has_bit hk] at hc
  have := of_all 8 (of_all 256 pop_all h) hk
  unfold popB at this
  rw [if_pos hc, beq_iff_eq] at this
  unfold popS
  rw [out_nat' h hk hc]
  exact this
theorem pop_zero : popS 0 = 0 := rfl
theorem pop_pos_all : (List.range 256).all (fun s => s == 0 || decide (0 < popS s)) = true := by kernel_rfl
theorem pop_pos {S : Nat} (h : S < 256) (h0 : S ≠ 0) : 0 < popS S := by
  have := of_all 256 pop_pos_all h
  simp only [Bool.or_eq_true, beq_iff_eq, decide_eq_true_eq] at this
  exact this.resolve_left h0
theorem al_whole {w : Wi} (hw : UW w) (hr : rightM (w.h, w.s) = true) (h : w.h = 255) {S : Nat} (hS : S < 256) : alW w S = S := by
  apply Nat.eq_of_testBit_eq
  intro i
  by_cases hi : i < 8
  · have := alW_has hw hr hS i hi
    rw [has_bit hi, h] at this
    rw [this]
    have : (255 : Int).toNat.testBit i = true := by rcases below8 hi with rfl | rfl | rfl | rfl | rfl | rfl | rfl | rfl <;> rfl
    rw [this, Bool.true_and]
  · have p : 256 ≤ 2 ^ i := by rw [show (256 : Nat) = 2 ^ 8 by decide]; exact Nat.pow_le_pow_right (by decide) (by omega)
    rw [Nat.testBit_lt_two_pow (Nat.lt_of_lt_of_le (alW_lt hw) p), Nat.testBit_lt_two_pow (Nat.lt_of_lt_of_le hS p)]
/-- as many as are free, the first ones; none is free while one waits -/
theorem full_facts : ∀ (l : List Wi) (S : Nat), (∀ w ∈ l, UW w ∧ rightM (w.h, w.s) = true ∧ w.h = 255) → S < 256 →
    (putsOf (tus bestW l S)).length = min l.length (popS S) ∧ ((putsOf (tus bestW l S)).length < l.length → lefts bestW l S = 0) ∧ (putsOf (tus bestW l S)).map (·.1) <+: l.map (·.v) := by
  intro l
  induction l with
  | nil => intro S _ _; exact ⟨by show 0 = min 0 _; omega, fun h => absurd h (by show ¬ 0 < 0; omega), List.nil_prefix⟩
  | cons w l ih =>
    intro S h hS
    obtain ⟨hu, hr, h255⟩ := h w List.mem_cons_self
    have hl := fun x hx => h x (List.mem_cons_of_mem _ hx)
    obtain ⟨b1, b2, _⟩ := best_facts hu S
    rw [al_whole hu hr h255 hS] at b1 b2
    have e : tus bestW (w :: l) S = ⟨w, (bestW w S).1, (bestW w S).2, S⟩ :: tus bestW l (afterS S (bestW w S).1 (bestW w S).2) := rfl
    have e2 : lefts bestW (w :: l) S = lefts bestW l (afterS S (bestW w S).1 (bestW w S).2) := rfl
    rw [e, e2, puts_cons]
    cases hp : (bestW w S).2 with
    | true =>
      have hc := b1 hp
      rw [if_pos rfl, after_yes]
      obtain ⟨i1, i2, i3⟩ := ih (outN S (bestW w S).1) hl (out_small _ hS)
      have := pop_out hS hc
      refine ⟨by rw [List.length_cons, List.length_cons, i1]; omega, fun h2 => i2 (by rw [List.length_cons, List.length_cons] at h2; omega), ?_⟩
      rw [List.map_cons, List.map_cons]
      exact (List.prefix_cons_inj _).2 i3
    | false =>
      have h0 := (b2 hp).1
      subst h0
      rw [if_neg (by simp), after_no]
      obtain ⟨i1, i2, i3⟩ := ih 0 hl (by omega)
      rw [pop_zero, Nat.min_zero] at i1
      refine ⟨by rw [i1, pop_zero, Nat.min_zero], fun _ => ?_, ?_⟩
      · by_cases hz : l.length = 0
        · rw [List.eq_nil_of_length_eq_zero hz]; rfl
        · exact i2 (by omega)
      · rw [List.eq_nil_of_length_eq_zero i1]
        exact List.nil_prefix

/-! ### masks that are made to allow all -/
def hardW (w : Wi) : Wi := ⟨w.v, w.a, 255, w.s⟩
def setK (l : List Wi) (k : Nat) : List Wi := (l.take k).map hardW ++ l.drop k
theorem setK_len (l : List Wi) (k : Nat) : (setK l k).length = l.length := by unfold setK; rw [List.length_append, List.length_map, List.length_take, List.length_drop]; omega
theorem setK_at {l : List Wi} {k : Nat} {x : Wi} (h : l[k]? = some x) : (setK l k)[k]? = some x := by
  have hlt := (List.getElem?_eq_some_iff.1 h).1
  unfold setK
  rw [List.getElem?_append_right (by rw [List.length_map, List.length_take]; omega), List.length_map, List.length_take, List.getElem?_drop, ← h]
  congr 1
  omega
theorem setK_step {l : List Wi} {k : Nat} {x : Wi} (h : l[k]? = some x) : setK l (k + 1) = (setK l k).set k (hardW x) := by
  have hlt := (List.getElem?_eq_some_iff.1 h).1
  have hd : l.drop k = x :: l.drop (k + 1) := by
    obtain ⟨hl, e⟩ := List.getElem?_eq_some_iff.1 h
    rw [← e]; exact List.drop_eq_getElem_cons hl
  unfold setK
  rw [List.set_append_right _ _ (by rw [List.length_map, List.length_take]; omega), List.length_map, List.length_take, hd, show k - min k l.length = 0 by omega, List.set_cons_zero, List.take_add_one, h]
  simp
theorem setK_all (l : List Wi) : setK l l.length = l.map hardW := by unfold setK; rw [List.take_length, List.drop_length, List.append_nil]
theorem wivs_set : ∀ (l : List Wi) (k : Nat) (x : Wi), l[k]? = some x → (wivs l).set (k * 4 + 2) (.int .u32 255) = wivs (l.set k (hardW x))
  | [], k, x, h => by simp at h
  | y :: l, 0, x, h => by
    simp at h
    subst h
    show (wiv y ++ wivs l).set 2 _ = wiv (hardW y) ++ wivs l
    unfold wiv hardW
    rfl
  | y :: l, k + 1, x, h => by
    have h : l[k]? = some x := by simpa using h
    show (wiv y ++ wivs l).set ((k + 1) * 4 + 2) _ = wiv y ++ wivs (l.set k (hardW x))
    rw [List.set_append_right _ _ (by rw [length_wiv]; omega), length_wiv, show (k + 1) * 4 + 2 - 4 = k * 4 + 2 by omega, wivs_set l k x h]
theorem hard_um {l : List Wi} (hU : ∀ (k : Nat) (x : Wi), l[k]? = some x → UW x) : ∀ (k : Nat) (x : Wi), (l.map hardW)[k]? = some x → UW x := by
  intro k x h
  rw [List.getElem?_map] at h
  cases hy : l[k]? with
  | none => rw [hy] at h; cases h
  | some y =>
    rw [hy] at h
    injection h with h
    subst h
    exact ⟨⟨by show (0 : Int) ≤ 255; decide, by show (255 : Int) < _; decide⟩, (hU k y hy).2⟩
theorem hard_right {l : List Wi} (hU : ∀ (k : Nat) (x : Wi), l[k]? = some x → UW x) (hr : rightW (l.map hardW) = true) : ∀ w ∈ l.map hardW, UW w ∧ rightM (w.h, w.s) = true ∧ w.h = 255 := by
  intro w hw
  obtain ⟨k, hk⟩ := List.mem_iff_getElem?.1 hw
  refine ⟨hard_um hU k w hk, (wi_parts (right_wish hr hk).1).2.2.2.2, ?_⟩
  obtain ⟨y, _, rfl⟩ := List.mem_map.1 hw
  rfl
theorem why_right {l : List Wi} {s : Int} (h : whyE l s = 0) : rightW l = true := by
  unfold whyE at h
  split at h
  · assumption
  · cases h

end Go.Proofs.YtldleijocjohgaaDoor
