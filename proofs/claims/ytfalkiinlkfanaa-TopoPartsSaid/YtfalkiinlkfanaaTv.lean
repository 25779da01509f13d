/-
  Plain mathematics for TopoParts: sets joined and met, sockets part them; the near ones as a set, their number, their order.
-/
import Derived.Test.YtfalkiinlkfanaaTp
import Derived.Lib.BitFns
namespace Go.Proofs.Ytfalkiinlkfanaa

theorem setN_or (P Q : Nat → Bool) (n : Nat) : setN P n ||| setN Q n = setN (fun k => P k || Q k) n := by
  refine Nat.eq_of_testBit_eq fun b => ?_
  rw [Nat.testBit_or, setN_bit, setN_bit, setN_bit]
  cases decide (b < n) <;> simp
theorem setN_and (P Q : Nat → Bool) (n : Nat) : setN P n &&& setN Q n = setN (fun k => P k && Q k) n := by
  refine Nat.eq_of_testBit_eq fun b => ?_
  rw [Nat.testBit_and, setN_bit, setN_bit, setN_bit]
  cases decide (b < n) <;> simp
theorem setN_ext {P Q : Nat → Bool} {n : Nat} (h : ∀ k, k < n → P k = Q k) : setN P n = setN Q n := by
  refine Nat.eq_of_testBit_eq fun b => ?_
  rw [setN_bit, setN_bit]
  by_cases hb : b < n
  · rw [h b hb]
  · simp [hb]
theorem setN_none {P : Nat → Bool} {n : Nat} (h : ∀ k, k < n → P k = false) : setN P n = 0 := by
  refine Nat.eq_of_testBit_eq fun b => ?_
  rw [setN_bit, Nat.zero_testBit]
  by_cases hb : b < n
  · rw [h b hb, Bool.and_false]
  · simp [hb]
/-- those of the sockets below s -/
def metV (l : List (Int × Int)) (s : Nat) : Nat := setN (fun k => decide ((st l k).1 < (s : Int))) l.length
theorem met_and {l : List (Int × Int)} (hr : rightT l = true) (s : Nat) : metV l s &&& sockV l (s : Int) = 0 := by
  unfold metV sockV
  rw [if_pos hr, setN_and]
  refine setN_none fun k _ => ?_
  by_cases h : (st l k).1 = (s : Int)
  · simp [h]
  · simp [h]
theorem met_or {l : List (Int × Int)} (hr : rightT l = true) (s : Nat) : metV l s ||| sockV l (s : Int) = metV l (s + 1) := by
  unfold metV sockV
  rw [if_pos hr, setN_or]
  refine setN_ext fun k _ => ?_
  show (decide ((st l k).1 < (s : Int)) || ((st l k).1 == (s : Int))) = decide ((st l k).1 < ((s + 1 : Nat) : Int))
  rw [Bool.eq_iff_iff, Bool.or_eq_true, decide_eq_true_eq, decide_eq_true_eq, beq_iff_eq]
  omega
theorem met_none {l : List (Int × Int)} (hr : rightT l = true) : metV l 0 = 0 := by
  refine setN_none fun k hk => ?_
  obtain ⟨⟨x, y⟩, hm⟩ := elem_at (l := l) (k := k) hk
  have h := right_seat (right_parts hr).1 hm
  have := seat_yes h
  rw [st_at hm]
  have h2 : ¬ x < ((0 : Nat) : Int) := by omega
  exact decide_eq_false h2
theorem met_all {l : List (Int × Int)} (hr : rightT l = true) : metV l 4 = allV l := by
  unfold metV allV
  rw [if_pos hr]
  refine setN_ext fun k hk => ?_
  obtain ⟨⟨x, y⟩, hm⟩ := elem_at (l := l) (k := k) hk
  have := seat_yes (right_seat (right_parts hr).1 hm)
  rw [st_at hm]
  have h2 : x < ((4 : Nat) : Int) := by omega
  exact decide_eq_true h2

/-- how many bits: of a set below 256 -/
theorem ones_all8 : (List.range 256).all (fun x => Lib.onesCount x == ((List.range 8).filter (fun b => x.testBit b)).length) = true := by kernel_rfl
theorem ones_len {x : Nat} (h : x < 256) : Lib.onesCount x = ((List.range 8).filter (fun b => x.testBit b)).length := by
  have := List.all_eq_true.mp ones_all8 x (List.mem_range.mpr h)
  exact eq_of_beq this
theorem filter_upto (P : Nat → Bool) {n : Nat} (m : Nat) : ((List.range (n + m)).filter (fun b => decide (b < n) && P b)).length = ((List.range n).filter P).length := by
  induction m with
  | zero =>
    rw [Nat.add_zero]
    congr 1
    refine List.filter_congr fun b hb => ?_
    rw [decide_eq_true (List.mem_range.mp hb), Bool.true_and]
  | succ m ih =>
    rw [← Nat.add_assoc, List.range_succ, List.filter_append, List.length_append, ih]
    have : ¬ n + m < n := by omega
    simp [this]
theorem ones_set (P : Nat → Bool) {n : Nat} (hn : n ≤ 8) : Lib.onesCount (setN P n) = ((List.range n).filter P).length := by
  rw [ones_len (setN_small P hn), ← filter_upto P (8 - n), show n + (8 - n) = 8 by omega]
  congr 2
  funext b
  exact setN_bit P n b
theorem ones_allV {l : List (Int × Int)} (hr : rightT l = true) : Lib.onesCount (allV l) = l.length := by
  unfold allV
  rw [if_pos hr, ones_set _ (right_parts hr).2.2]
  have : (List.range l.length).filter (fun _ => true) = List.range l.length := List.filter_eq_self.mpr fun _ _ => rfl
  rw [this, List.length_range]

/-- numbers put into a set, one after another -/
def ofT : List Int → Nat → Nat
  | [], s => s
  | n :: l, s => ofT l (s ||| 2 ^ n.toNat)
theorem ofT_bit (l : List Int) (s : Nat) (h : ∀ x, x ∈ l → 0 ≤ x) (b : Nat) : (ofT l s).testBit b = (s.testBit b || decide ((b : Int) ∈ l)) := by
  induction l generalizing s with
  | nil => simp [ofT]
  | cons x l ih =>
    have hx := h x (List.mem_cons_self ..)
    rw [ofT, ih _ (fun y hy => h y (List.mem_cons_of_mem _ hy)), Nat.testBit_or, Nat.testBit_two_pow, Bool.or_assoc]
    congr 1
    by_cases e : x.toNat = b
    · have : (b : Int) = x := by omega
      simp [e, this]
    · have : ¬ (b : Int) = x := by omega
      simp [e, this]
theorem mem_rowD {l : List (Int × Int)} {s : Int} {a d k : Nat} {x : Int} : x ∈ rowD l s a d k ↔ ∃ j : Nat, j < k ∧ hasB s (j : Int) = true ∧ distN l a j = (d : Int) ∧ (j : Int) = x := by
  unfold rowD
  rw [List.mem_map]
  constructor
  · rintro ⟨j, hj, rfl⟩
    rw [List.mem_filter, List.mem_range, Bool.and_eq_true, beq_iff_eq] at hj
    exact ⟨j, hj.1, hj.2.1, hj.2.2, rfl⟩
  · rintro ⟨j, h1, h2, h3, rfl⟩
    exact ⟨j, by rw [List.mem_filter, List.mem_range, Bool.and_eq_true, beq_iff_eq]; exact ⟨h1, h2, h3⟩, rfl⟩
theorem mem_nearO {l : List (Int × Int)} {s : Int} {a d : Nat} {x : Int} : x ∈ nearO l s a d ↔ ∃ j : Nat, j < l.length ∧ hasB s (j : Int) = true ∧ distN l a j < (d : Int) ∧ (j : Int) = x := by
  unfold nearO
  rw [List.mem_flatMap]
  constructor
  · rintro ⟨e, he, hx⟩
    rw [List.mem_range] at he
    obtain ⟨j, h1, h2, h3, rfl⟩ := mem_rowD.mp hx
    exact ⟨j, h1, h2, by omega, rfl⟩
  · rintro ⟨j, h1, h2, h3, rfl⟩
    have h4 := dist_range l a j
    exact ⟨(distN l a j).toNat, List.mem_range.mpr (by omega), mem_rowD.mpr ⟨j, h1, h2, by omega, rfl⟩⟩
theorem mem_nearL {l : List (Int × Int)} {s : Int} {a : Nat} {x : Int} : x ∈ nearL l s a ↔ ∃ j : Nat, j < l.length ∧ hasB s (j : Int) = true ∧ (j : Int) = x := by
  unfold nearL
  rw [mem_nearO]
  constructor
  · rintro ⟨j, h1, h2, _, h4⟩; exact ⟨j, h1, h2, h4⟩
  · rintro ⟨j, h1, h2, h4⟩
    have := dist_range l a j
    exact ⟨j, h1, h2, by omega, h4⟩
theorem near_set (l : List (Int × Int)) (s : Int) (a : Nat) : ofT (nearL l s a) 0 = setN (fun (k : Nat) => hasB s (k : Int)) l.length := by
  refine Nat.eq_of_testBit_eq fun b => ?_
  rw [ofT_bit _ _ (fun x hx => by obtain ⟨j, _, _, rfl⟩ := mem_nearL.mp hx; omega), Nat.zero_testBit, Bool.false_or, setN_bit]
  by_cases hb : b < l.length
  · by_cases hs : hasB s (b : Int) = true
    · have : (b : Int) ∈ nearL l s a := mem_nearL.mpr ⟨b, hb, hs, rfl⟩
      simp [this, hb, hs]
    · have : ¬ (b : Int) ∈ nearL l s a := fun h => by
        obtain ⟨j, _, h2, h3⟩ := mem_nearL.mp h
        have : j = b := by omega
        exact hs (this ▸ h2)
      simp [this, hb, hs]
  · have : ¬ (b : Int) ∈ nearL l s a := fun h => by
      obtain ⟨j, h1, _, h3⟩ := mem_nearL.mp h
      omega
    simp [this, hb]
theorem parts_len (p : Nat → Bool) (f : Nat → Int) (hf : ∀ k, 0 ≤ f k ∧ f k ≤ 3) (n : Nat) :
    ((List.range n).filter (fun k => p k && (f k == 0))).length + ((List.range n).filter (fun k => p k && (f k == 1))).length + ((List.range n).filter (fun k => p k && (f k == 2))).length + ((List.range n).filter (fun k => p k && (f k == 3))).length
      = ((List.range n).filter p).length := by
  induction n with
  | zero => rfl
  | succ n ih =>
    simp only [List.range_succ, List.filter_append, List.length_append]
    have h : ([n].filter (fun k => p k && (f k == 0))).length + ([n].filter (fun k => p k && (f k == 1))).length + ([n].filter (fun k => p k && (f k == 2))).length + ([n].filter (fun k => p k && (f k == 3))).length = ([n].filter p).length := by
      have h4 : f n = 0 ∨ f n = 1 ∨ f n = 2 ∨ f n = 3 := by have := hf n; omega
      cases hp : p n <;> rcases h4 with e | e | e | e <;> simp [hp, e]
    omega
theorem near_len (l : List (Int × Int)) (s : Int) (a : Nat) : (nearL l s a).length = ((List.range l.length).filter (fun (k : Nat) => hasB s (k : Int))).length := by
  have h := parts_len (fun k => hasB s (k : Int)) (fun k => distN l a k) (fun k => dist_range l a k) l.length
  unfold nearL
  rw [nearO_step, nearO_step, nearO_step, nearO_step, show nearO l s a 0 = [] from rfl]
  simp only [List.length_append, List.length_nil, Nat.zero_add, rowD, List.length_map]
  exact h
theorem near_count {l : List (Int × Int)} {s : Int} {a : Nat} (h8 : l.length ≤ 8) : Lib.onesCount (ofT (nearL l s a) 0) = (nearL l s a).length := by
  rw [near_set, ones_set _ h8, near_len]
/-- by rising distance -/
theorem near_rise (l : List (Int × Int)) (s : Int) (a d : Nat) : (nearO l s a d).Pairwise (fun x y => distN l a x.toNat ≤ distN l a y.toNat) := by
  induction d with
  | zero => exact List.Pairwise.nil
  | succ d ih =>
    rw [nearO_step, List.pairwise_append]
    refine ⟨ih, ?_, fun x hx y hy => ?_⟩
    · refine List.pairwise_of_forall_mem_list fun x hx y hy => ?_
      obtain ⟨j, _, _, h1, rfl⟩ := mem_rowD.mp hx
      obtain ⟨i, _, _, h2, rfl⟩ := mem_rowD.mp hy
      rw [Int.toNat_natCast, Int.toNat_natCast]
      omega
    · obtain ⟨j, _, _, h1, rfl⟩ := mem_nearO.mp hx
      obtain ⟨i, _, _, h2, rfl⟩ := mem_rowD.mp hy
      rw [Int.toNat_natCast, Int.toNat_natCast]
      omega
theorem near_step {l : List (Int × Int)} {s : Int} {a i : Nat} {x y : Int} (h1 : (nearL l s a)[i]? = some x) (h2 : (nearL l s a)[i + 1]? = some y) : distN l a x.toNat ≤ distN l a y.toNat := by
  obtain ⟨g1, rfl⟩ := List.getElem?_eq_some_iff.mp h1
  obtain ⟨g2, rfl⟩ := List.getElem?_eq_some_iff.mp h2
  exact List.pairwise_iff_getElem.mp (near_rise l s a 4) i (i + 1) g1 g2 (by omega)
/-- its own first -/
theorem near_first {l : List (Int × Int)} {s : Int} {a : Nat} (ha : a < l.length) (hs : hasB s (a : Int) = true) : (nearL l s a)[0]? = some (a : Int) := by
  have hm : (a : Int) ∈ nearL l s a := mem_nearL.mpr ⟨a, ha, hs, rfl⟩
  have hn : 0 < (nearL l s a).length := List.length_pos_of_mem hm
  obtain ⟨i, hi, he⟩ := List.getElem_of_mem hm
  have h0 : distN l a ((nearL l s a)[0]).toNat ≤ 0 := by
    by_cases h : i = 0
    · subst h
      rw [he, Int.toNat_natCast, dist_self]
      exact Int.le_refl 0
    · have := List.pairwise_iff_getElem.mp (near_rise l s a 4) 0 i hn hi (by omega)
      have h2 : distN l a ((nearL l s a)[0]).toNat ≤ distN l a ((nearL l s a)[i]).toNat := this
      rw [he, Int.toNat_natCast, dist_self] at h2
      exact h2
  obtain ⟨j, _, _, h3⟩ := mem_nearL.mp (List.getElem_mem hn)
  rw [← h3, Int.toNat_natCast] at h0
  have h5 := (dist_range l a j).1
  have h6 := dist_zero l a j
  rw [show distN l a j = 0 by omega] at h6
  have h7 : (a : Int) = (j : Int) := by simpa using h6.symm
  rw [List.getElem?_eq_getElem hn, ← h3, h7]

end Go.Proofs.Ytfalkiinlkfanaa
