/-
  Sets have a match just if no places are stuck: Hall's theorem. Plain mathematics; no statement is proved here.
-/
import Derived.Test.YtkbgpmgnkegipaaDoorDg
import Derived.Test.YtkbgpmgnkegipaaDoorDi
import Derived.Test.YtkbgpmgnkegipaaDoorHm
namespace Go.Proofs.YtkbgpmgnkegipaaDoor

/-- is a pCPU in the set of a place? -/
def inA (l : List Int) (i b : Nat) : Bool := ((l.getD i 0).toNat).testBit b
theorem hasB_nat (x b : Nat) (hb : b < 8) : hasB (x : Int) (b : Int) = x.testBit b := by
  unfold hasB cpuB
  rw [Nat.testBit_eq_decide_div_mod_eq, Int.toNat_natCast]
  have h1 : (decide ((0 : Int) ≤ (b : Int)) && decide ((b : Int) < 8)) = true := by simp; omega
  have h2 : ((x : Int) / 2 ^ b % 2 = 1) ↔ (x / 2 ^ b % 2 = 1) := by
    have : ((x / 2 ^ b % 2 : Nat) : Int) = (x : Int) / 2 ^ b % 2 := by simp
    omega
  first
    | (rw [h1, Bool.true_and]; by_cases h : x / 2 ^ b % 2 = 1 <;> simp [h2, h])
    | (simp [h2]; omega)
theorem mem_nat {x b : Nat} : (b : Int) ∈ mem (x : Int) ↔ b < 8 ∧ x.testBit b = true := by
  unfold mem memb
  rw [List.mem_filter, List.mem_map]
  constructor
  · rintro ⟨⟨k, hk, e⟩, h⟩
    have hk := List.mem_range.1 hk
    have : k = b := by omega
    subst this
    exact ⟨hk, by rw [← hasB_nat x k hk]; exact h⟩
  · rintro ⟨hb, h⟩
    exact ⟨⟨b, List.mem_range.2 hb, rfl⟩, by rw [hasB_nat x b hb]; exact h⟩
theorem cnt_succ (P : Nat → Bool) (n : Nat) : cnt P (n + 1) = cnt P n + (if P n = true then 1 else 0) := rfl
theorem memb_cnt (x : Nat) : ∀ k, k ≤ 8 → (memb (x : Int) k).length = cnt (fun b => x.testBit b) k
  | 0, _ => rfl
  | k + 1, hk => by
    have ih := memb_cnt x k (by omega)
    have h := hasB_nat x k (by omega)
    cases hb : x.testBit k with
    | true =>
      rw [hb] at h
      rw [memb_yes h, List.length_append, ih, cnt_succ, if_pos hb]
      rfl
    | false =>
      rw [hb] at h
      rw [memb_no h, ih, cnt_succ, if_neg (by rw [hb]; simp), Nat.add_zero]
theorem fold_bit (l : List Int) (b : Nat) : ∀ (p : List Int) (a : Nat), (p.foldl (fun a i => a ||| (l.getD i.toNat 0).toNat) a).testBit b = (a.testBit b || p.any fun i => inA l i.toNat b)
  | [], a => by simp
  | i :: p, a => by
    rw [List.foldl_cons, fold_bit l b p, Nat.testBit_or, List.any_cons, Bool.or_assoc]
    rfl
theorem or_bit (l : List Int) (p : List Int) (b : Nat) : (orN l p).testBit b = p.any fun i => inA l i.toNat b := by
  unfold orN
  rw [fold_bit]
  simp
/-- places as numbers marked -/
def markP (p : List Int) (i : Nat) : Bool := decide ((i : Int) ∈ p)
theorem union_or {l : List Int} {n : Nat} {p : List Int} (h : Rising n p) (b : Nat) : unionN (inA l) (markP p) n b = (orN l p).testBit b := by
  rw [Bool.eq_iff_iff, union_iff, or_bit, List.any_eq_true]
  constructor
  · rintro ⟨i, _, h2, h3⟩
    exact ⟨(i : Int), of_decide_eq_true h2, by rw [Int.toNat_natCast]; exact h3⟩
  · rintro ⟨x, hx, h3⟩
    have h1 := h.place x hx
    have h2 := h.low
    exact ⟨x.toNat, by omega, by unfold markP; rw [show ((x.toNat : Nat) : Int) = x by omega]; exact decide_eq_true hx, h3⟩
theorem cnt_mark (n : Nat) : ∀ (k : Nat) (p : List Int), p ∈ lev n k → cnt (markP p) n = k
  | 0, p, h => by
    rw [show p = [] by simpa [lev] using h]
    exact cnt_none (fun i _ => by unfold markP; simp)
  | k + 1, p, h => by
    obtain ⟨q, hq, hp⟩ := List.mem_flatMap.1 (show p ∈ (lev n k).flatMap (kids n) from h)
    have hr := (lev_rising n k q hq).1
    obtain ⟨i, h1, h2, rfl⟩ := mem_kidsTo hp
    have hni : (i : Int) ∉ q := fun hm => by have := hr.place _ hm; omega
    rw [cnt_one (P := markP (q ++ [(i : Int)])) h2 (by unfold markP; simp), ← cnt_mark n k q hq]
    congr 1
    refine cnt_ext fun j _ => ?_
    unfold markP
    by_cases hj : j = i
    · subst hj
      simp [hni]
    · have hji : ¬ ((j : Int) = (i : Int)) := by omega
      by_cases hm : (j : Int) ∈ q <;> simp [hj, hm, hji]
/-- the places that are marked below m -/
def pk (K : Nat → Bool) : Nat → List Int
  | 0 => []
  | m + 1 => if K m = true then pk K m ++ [(m : Int)] else pk K m
theorem pk_succ (K : Nat → Bool) (m : Nat) : pk K (m + 1) = if K m = true then pk K m ++ [(m : Int)] else pk K m := rfl
theorem kid_mem {n : Nat} {p : List Int} {j : Nat} (h1 : nxt p ≤ j) (h2 : j < n) : p ++ [(j : Int)] ∈ kids n p := by
  obtain ⟨t, ht⟩ := kids_split n p h1 h2
  rw [ht]
  simp
theorem pk_lev (K : Nat → Bool) (n : Nat) : ∀ m, m ≤ n → pk K m ∈ lev n (cnt K m) ∧ nxt (pk K m) ≤ m
  | 0, _ => ⟨by simp [pk, cnt, lev], Nat.le_refl _⟩
  | m + 1, hm => by
    obtain ⟨h1, h2⟩ := pk_lev K n m (by omega)
    cases hk : K m with
    | true =>
      have e : pk K (m + 1) = pk K m ++ [(m : Int)] := by rw [pk_succ, if_pos hk]
      have e2 : cnt K (m + 1) = cnt K m + 1 := by rw [cnt_succ, if_pos hk]
      rw [e, e2]
      exact ⟨List.mem_flatMap.2 ⟨_, h1, kid_mem h2 (by omega)⟩, by rw [nxt_snoc]; exact Nat.le_refl _⟩
    | false =>
      have e : pk K (m + 1) = pk K m := by rw [pk_succ, if_neg (by rw [hk]; simp)]
      have e2 : cnt K (m + 1) = cnt K m := by rw [cnt_succ, if_neg (by rw [hk]; simp), Nat.add_zero]
      rw [e, e2]
      exact ⟨h1, by omega⟩
theorem pk_mem (K : Nat → Bool) : ∀ (m : Nat) (x : Int), x ∈ pk K m ↔ ∃ i : Nat, x = (i : Int) ∧ i < m ∧ K i = true
  | 0, x => by simp [pk]
  | m + 1, x => by
    have ih := pk_mem K m x
    cases hk : K m with
    | true =>
      have e : pk K (m + 1) = pk K m ++ [(m : Int)] := by rw [pk_succ, if_pos hk]
      rw [e, List.mem_append, ih, List.mem_singleton]
      constructor
      · rintro (⟨i, h1, h2, h3⟩ | h1)
        · exact ⟨i, h1, by omega, h3⟩
        · exact ⟨m, h1, by omega, hk⟩
      · rintro ⟨i, h1, h2, h3⟩
        rcases Nat.lt_or_ge i m with h | h
        · exact .inl ⟨i, h1, h, h3⟩
        · exact .inr (by rw [h1, show i = m by omega])
    | false =>
      have e : pk K (m + 1) = pk K m := by rw [pk_succ, if_neg (by rw [hk]; simp)]
      rw [e, ih]
      constructor
      · rintro ⟨i, h1, h2, h3⟩
        exact ⟨i, h1, by omega, h3⟩
      · rintro ⟨i, h1, h2, h3⟩
        rcases Nat.lt_or_ge i m with h | h
        · exact ⟨i, h1, h, h3⟩
        · rw [show i = m by omega, hk] at h3; cases h3
theorem mem_selL {n k : Nat} {p : List Int} (h : p ∈ lev n k) : p ∈ selL n := by
  have hk : k < n + 1 := by
    rcases Nat.lt_or_ge k (n + 1) with h1 | h1
    · exact h1
    · rw [lev_past n (by omega)] at h; cases h
  exact List.mem_flatMap.2 ⟨k, List.mem_range.2 hk, h⟩
theorem selL_lev {n : Nat} {p : List Int} (h : p ∈ selL n) : ∃ k, p ∈ lev n k := by
  obtain ⟨k, _, h⟩ := List.mem_flatMap.1 h
  exact ⟨k, h⟩
theorem cntN_union {l : List Int} {n : Nat} {p : List Int} (h : Rising n p) : cntN l p = cnt (unionN (inA l) (markP p) n) 8 := by
  unfold cntN mem
  rw [memb_cnt _ 8 (Nat.le_refl _)]
  exact cnt_ext fun b _ => (union_or h b).symm
theorem hall_iff (l : List Int) (n : Nat) : Hall (inA l) n 8 ↔ ∀ p ∈ selL n, stuckB l p = false := by
  constructor
  · intro h p hp
    obtain ⟨k, hk⟩ := selL_lev hp
    obtain ⟨hr, hl⟩ := lev_rising n k p hk
    have h1 := h (markP p)
    rw [cnt_mark n k p hk, ← cntN_union hr, ← hl] at h1
    unfold stuckB
    exact decide_eq_false (by omega)
  · intro h K
    have h1 := (pk_lev K n n (Nat.le_refl _)).1
    have hr := (lev_rising n _ _ h1)
    have h2 := h _ (mem_selL h1)
    unfold stuckB at h2
    have h3 := of_decide_eq_false h2
    rw [hr.2, cntN_union hr.1] at h3
    have h4 : cnt (unionN (inA l) (markP (pk K n)) n) 8 = cnt (unionN (inA l) K n) 8 := cnt_ext fun b _ => by
      rw [Bool.eq_iff_iff, union_iff, union_iff]
      constructor
      · rintro ⟨i, hi, hm, ha⟩
        obtain ⟨j, e, _, hj⟩ := (pk_mem K n _).1 (of_decide_eq_true hm)
        have hij : i = j := by omega
        subst hij
        exact ⟨i, hi, hj, ha⟩
      · rintro ⟨i, hi, hm, ha⟩
        exact ⟨i, hi, decide_eq_true ((pk_mem K n _).2 ⟨i, rfl, hi, hm⟩), ha⟩
    omega
theorem hall_own : ∀ (n : Nat) (A : Nat → Nat → Bool) (N : Nat), Hall A n N → Own A n N
  | 0, _, _, _ => ⟨fun _ => 0, fun i h => by omega, fun i j h => by omega⟩
  | n + 1, A, N, h => by
    obtain ⟨c, hc, hA, hH⟩ := hall_step h
    obtain ⟨f, h1, h2⟩ := hall_own n _ N hH
    refine ⟨fun i => match i with
      | 0 => c
      | i + 1 => f i, fun i hi => ?_, fun i j hi hj e => ?_⟩
    · cases i with
      | zero => exact ⟨hc, hA⟩
      | succ i =>
        have := h1 i (by omega)
        rw [Bool.and_eq_true] at this
        exact ⟨this.1, this.2.1⟩
    · cases i with
      | zero =>
        cases j with
        | zero => rfl
        | succ j =>
          have := (h1 j (by omega)).2
          have e : c = f j := e
          rw [← e] at this
          simp at this
      | succ i =>
        cases j with
        | zero =>
          have := (h1 i (by omega)).2
          have e : f i = c := e
          rw [e] at this
          simp at this
        | succ j => rw [h2 i j (by omega) (by omega) e]
theorem own_fits {l : List Int} (h0 : ∀ x ∈ l, 0 ≤ x) : Own (inA l) l.length 8 ↔ fitsB (l.map mem) = true := by
  have hget : ∀ (i : Nat) (row : List Int), (l.map mem)[i]? = some row → ∃ x : Nat, l[i]? = some (x : Int) ∧ row = mem (x : Int) ∧ inA l i = x.testBit := fun i row h => by
    rw [List.getElem?_map] at h
    cases hx : l[i]? with
    | none => rw [hx] at h; cases h
    | some s =>
      rw [hx] at h
      have := h0 s (List.mem_of_getElem? hx)
      refine ⟨s.toNat, by congr 1; omega, ?_, ?_⟩
      · rw [show ((s.toNat : Nat) : Int) = s by omega]; exact (Option.some.inj h).symm
      · unfold inA
        rw [List.getD_eq_getElem?_getD, hx]
        rfl
  constructor
  · rintro ⟨f, h1, h2⟩
    unfold fitsB
    refine match_some (fun i => (f i : Int)) (fun i row hr => ?_) (fun i _ => by simp) (fun i j hi hj e => h2 i j (by simpa using hi) (by simpa using hj) (by omega))
    obtain ⟨x, hx, rfl, hA⟩ := hget i row hr
    have h3 := h1 i (List.getElem?_eq_some_iff.1 hx).1
    rw [hA] at h3
    exact mem_nat.2 h3
  · intro h
    unfold fitsB at h
    cases hm : matchR (l.map mem) [] with
    | none => rw [hm] at h; cases h
    | some m =>
      obtain ⟨g1, g2, _, g4⟩ := match_facts hm
      rw [List.length_map] at g1
      have hi : ∀ i, i < l.length → ∃ b : Nat, m[i]? = some (b : Int) ∧ b < 8 ∧ inA l i b = true := fun i hil => by
        obtain ⟨c, hc'⟩ : ∃ c, m[i]? = some c := ⟨m[i]'(by omega), List.getElem?_eq_getElem (by omega)⟩
        obtain ⟨row, hr, hcr⟩ := g2 i c hc'
        obtain ⟨x, hx, rfl, hA⟩ := hget i row hr
        have hb := mem_in hcr
        refine ⟨c.toNat, by rw [hc']; congr 1; omega, by omega, ?_⟩
        rw [hA]
        exact (mem_nat (x := x) (b := c.toNat)).1 (by rw [show ((c.toNat : Nat) : Int) = c by omega]; exact hcr) |>.2
      refine ⟨fun i => ((m[i]?).getD 0).toNat, fun i hil => ?_, fun i j hil hjl e => ?_⟩
      · obtain ⟨b, h1, h2, h3⟩ := hi i hil
        dsimp only
        rw [h1]
        exact ⟨h2, h3⟩
      · obtain ⟨b, h1, _, _⟩ := hi i hil
        obtain ⟨b', h1', _, _⟩ := hi j hjl
        dsimp only at e
        rw [h1, h1'] at e
        have e : b = b' := by simpa using e
        subst e
        obtain ⟨p1, p2⟩ := List.getElem?_eq_some_iff.1 h1
        obtain ⟨q1, q2⟩ := List.getElem?_eq_some_iff.1 h1'
        exact (List.getElem_inj g4).1 (p2.trans q2.symm)
/-- there is a match just if no places are stuck -/
theorem may_stuck {l : List Int} (h0 : ∀ x ∈ l, 0 ≤ x) (h : setsB l = true) : mayB l = decide ((stuckL l).length = 0) := by
  have h1 : mayB l = fitsB (l.map mem) := by unfold mayB; rw [h]; rfl
  have h2 : fitsB (l.map mem) = true ↔ ∀ p ∈ selL l.length, stuckB l p = false := by
    rw [← own_fits h0, ← hall_iff]
    exact ⟨own_hall, hall_own _ _ _⟩
  rw [h1]
  unfold stuckL
  rw [if_pos h]
  cases hf : (selL l.length).find? (stuckB l) with
  | none =>
    rw [List.find?_eq_none] at hf
    rw [h2.2 (fun p hp => by simpa using hf p hp)]
    rfl
  | some p =>
    have h3 := List.find?_some hf
    have h4 : fitsB (l.map mem) = false := by
      cases hb : fitsB (l.map mem) with
      | false => rfl
      | true => have := h2.1 hb p (List.mem_of_find?_eq_some hf); rw [this] at h3; cases h3
    rw [h4]
    unfold stuckB at h3
    have h5 := of_decide_eq_true h3
    exact (decide_eq_false (by simp only [Option.getD_some]; omega)).symm
/-- the places that are stuck rise, and have fewer pCPUs together than there are of them -/
theorem stuck_facts {l : List Int} (h : setsB l = true) : Rising l.length (stuckL l) ∧ ((stuckL l).length ≠ 0 → cntN l (stuckL l) < (stuckL l).length) := by
  unfold stuckL
  rw [if_pos h]
  cases hf : (selL l.length).find? (stuckB l) with
  | none => exact ⟨rising_nil _, fun h => absurd rfl h⟩
  | some p =>
    obtain ⟨k, hk⟩ := selL_lev (List.mem_of_find?_eq_some hf)
    have h3 := List.find?_some hf
    unfold stuckB at h3
    exact ⟨(lev_rising _ _ _ hk).1, fun _ => of_decide_eq_true h3⟩

end Go.Proofs.YtkbgpmgnkegipaaDoor
