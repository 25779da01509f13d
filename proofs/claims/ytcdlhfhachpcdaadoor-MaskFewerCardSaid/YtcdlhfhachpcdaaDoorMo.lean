/-
  Plain mathematics: a first choice's pCPUs, none twice; rows of masks as a number's bits. No statement is proved here.
-/
import Derived.Test.YtcdlhfhachpcdaaDoorMn
namespace Go.Proofs.YtcdlhfhachpcdaaDoor

theorem first_cons {h : Nat} {t : List Nat} {s c : Nat} (hf : firstC h t s = some c) : firstL (h :: t) s = c :: firstL t (s - 2 ^ c) := by
  show (match firstC h t s with | none => [] | some c => c :: firstL t (s - 2 ^ c)) = _
  rw [hf]
/-- each pCPU of a choice is allowed and there -/
theorem first_in {l : List Nat} {s : Nat} (hm : mostN l s = l.length) : ∀ (k c : Nat), (firstL l s)[k]? = some c → c < 8 ∧ s.testBit c = true ∧ (l.getD k 0 &&& s).testBit c = true := by
  induction l generalizing s with
  | nil => intro k c h; simp [firstL] at h
  | cons a t ih =>
    obtain ⟨c0, hc0⟩ := first_there (by simpa using hm)
    obtain ⟨h8, hb, hm2, _⟩ := first_facts hc0
    have hb2 := hb
    rw [Nat.testBit_and, Bool.and_eq_true] at hb2
    intro k c h
    rw [first_cons hc0] at h
    cases k with
    | zero =>
      obtain rfl : c0 = c := by simpa using h
      exact ⟨h8, hb2.2, by simpa using hb⟩
    | succ k =>
      obtain ⟨g1, g2, g3⟩ := ih hm2 k c (by simpa using h)
      rw [less_bit hb2.2, Bool.and_eq_true] at g2
      refine ⟨g1, g2.1, ?_⟩
      show (t.getD k 0 &&& s).testBit c = true
      rw [Nat.testBit_and, Bool.and_eq_true] at g3 ⊢
      exact ⟨g3.1, g2.1⟩
/-- no two are the same -/
theorem first_unlike {l : List Nat} {s : Nat} (hm : mostN l s = l.length) : ∀ (i j c : Nat), i < j → (firstL l s)[i]? = some c → (firstL l s)[j]? = some c → False := by
  induction l generalizing s with
  | nil => intro i j c _ h; simp [firstL] at h
  | cons a t ih =>
    obtain ⟨c0, hc0⟩ := first_there (by simpa using hm)
    obtain ⟨h8, hb, hm2, _⟩ := first_facts hc0
    rw [Nat.testBit_and, Bool.and_eq_true] at hb
    intro i j c hij hi hj
    rw [first_cons hc0] at hi hj
    cases j with
    | zero => omega
    | succ j =>
      have hj : (firstL t (s - 2 ^ c0))[j]? = some c := by simpa using hj
      cases i with
      | zero =>
        obtain rfl : c0 = c := by simpa using hi
        obtain ⟨_, g2, _⟩ := first_in hm2 j c0 hj
        rw [less_bit hb.2] at g2
        simp at g2
      | succ i => exact ih hm2 i j c (by omega) (by simpa using hi) hj

/-- each choosing of some is a number's bits -/
theorem num_of (K : Nat → Bool) : ∀ n, ∃ k, k < 2 ^ n ∧ ∀ i, i < n → k.testBit i = K i
  | 0 => ⟨0, by simp, fun i hi => by omega⟩
  | n + 1 => by
    obtain ⟨k, h1, h2⟩ := num_of K n
    have hp : 2 ^ (n + 1) = 2 ^ n + 2 ^ n := by rw [Nat.pow_succ]; omega
    by_cases hk : K n = true
    · refine ⟨2 ^ n + k, by omega, fun i hi => ?_⟩
      by_cases he : i = n
      · subst he
        rw [Nat.testBit_two_pow_add_eq, Nat.testBit_lt_two_pow h1, hk]
        rfl
      · rw [Nat.testBit_two_pow_add_gt (by omega)]
        exact h2 i (by omega)
    · refine ⟨k, by omega, fun i hi => ?_⟩
      by_cases he : i = n
      · subst he
        rw [Nat.testBit_lt_two_pow h1]
        simpa using hk
      · exact h2 i (by omega)
theorem hall_nums {A : Nat → Nat → Bool} {n N : Nat} : Hall A n N ↔ ∀ k, k < 2 ^ n → cnt (fun i => k.testBit i) n ≤ cnt (unionN A (fun i => k.testBit i) n) N := by
  constructor
  · exact fun h k _ => h _
  · intro h K
    obtain ⟨k, h1, h2⟩ := num_of K n
    have e1 : cnt K n = cnt (fun i => k.testBit i) n := cnt_ext fun i hi => (h2 i hi).symm
    have e2 : cnt (unionN A K n) N = cnt (unionN A (fun i => k.testBit i) n) N := cnt_ext fun b _ => by
      rw [Bool.eq_iff_iff, union_iff, union_iff]
      constructor
      · rintro ⟨i, hi, hk, ha⟩; exact ⟨i, hi, by rw [h2 i hi]; exact hk, ha⟩
      · rintro ⟨i, hi, hk, ha⟩; exact ⟨i, hi, by rw [← h2 i hi]; exact hk, ha⟩
    rw [e1, e2]
    exact h k h1
/-- what the chosen ones of the first i allow together -/
def orN (H : List Nat) (s k : Nat) : Nat → Nat
  | 0 => 0
  | i + 1 => if k.testBit i = true then orN H s k i ||| (H.getD i 0 &&& s) else orN H s k i
theorem or_yes {H : List Nat} {s k i : Nat} (h : k.testBit i = true) : orN H s k (i + 1) = orN H s k i ||| (H.getD i 0 &&& s) := if_pos h
theorem or_no {H : List Nat} {s k i : Nat} (h : k.testBit i = false) : orN H s k (i + 1) = orN H s k i := if_neg (by rw [h]; simp)
theorem or_union (H : List Nat) (s k n b : Nat) : (orN H s k n).testBit b = unionN (fam s H) (fun i => k.testBit i) n b := by
  induction n with
  | zero => simp [orN, unionN]
  | succ n ih =>
    show _ = (unionN (fam s H) (fun i => k.testBit i) n b || (k.testBit n && fam s H n b))
    cases hk : k.testBit n with
    | true => rw [or_yes hk, Nat.testBit_or, ih]; rfl
    | false => rw [or_no hk, ih]; simp
theorem or_small {H : List Nat} {s k : Nat} (hs : s < 256) : ∀ n, orN H s k n < 256
  | 0 => by simp [orN]
  | n + 1 => by
    unfold orN
    split
    · exact Nat.or_lt_two_pow (n := 8) (or_small hs n) (Nat.lt_of_le_of_lt Nat.and_le_right hs)
    · exact or_small hs n
theorem pop_or (H : List Nat) (s k n : Nat) : popN (orN H s k n) = cnt (unionN (fam s H) (fun i => k.testBit i) n) 8 := cnt_ext fun b _ => or_union H s k n b
/-- how many are chosen -/
def manyN (k i : Nat) : Nat := cnt (fun j => k.testBit j) i
theorem many_yes {k i : Nat} (h : k.testBit i = true) : manyN k (i + 1) = manyN k i + 1 := by show cnt _ i + _ = _; rw [if_pos h]; rfl
theorem many_no {k i : Nat} (h : k.testBit i = false) : manyN k (i + 1) = manyN k i := by show cnt _ i + _ = _; rw [if_neg (by simp [h])]; rfl
theorem many_le (k i : Nat) : manyN k i ≤ i := cnt_le _ _
/-- no row among the first k allows too few -/
def hallB (H : List Nat) (s : Nat) : Nat → Bool
  | 0 => true
  | k + 1 => hallB H s k && decide (manyN k H.length ≤ popN (orN H s k H.length))
theorem hallB_iff {H : List Nat} {s k : Nat} : hallB H s k = true ↔ ∀ j, j < k → manyN j H.length ≤ popN (orN H s j H.length) := by
  induction k with
  | zero => simp [hallB]
  | succ k ih =>
    unfold hallB
    rw [Bool.and_eq_true, ih, decide_eq_true_eq]
    constructor
    · rintro ⟨h1, h2⟩ j hj
      by_cases e : j = k
      · subst e; exact h2
      · exact h1 j (by omega)
    · exact fun h => ⟨fun j hj => h j (by omega), h k (by omega)⟩
theorem hallB_most {H : List Nat} {s : Nat} : hallB H s (2 ^ H.length) = decide (mostN H s = H.length) := by
  have h1 : mostN H s = H.length ↔ Hall (fam s H) H.length 8 := most_hall H s
  rw [Bool.eq_iff_iff, hallB_iff, decide_eq_true_eq, h1, hall_nums]
  constructor
  · intro h k hk
    have h2 := h k hk
    rw [pop_or H s k H.length] at h2
    exact h2
  · intro h k hk
    rw [pop_or H s k H.length]
    exact h k hk
/-- a bit by a shift -/
theorem shift_bit (k i : Nat) : (k / 2 ^ i) % 2 = if k.testBit i = true then 1 else 0 := by
  rw [Nat.testBit_eq_decide_div_mod_eq]
  by_cases h : k / 2 ^ i % 2 = 1
  · simp [h]
  · have := Nat.mod_lt (k / 2 ^ i) (show 0 < 2 by omega)
    simp [h]; omega

end Go.Proofs.YtcdlhfhachpcdaaDoor
