/-
  Plain mathematics: rows of sets, and when each may have one of its own, none twice (Hall). No statement is proved here.
-/
import Derived.Test.YtkbgpmgnkegipaaDoorRows
namespace Go.Proofs.YtkbgpmgnkegipaaDoor

/-- how many below n -/
def cnt (P : Nat → Bool) : Nat → Nat
  | 0 => 0
  | n + 1 => cnt P n + (if P n = true then 1 else 0)
theorem cnt_mono {P Q : Nat → Bool} {n : Nat} (h : ∀ k, k < n → P k = true → Q k = true) : cnt P n ≤ cnt Q n := by
  induction n with
  | zero => exact Nat.le_refl _
  | succ n ih =>
    have ih := ih (fun k hk => h k (by omega))
    unfold cnt
    have := h n (by omega)
    by_cases hp : P n = true
    · rw [if_pos hp, if_pos (this hp)]; omega
    · rw [if_neg hp]; omega
theorem cnt_ext {P Q : Nat → Bool} {n : Nat} (h : ∀ k, k < n → P k = Q k) : cnt P n = cnt Q n :=
  Nat.le_antisymm (cnt_mono fun k hk hp => by rw [← h k hk]; exact hp) (cnt_mono fun k hk hp => by rw [h k hk]; exact hp)
theorem cnt_both (P Q : Nat → Bool) (n : Nat) : cnt (fun k => P k || Q k) n + cnt (fun k => P k && Q k) n = cnt P n + cnt Q n := by
  induction n with
  | zero => rfl
  | succ n ih =>
    unfold cnt
    cases P n <;> cases Q n <;> simp <;> omega
theorem cnt_none {P : Nat → Bool} {n : Nat} (h : ∀ k, k < n → P k = false) : cnt P n = 0 := by
  induction n with
  | zero => rfl
  | succ n ih => rw [cnt, ih (fun k hk => h k (by omega)), h n (by omega)]; rfl
theorem cnt_le (P : Nat → Bool) (n : Nat) : cnt P n ≤ n := by
  induction n with
  | zero => exact Nat.le_refl _
  | succ n ih => unfold cnt; split <;> omega
theorem cnt_one {P : Nat → Bool} {n c : Nat} (hc : c < n) (hp : P c = true) : cnt P n = cnt (fun k => P k && !(k == c)) n + 1 := by
  induction n with
  | zero => omega
  | succ n ih =>
    unfold cnt
    by_cases h : c = n
    · subst h
      have e : cnt P c = cnt (fun k => P k && !(k == c)) c := cnt_ext fun k hk => by
        have : (k == c) = false := by simp; omega
        rw [this]; simp
      rw [if_pos hp, e]
      simp
    · rw [ih (by omega)]
      have : (n == c) = false := by simp; omega
      rw [this]
      cases P n <;> simp <;> omega
/-- the first one counted apart -/
theorem cnt_first (P : Nat → Bool) (n : Nat) : cnt P (n + 1) = (if P 0 = true then 1 else 0) + cnt (fun k => P (k + 1)) n := by
  induction n with
  | zero => simp [cnt]
  | succ n ih => rw [cnt, ih]; simp only [cnt]; omega

/-- whatever stands in one of the chosen sets -/
def unionN (A : Nat → Nat → Bool) (K : Nat → Bool) : Nat → Nat → Bool
  | 0, _ => false
  | n + 1, b => unionN A K n b || (K n && A n b)
theorem union_iff {A : Nat → Nat → Bool} {K : Nat → Bool} {n b : Nat} : unionN A K n b = true ↔ ∃ i, i < n ∧ K i = true ∧ A i b = true := by
  induction n with
  | zero => simp [unionN]
  | succ n ih =>
    unfold unionN
    rw [Bool.or_eq_true, Bool.and_eq_true, ih]
    constructor
    · rintro (⟨i, hi, h1, h2⟩ | ⟨h1, h2⟩)
      · exact ⟨i, by omega, h1, h2⟩
      · exact ⟨n, by omega, h1, h2⟩
    · rintro ⟨i, hi, h1, h2⟩
      by_cases h : i = n
      · subst h; exact .inr ⟨h1, h2⟩
      · exact .inl ⟨i, by omega, h1, h2⟩
/-- no row of the sets has fewer together than they are many -/
def Hall (A : Nat → Nat → Bool) (n N : Nat) : Prop := ∀ K, cnt K n ≤ cnt (unionN A K n) N
/-- each set may have one of its own, none twice -/
def Own (A : Nat → Nat → Bool) (n N : Nat) : Prop := ∃ f : Nat → Nat, (∀ i, i < n → f i < N ∧ A i (f i) = true) ∧ ∀ i j, i < n → j < n → f i = f j → i = j

theorem tight_join {A : Nat → Nat → Bool} {n N : Nat} (h : Hall A n N) {K L : Nat → Bool} (hK : cnt (unionN A K n) N ≤ cnt K n) (hL : cnt (unionN A L n) N ≤ cnt L n) :
    cnt (unionN A (fun i => K i || L i) n) N ≤ cnt (fun i => K i || L i) n := by
  have h1 := cnt_both K L n
  have h2 := cnt_both (unionN A K n) (unionN A L n) N
  have h3 := h (fun i => K i && L i)
  have h4 : cnt (unionN A (fun i => K i && L i) n) N ≤ cnt (fun b => unionN A K n b && unionN A L n b) N := cnt_mono fun b _ hb => by
    obtain ⟨i, hi, hk, ha⟩ := union_iff.1 hb
    rw [Bool.and_eq_true] at hk
    rw [Bool.and_eq_true]
    exact ⟨union_iff.2 ⟨i, hi, hk.1, ha⟩, union_iff.2 ⟨i, hi, hk.2, ha⟩⟩
  have h5 : cnt (unionN A (fun i => K i || L i) n) N = cnt (fun b => unionN A K n b || unionN A L n b) N := cnt_ext fun b _ => by
    rw [Bool.eq_iff_iff, Bool.or_eq_true, union_iff, union_iff, union_iff]
    constructor
    · rintro ⟨i, hi, hk, ha⟩
      rw [Bool.or_eq_true] at hk
      rcases hk with hk | hk
      · exact .inl ⟨i, hi, hk, ha⟩
      · exact .inr ⟨i, hi, hk, ha⟩
    · rintro (⟨i, hi, hk, ha⟩ | ⟨i, hi, hk, ha⟩)
      · exact ⟨i, hi, by rw [hk]; rfl, ha⟩
      · exact ⟨i, hi, by rw [hk, Bool.or_true], ha⟩
  omega
/-- rows that are tight, one for each of the first m, joined -/
theorem tight_all {A : Nat → Nat → Bool} {n N : Nat} (h : Hall A n N) (B : Nat → Bool) (m : Nat) (hB : ∀ c, c < m → B c = true → ∃ K, cnt (unionN A K n) N ≤ cnt K n ∧ unionN A K n c = true) :
    ∃ K, cnt (unionN A K n) N ≤ cnt K n ∧ ∀ c, c < m → B c = true → unionN A K n c = true := by
  induction m with
  | zero => exact ⟨fun _ => false, by rw [cnt_none (P := unionN A (fun _ => false) n) fun k _ => by rw [← Bool.not_eq_true, union_iff]; rintro ⟨_, _, h, _⟩; cases h]; exact Nat.zero_le _, fun c hc => by omega⟩
  | succ m ih =>
    obtain ⟨K, h1, h2⟩ := ih (fun c hc => hB c (by omega))
    by_cases hb : B m = true
    · obtain ⟨L, h3, h4⟩ := hB m (by omega) hb
      refine ⟨fun i => K i || L i, tight_join h h1 h3, fun c hc hbc => ?_⟩
      have go : ∀ {M : Nat → Bool}, (∀ i, M i = true → (K i || L i) = true) → unionN A M n c = true → unionN A (fun i => K i || L i) n c = true := fun hM hu => by
        obtain ⟨i, hi, hk, ha⟩ := union_iff.1 hu
        exact union_iff.2 ⟨i, hi, hM i hk, ha⟩
      by_cases hcm : c = m
      · subst hcm; exact go (fun i hi => by rw [hi, Bool.or_true]) h4
      · exact go (fun i hi => by rw [hi]; rfl) (h2 c (by omega) hbc)
    · refine ⟨K, h1, fun c hc hbc => ?_⟩
      by_cases hcm : c = m
      · subst hcm; exact absurd hbc hb
      · exact h2 c (by omega) hbc
theorem hall_step {A : Nat → Nat → Bool} {n N : Nat} (h : Hall A (n + 1) N) : ∃ c, c < N ∧ A 0 c = true ∧ Hall (fun i b => A (i + 1) b && !(b == c)) n N := by
  -- the rest alone
  have hr : Hall (fun i => A (i + 1)) n N := fun K => by
    have h1 := h (fun i => match i with | 0 => false | j + 1 => K j)
    rw [cnt_first] at h1
    refine Nat.le_trans (by simpa using h1) (cnt_mono fun b _ hb => ?_)
    obtain ⟨i, hi, hk, ha⟩ := union_iff.1 hb
    cases i with
    | zero => cases hk
    | succ i => exact union_iff.2 ⟨i, by omega, hk, ha⟩
  apply Classical.byContradiction
  intro hno
  have hB : ∀ c, c < N → A 0 c = true → ∃ K, cnt (unionN (fun i => A (i + 1)) K n) N ≤ cnt K n ∧ unionN (fun i => A (i + 1)) K n c = true := by
    intro c hc ha
    have hnh : ¬ Hall (fun i b => A (i + 1) b && !(b == c)) n N := fun hh => hno ⟨c, hc, ha, hh⟩
    unfold Hall at hnh
    obtain ⟨K, hK⟩ := Classical.not_forall.1 hnh
    have hK := Nat.lt_of_not_le hK
    have e : cnt (unionN (fun i b => A (i + 1) b && !(b == c)) K n) N = cnt (fun b => unionN (fun i => A (i + 1)) K n b && !(b == c)) N := cnt_ext fun b _ => by
      rw [Bool.eq_iff_iff, Bool.and_eq_true, union_iff, union_iff]
      constructor
      · rintro ⟨i, hi, hk, ha⟩
        rw [Bool.and_eq_true] at ha
        exact ⟨⟨i, hi, hk, ha.1⟩, ha.2⟩
      · rintro ⟨⟨i, hi, hk, ha⟩, hb⟩
        exact ⟨i, hi, hk, by rw [ha, hb]; rfl⟩
    have hge := hr K
    have hin : unionN (fun i => A (i + 1)) K n c = true := by
      cases hu : unionN (fun i => A (i + 1)) K n c with
      | true => rfl
      | false =>
        have : cnt (fun b => unionN (fun i => A (i + 1)) K n b && !(b == c)) N = cnt (unionN (fun i => A (i + 1)) K n) N := cnt_ext fun b _ => by
          by_cases hb : b = c
          · subst hb; rw [hu]; rfl
          · have : (b == c) = false := by simpa using hb
            rw [this]; simp
        omega
    have := cnt_one hc hin
    exact ⟨K, by omega, hin⟩
  obtain ⟨K, h1, h2⟩ := tight_all hr (A 0) N hB
  have h3 := h (fun i => match i with | 0 => true | j + 1 => K j)
  rw [cnt_first] at h3
  have h4 : cnt (unionN A (fun i => match i with | 0 => true | j + 1 => K j) (n + 1)) N ≤ cnt (unionN (fun i => A (i + 1)) K n) N := cnt_mono fun b hb hu => by
    obtain ⟨i, hi, hk, ha⟩ := union_iff.1 hu
    cases i with
    | zero => exact h2 b hb ha
    | succ i => exact union_iff.2 ⟨i, by omega, hk, ha⟩
  have h5 : (1 : Nat) + cnt K n ≤ cnt (unionN A (fun i => match i with | 0 => true | j + 1 => K j) (n + 1)) N := h3
  omega
theorem cnt_inj {K : Nat → Bool} {f : Nat → Nat} {N : Nat} : ∀ (n : Nat) (P : Nat → Bool), (∀ i, i < n → K i = true → f i < N ∧ P (f i) = true) → (∀ i j, i < n → j < n → K i = true → K j = true → f i = f j → i = j) → cnt K n ≤ cnt P N
  | 0, _, _, _ => Nat.zero_le _
  | n + 1, P, h1, h2 => by
    show cnt K n + (if K n = true then 1 else 0) ≤ _
    by_cases hk : K n = true
    · rw [if_pos hk]
      obtain ⟨hf, hp⟩ := h1 n (by omega) hk
      have ih := cnt_inj n (fun k => P k && !(k == f n)) (fun i hi hki => by
        obtain ⟨h3, h4⟩ := h1 i (by omega) hki
        refine ⟨h3, ?_⟩
        have : f i ≠ f n := fun e => by have := h2 i n (by omega) (by omega) hki hk e; omega
        rw [h4]
        simpa using this) (fun i j hi hj => h2 i j (by omega) (by omega))
      have := cnt_one hf hp
      omega
    · rw [if_neg hk]
      exact cnt_inj n P (fun i hi => h1 i (by omega)) (fun i j hi hj => h2 i j (by omega) (by omega))
theorem own_hall {A : Nat → Nat → Bool} {n N : Nat} (h : Own A n N) : Hall A n N := by
  obtain ⟨f, h1, h2⟩ := h
  exact fun K => cnt_inj n _ (fun i hi hk => ⟨(h1 i hi).1, union_iff.2 ⟨i, hi, hk, (h1 i hi).2⟩⟩) (fun i j hi hj _ _ => h2 i j hi hj)

end Go.Proofs.YtkbgpmgnkegipaaDoor
