/-
  Plain mathematics: masks taken in one by one, each that still fits, are as many as have a choice at most. No statement is proved here.
-/
import Derived.Test.YtcdlhfhachpcdaaDoorMm
namespace Go.Proofs.YtcdlhfhachpcdaaDoor

/-- is there a choice for all? -/
def fitsN (l : List Nat) (s : Nat) : Bool := mostN l s == l.length
/-- whoever still fits is taken in -/
def greedy (s : Nat) (l : List Nat) : List Nat := l.foldl (fun K m => if fitsN (K ++ [m]) s = true then K ++ [m] else K) []
theorem greedy_nil (s : Nat) : greedy s [] = [] := rfl
theorem greedy_snoc (s : Nat) (l : List Nat) (m : Nat) : greedy s (l ++ [m]) = if fitsN (greedy s l ++ [m]) s = true then greedy s l ++ [m] else greedy s l := by
  unfold greedy
  rw [List.foldl_append]
  rfl
/-- nothing of a mask lies outside of U -/
def inU (s : Nat) (U : Nat → Bool) (h : Nat) : Prop := ∀ b, b < 8 → (h &&& s).testBit b = true → U b = true
instance (s : Nat) (U : Nat → Bool) (h : Nat) : Decidable (inU s U h) := by unfold inU; infer_instance
def outN (s : Nat) (U : Nat → Bool) (l : List Nat) : Nat := l.countP fun h => !decide (inU s U h)
theorem part_out {l : List Nat} {s k : Nat} (h : Part l s k) (S : Nat) (hS : ∀ b, s.testBit b = true → S.testBit b = true) (U : Nat → Bool) : k ≤ outN S U l + cnt (fun b => U b && s.testBit b) 8 := by
  induction h with
  | nil s => exact Nat.zero_le _
  | @skip h t s k hp ih =>
    have := ih hS
    unfold outN at *
    rw [List.countP_cons]
    omega
  | @take h t s k c hc hb hp ih =>
    rw [Nat.testBit_and, Bool.and_eq_true] at hb
    have ih := ih (fun b h' => hS b (by rw [less_bit hb.2, Bool.and_eq_true] at h'; exact h'.1))
    have hle : cnt (fun b => U b && (s - 2 ^ c).testBit b) 8 ≤ cnt (fun b => U b && s.testBit b) 8 := cnt_mono fun b _ h' => by
      rw [less_bit hb.2] at h'
      simp only [Bool.and_eq_true] at h' ⊢
      exact ⟨h'.1, h'.2.1⟩
    unfold outN at *
    rw [List.countP_cons]
    by_cases hi : inU S U h
    · have hu : U c = true := hi c hc (by rw [Nat.testBit_and, hb.1, hS c hb.2]; rfl)
      have e := cnt_one (P := fun b => U b && s.testBit b) (n := 8) hc (by simp [hu, hb.2])
      have e2 : cnt (fun k => (U k && s.testBit k) && !(k == c)) 8 = cnt (fun b => U b && (s - 2 ^ c).testBit b) 8 := cnt_ext fun b _ => by rw [less_bit hb.2, Bool.and_assoc]
      omega
    · have : (!decide (inU S U h)) = true := by simpa using hi
      rw [if_pos this]
      omega
theorem part_sub {l K : List Nat} {s k : Nat} (hs : K.Sublist l) : Part K s k → Part l s k := by
  induction hs generalizing s k with
  | slnil => exact fun h => h
  | cons a _ ih => exact fun h => .skip (ih h)
  | cons_cons a _ ih =>
    intro h
    cases h with
    | skip hp => exact .skip (ih hp)
    | take c hc hb hp => exact .take c hc hb (ih hp)
theorem most_sub {l K : List Nat} {s : Nat} (hs : K.Sublist l) : mostN K s ≤ mostN l s := part_le (part_sub hs (part_most K s))
theorem greedy_sub (s : Nat) (l : List Nat) : (greedy s l).Sublist l := by
  generalize hn : l.length = n
  induction n generalizing l with
  | zero => rw [List.length_eq_zero_iff.1 hn]; exact List.Sublist.slnil
  | succ n ih =>
    obtain ⟨l', m, rfl⟩ : ∃ l' m, l = l' ++ [m] := ⟨_, _, (List.dropLast_concat_getLast (l := l) (by intro h; simp [h] at hn)).symm⟩
    have hl : l'.length = n := by simpa using hn
    rw [greedy_snoc]
    split
    · exact List.Sublist.append (ih l' hl) (List.Sublist.refl _)
    · exact (ih l' hl).trans (List.sublist_append_left _ _)

theorem getD_old {K : List Nat} {m i : Nat} (hi : i < K.length) : (K ++ [m]).getD i 0 = K.getD i 0 := by
  rw [List.getD_eq_getElem?_getD, List.getD_eq_getElem?_getD, List.getElem?_append_left hi]
theorem getD_new {K : List Nat} {m : Nat} : (K ++ [m]).getD K.length 0 = m := by
  rw [List.getD_eq_getElem?_getD, List.getElem?_append_right (Nat.le_refl _)]
  simp
/-- the sets of K, as a family -/
def fam (s : Nat) (K : List Nat) : Nat → Nat → Bool := fun i b => (K.getD i 0 &&& s).testBit b
theorem fam_old {s i b m : Nat} {K : List Nat} (hi : i < K.length) : fam s (K ++ [m]) i b = fam s K i b := by
  unfold fam
  rw [getD_old hi]
theorem fam_new {s b m : Nat} {K : List Nat} : fam s (K ++ [m]) K.length b = (m &&& s).testBit b := by
  unfold fam
  rw [getD_new]
theorem union_old {s m n : Nat} {K : List Nat} (hn : n ≤ K.length) (T : Nat → Bool) (b : Nat) : unionN (fam s (K ++ [m])) T n b = unionN (fam s K) T n b := by
  rw [Bool.eq_iff_iff, union_iff, union_iff]
  constructor
  · rintro ⟨i, hi, h1, h2⟩; exact ⟨i, hi, h1, by rw [← fam_old (m := m) (by omega)]; exact h2⟩
  · rintro ⟨i, hi, h1, h2⟩; exact ⟨i, hi, h1, by rw [fam_old (by omega)]; exact h2⟩
theorem cnt_cut (T : Nat → Bool) (n : Nat) : cnt (fun i => T i && decide (i < n)) n = cnt T n := cnt_ext fun i hi => by simp [hi]
theorem fits_hall {s : Nat} {K : List Nat} : fitsN K s = true ↔ Hall (fam s K) K.length 8 := by
  unfold fitsN
  rw [beq_iff_eq]
  exact most_hall K s
/-- equal counts of a set and a greater one: they are one -/
theorem cnt_same {P Q : Nat → Bool} {n : Nat} (h : ∀ k, k < n → P k = true → Q k = true) (hc : cnt Q n ≤ cnt P n) : ∀ k, k < n → Q k = true → P k = true := by
  intro k hk hq
  cases hp : P k with
  | true => rfl
  | false =>
    have h1 := cnt_one hk hq
    have h2 : cnt P n ≤ cnt (fun j => Q j && !(j == k)) n := cnt_mono fun j hj hpj => by
      have : j ≠ k := fun e => by rw [e, hp] at hpj; cases hpj
      simp [h j hj hpj, this]
    omega

/-- a mask that no longer fits lies in a tight row of those that are kept -/
theorem tight_of_refused {s m : Nat} {K : List Nat} (hK : Hall (fam s K) K.length 8) (hn : ¬ Hall (fam s (K ++ [m])) (K ++ [m]).length 8) :
    ∃ T, cnt (unionN (fam s K) T K.length) 8 ≤ cnt T K.length ∧ inU s (unionN (fam s K) T K.length) m := by
  unfold Hall at hn
  obtain ⟨T, hT⟩ := Classical.not_forall.1 hn
  have hT := Nat.lt_of_not_le hT
  rw [show (K ++ [m]).length = K.length + 1 by simp] at hT
  have hge := hK T
  have hsub : ∀ b, b < 8 → unionN (fam s K) T K.length b = true → unionN (fam s (K ++ [m])) T (K.length + 1) b = true := fun b _ hb => by
    show (unionN (fam s (K ++ [m])) T K.length b || _) = true
    rw [union_old (Nat.le_refl _), hb]
    rfl
  have hm := cnt_mono (n := 8) hsub
  have hcs : cnt T (K.length + 1) = cnt T K.length + (if T K.length = true then 1 else 0) := rfl
  cases ht : T K.length with
  | false => rw [ht] at hcs; simp at hcs; omega
  | true =>
    rw [ht] at hcs
    simp only [if_true] at hcs
    refine ⟨T, by omega, fun b hb h => ?_⟩
    refine cnt_same (P := unionN (fam s K) T K.length) hsub (by omega) b hb ?_
    exact union_iff.2 ⟨K.length, by omega, ht, by rw [fam_new]; exact h⟩
theorem inU_mono {s h : Nat} {U V : Nat → Bool} (hUV : ∀ b, U b = true → V b = true) (hi : inU s U h) : inU s V h := fun b hb h => hUV b (hi b hb h)
theorem greedy_tight (s : Nat) (l : List Nat) : Hall (fam s (greedy s l)) (greedy s l).length 8 ∧ ∃ (R : List Nat) (T : Nat → Bool), (∀ p : Nat → Bool, l.countP p = (greedy s l).countP p + R.countP p) ∧
    cnt (unionN (fam s (greedy s l)) T (greedy s l).length) 8 ≤ cnt T (greedy s l).length ∧ ∀ h ∈ R, inU s (unionN (fam s (greedy s l)) T (greedy s l).length) h := by
  generalize hn : l.length = n
  induction n generalizing l with
  | zero =>
    rw [List.length_eq_zero_iff.1 hn]
    exact ⟨fits_hall.1 rfl, [], fun _ => false, fun p => rfl, by rw [greedy_nil]; exact Nat.le_of_eq (cnt_none fun _ _ => rfl), fun h hh => by cases hh⟩
  | succ n ih =>
    obtain ⟨l', m, rfl⟩ : ∃ l' m, l = l' ++ [m] := ⟨_, _, (List.dropLast_concat_getLast (l := l) (by intro h; simp [h] at hn)).symm⟩
    obtain ⟨hH, R, T, h1, h2, h3⟩ := ih l' (by simpa using hn)
    rw [greedy_snoc]
    generalize greedy s l' = K at *
    by_cases hf : fitsN (K ++ [m]) s = true
    · rw [if_pos hf]
      refine ⟨fits_hall.1 hf, R, fun i => T i && decide (i < K.length), fun p => ?_, ?_, fun h hh => ?_⟩
      · rw [List.countP_append, List.countP_append, h1 p]; omega
      · have e1 : (K ++ [m]).length = K.length + 1 := by simp
        rw [e1]
        have e2 : cnt (fun i => T i && decide (i < K.length)) (K.length + 1) = cnt T K.length := by
          show cnt _ K.length + _ = _
          rw [cnt_cut]
          simp
        rw [e2]
        refine Nat.le_trans (cnt_mono fun b _ hb => ?_) h2
        obtain ⟨i, hi, hk, ha⟩ := union_iff.1 hb
        simp only [Bool.and_eq_true, decide_eq_true_eq] at hk
        exact union_iff.2 ⟨i, hk.2, hk.1, by rw [← fam_old (m := m) hk.2]; exact ha⟩
      · refine inU_mono (fun b hb => ?_) (h3 h hh)
        obtain ⟨i, hi, hk, ha⟩ := union_iff.1 hb
        exact union_iff.2 ⟨i, by simp; omega, by simp [hk, hi], by rw [fam_old hi]; exact ha⟩
    · rw [if_neg hf]
      obtain ⟨T0, t1, t2⟩ := tight_of_refused hH (fun hh => hf (fits_hall.2 hh))
      refine ⟨hH, m :: R, fun i => T i || T0 i, fun p => ?_, tight_join hH h2 t1, fun h hh => ?_⟩
      · rw [List.countP_append, List.countP_cons, List.countP_cons, h1 p, List.countP_nil]; omega
      · have go : ∀ {M : Nat → Bool}, (∀ i, M i = true → (T i || T0 i) = true) → ∀ b, unionN (fam s K) M K.length b = true → unionN (fam s K) (fun i => T i || T0 i) K.length b = true := fun hM b hu => by
          obtain ⟨i, hi, hk, ha⟩ := union_iff.1 hu
          exact union_iff.2 ⟨i, hi, hM i hk, ha⟩
        rcases List.mem_cons.1 hh with rfl | hh
        · exact inU_mono (go fun i hi => by rw [hi, Bool.or_true]) t2
        · exact inU_mono (go fun i hi => by rw [hi]; rfl) (h3 h hh)
/-- those outside of a tight row's pCPUs are not in the row -/
theorem out_tight (s : Nat) (T U : Nat → Bool) : ∀ (K : List Nat) (A : Nat → Nat → Bool), (∀ i b, i < K.length → A i b = (K.getD i 0 &&& s).testBit b) → (∀ i b, i < K.length → T i = true → A i b = true → U b = true) → outN s U K + cnt T K.length ≤ K.length := by
  intro K
  generalize hn : K.length = n
  induction n generalizing K with
  | zero => intro A _ _; rw [List.length_eq_zero_iff.1 hn]; exact Nat.le_refl _
  | succ n ih =>
    intro A hA hU
    obtain ⟨K', m, rfl⟩ : ∃ K' m, K = K' ++ [m] := ⟨_, _, (List.dropLast_concat_getLast (l := K) (by intro h; simp [h] at hn)).symm⟩
    have hl : K'.length = n := by simpa using hn
    have h1 := ih K' hl A (fun i b hi => by rw [hA i b (by omega), getD_old (by omega)]) (fun i b hi => hU i b (by omega))
    unfold outN at *
    rw [List.countP_append, List.countP_cons, List.countP_nil]
    show _ + (cnt T n + _) ≤ n + 1
    by_cases ht : T n = true
    · have hin : inU s U m := fun b _ hb => hU n b (by omega) ht (by rw [hA n b (by omega), ← hl, getD_new]; exact hb)
      rw [if_pos ht]
      have : (!decide (inU s U m)) = false := by simpa using hin
      rw [this]
      simp only [Bool.false_eq_true, if_false]
      omega
    · rw [if_neg ht]
      split <;> omega
theorem greedy_most (s : Nat) (l : List Nat) : (greedy s l).length = mostN l s := by
  obtain ⟨hH, R, T, h1, h2, h3⟩ := greedy_tight s l
  have hsub := most_sub (s := s) (greedy_sub s l)
  have hK := (most_hall (greedy s l) s).2 hH
  have hp := part_out (part_most l s) s (fun _ h => h) (unionN (fam s (greedy s l)) T (greedy s l).length)
  have h4 := out_tight s T (unionN (fam s (greedy s l)) T (greedy s l).length) (greedy s l) (fam s (greedy s l)) (fun _ _ _ => rfl) (fun i b hi ht ha => union_iff.2 ⟨i, hi, ht, ha⟩)
  have h5 : outN s (unionN (fam s (greedy s l)) T (greedy s l).length) R = 0 := List.countP_eq_zero.2 fun h hh => by simpa using h3 h hh
  have h6 := h1 fun h => !decide (inU s (unionN (fam s (greedy s l)) T (greedy s l).length) h)
  have h7 : cnt (fun b => unionN (fam s (greedy s l)) T (greedy s l).length b && s.testBit b) 8 ≤ cnt (unionN (fam s (greedy s l)) T (greedy s l).length) 8 := cnt_mono fun b _ hb => by rw [Bool.and_eq_true] at hb; exact hb.1
  unfold outN at *
  omega

end Go.Proofs.YtcdlhfhachpcdaaDoor
