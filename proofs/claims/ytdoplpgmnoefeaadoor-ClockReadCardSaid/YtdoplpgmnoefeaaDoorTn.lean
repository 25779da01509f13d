/-
  Texts of times: which they are, and that they lead back. The plain mathematics. No statement is proved here.
-/
import Derived.Test.YtdoplpgmnoefeaaDoorTm
import Derived.Test.YtdoplpgmnoefeaaDoorTx
namespace Go.Proofs.YtdoplpgmnoefeaaDoor
open Go

theorem val_replicate (l : List UInt8) (k : Nat) : val (l ++ List.replicate k 48) = val l * 10 ^ k := by
  have h0 : ∀ k, val (List.replicate k (48 : UInt8)) = 0 := fun k => by
    induction k with
    | zero => simp [val, valFrom]
    | succ k ih =>
      rw [List.replicate_succ]
      have e : val ((48 : UInt8) :: List.replicate k 48) = valFrom (10 * 0 + ((48 : UInt8).toNat - 48)) (List.replicate k 48) := valFrom_cons 0 48 _
      rw [e]
      have : 10 * 0 + ((48 : UInt8).toNat - 48) = 0 := rfl
      rw [this]
      exact ih
  have e : val (l ++ List.replicate k 48) = valFrom (val l) (List.replicate k 48) := valFrom_append 0 l _
  rw [e, valFrom_eq, h0]
  simp

/-- noughts behind, cut off -/
theorem trim_split (l : List UInt8) : l = Lib.trimRightB l 48 ++ List.replicate (l.length - (Lib.trimRightB l 48).length) 48 ∧ (Lib.trimRightB l 48).getLast? ≠ some 48 := by
  have h1 : l.reverse = l.reverse.takeWhile (· == 48) ++ l.reverse.dropWhile (· == 48) := (List.takeWhile_append_dropWhile).symm
  have h2 : l = (l.reverse.dropWhile (· == 48)).reverse ++ (l.reverse.takeWhile (· == 48)).reverse := by
    have := congrArg List.reverse h1
    rwa [List.reverse_reverse, List.reverse_append] at this
  have h3 : ∀ x ∈ l.reverse.takeWhile (· == (48 : UInt8)), x = 48 := fun x hx => by simpa using List.all_eq_true.1 (List.all_takeWhile (p := (· == (48 : UInt8))) (l := l.reverse)) x hx
  have h4 : l.reverse.takeWhile (· == (48 : UInt8)) = List.replicate (l.reverse.takeWhile (· == (48 : UInt8))).length 48 := List.eq_replicate_of_mem h3
  have hlen : (l.reverse.takeWhile (· == (48 : UInt8))).length = l.length - (Lib.trimRightB l 48).length := by
    have := congrArg List.length h2
    unfold Lib.trimRightB
    simp only [List.length_append, List.length_reverse] at this ⊢
    omega
  refine ⟨?_, ?_⟩
  · rw [← hlen]
    conv => lhs; rw [h2, h4]
    rw [List.reverse_replicate]
    simp [Lib.trimRightB]
  · unfold Lib.trimRightB
    rw [List.getLast?_reverse]
    intro e
    have := List.head?_dropWhile_not (p := (· == (48 : UInt8))) (l := l.reverse)
    rw [e] at this
    simp at this
theorem trim_of_last {p : List UInt8} (h : p.getLast? ≠ some 48) (k : Nat) : Lib.trimRightB (p ++ List.replicate k 48) 48 = p := by
  unfold Lib.trimRightB
  rw [List.reverse_append, List.reverse_replicate]
  have h1 : ∀ (k : Nat) (l : List UInt8), (List.replicate k (48 : UInt8) ++ l).dropWhile (· == 48) = l.dropWhile (· == 48) := fun k l => by
    induction k with
    | zero => rfl
    | succ k ih => rw [List.replicate_succ, List.cons_append, List.dropWhile_cons_of_pos (by rfl), ih]
  rw [h1]
  rw [← List.head?_reverse] at h
  cases hr : p.reverse with
  | nil => rw [List.reverse_eq_nil_iff.1 hr]; rfl
  | cons a t =>
    rw [hr] at h
    have ha : ¬ (a == 48) = true := by simpa using h
    rw [List.dropWhile_cons_of_neg (p := (· == (48 : UInt8))) ha, ← hr, List.reverse_reverse]

/-- nine digits -/
theorem pad_facts {r : Nat} (h : r < 1000000000) : ∃ P, Lib.decDigits (1000000000 + r) = 49 :: P ∧ P.length = 9 ∧ P.all isD = true ∧ val P = r := by
  obtain ⟨h1, h2, h3, _⟩ := dec_facts (1000000000 + r)
  have hl : (Lib.decDigits (1000000000 + r)).length = 10 := dec_len (by omega) (by omega)
  cases hd : Lib.decDigits (1000000000 + r) with
  | nil => exact absurd hd h3
  | cons c P =>
    rw [hd] at h1 h2 hl
    simp only [List.all_cons, Bool.and_eq_true] at h2
    have hP : P.length = 9 := by simpa using hl
    have hlt := val_lt h2.2
    rw [hP] at hlt
    have e : val (c :: P) = valFrom (10 * 0 + (c.toNat - 48)) P := valFrom_cons 0 c P
    rw [e, valFrom_eq, hP] at h1
    have hc := isD_iff.1 h2.1
    have hc1 : c.toNat = 49 := by omega
    have hc2 : c = 49 := UInt8.toNat_inj.1 (by simpa using hc1)
    subst hc2
    exact ⟨P, rfl, hP, h2.2, by omega⟩

theorem frac_facts {r : Nat} (h0 : 0 < r) (h : r < 1000000000) :
    (fracL r).length ≤ 9 ∧ (fracL r).all isD = true ∧ fracL r ≠ [] ∧ (fracL r).getLast? ≠ some 48 ∧ val (fracL r) * 10 ^ (9 - (fracL r).length) = r := by
  obtain ⟨P, hP, hl, hd, hv⟩ := pad_facts h
  have hf : fracL r = Lib.trimRightB P 48 := by unfold fracL; rw [hP]; rfl
  obtain ⟨s1, s2⟩ := trim_split P
  rw [← hf, hl] at s1
  rw [← hf] at s2
  have hle : (fracL r).length ≤ 9 := by
    have := congrArg List.length s1
    simp only [List.length_append, List.length_replicate, hl] at this
    omega
  have hv2 : val (fracL r) * 10 ^ (9 - (fracL r).length) = r := by rw [← val_replicate, ← s1, hv]
  refine ⟨hle, ?_, ?_, s2, hv2⟩
  · rw [s1, List.all_append, Bool.and_eq_true] at hd
    exact hd.1
  · intro e
    rw [e] at hv2
    simp [val, valFrom] at hv2
    omega
theorem frac_back {p : List UInt8} (hl : p.length ≤ 9) (hd : p.all isD = true) (hne : p ≠ []) (hlast : p.getLast? ≠ some 48) :
    0 < val p * 10 ^ (9 - p.length) ∧ val p * 10 ^ (9 - p.length) < 1000000000 ∧ fracL (val p * 10 ^ (9 - p.length)) = p := by
  have hpos : 0 < val p := by
    have hl2 := List.dropLast_concat_getLast hne
    obtain ⟨l', c, rfl⟩ : ∃ l' c, p = l' ++ [c] := ⟨_, _, hl2.symm⟩
    simp only [List.all_append, List.all_cons, List.all_nil, Bool.and_true, Bool.and_eq_true] at hd
    have hc := isD_iff.1 hd.2
    rw [val_snoc]
    have hc48 : c.toNat ≠ 48 := fun e => hlast (by
      simp only [List.getLast?_append, List.getLast?_singleton, Option.some_or, Option.some.injEq]
      exact UInt8.toNat_inj.1 (by simpa using e))
    omega
  have hlt := val_lt hd
  have hp9 : 10 ^ p.length * 10 ^ (9 - p.length) = 1000000000 := by
    rw [← Nat.pow_add, show p.length + (9 - p.length) = 9 by omega]
  have hb : val p * 10 ^ (9 - p.length) < 1000000000 := by
    rw [← hp9]
    exact Nat.mul_lt_mul_of_pos_right hlt (Nat.pow_pos (by omega))
  have hb0 : 0 < val p * 10 ^ (9 - p.length) := Nat.mul_pos hpos (Nat.pow_pos (by omega))
  refine ⟨hb0, hb, ?_⟩
  have hQ : (49 :: (p ++ List.replicate (9 - p.length) 48)).all isD = true := by
    simp only [List.all_cons, List.all_append, hd, Bool.and_eq_true]
    refine ⟨rfl, trivial, ?_⟩
    rw [List.all_eq_true]
    intro x hx
    rw [List.eq_of_mem_replicate hx]
    rfl
  have hv : val (49 :: (p ++ List.replicate (9 - p.length) 48)) = 1000000000 + val p * 10 ^ (9 - p.length) := by
    have e : val ((49 : UInt8) :: (p ++ List.replicate (9 - p.length) 48)) = valFrom (10 * 0 + ((49 : UInt8).toNat - 48)) (p ++ List.replicate (9 - p.length) 48) := valFrom_cons 0 49 _
    rw [e, valFrom_eq, val_replicate]
    have : (p ++ List.replicate (9 - p.length) (48 : UInt8)).length = 9 := by simp; omega
    rw [this]
    have : 10 * 0 + ((49 : UInt8).toNat - 48) = 1 := rfl
    rw [this]
  have := dec_val hQ (by simp) (.inr (by simp))
  rw [hv] at this
  unfold fracL
  rw [this]
  exact trim_of_last hlast _

/-- ahead of the point, and from it on -/
def ahead (s : List UInt8) : List UInt8 := s.takeWhile (· != 46)
def onward (s : List UInt8) : List UInt8 := s.dropWhile (· != 46)
def wholeL (l : List UInt8) : Bool := decide (l.length ≤ 7) && (l.all isD && !l.isEmpty) && (l == [48] || l.head? != some 48)
def partL (l : List UInt8) : Bool := decide (l.length ≤ 9) && (l.all isD && !l.isEmpty) && (l.getLast? != some 48)
def numT (W p : List UInt8) : Nat := val W * 1000000000 + val p * 10 ^ (9 - p.length)
/-- the time whose text this is -/
def prs (s : List UInt8) : Option Nat :=
  if (wholeL (ahead s) && ((onward s).isEmpty || partL ((onward s).drop 1))) = true then
    (if numT (ahead s) ((onward s).drop 1) ≤ 1125899906842624 then some (numT (ahead s) ((onward s).drop 1)) else none) else none

theorem ahead_onward (s : List UInt8) : s = ahead s ++ onward s := (List.takeWhile_append_dropWhile).symm
theorem onward_head {s : List UInt8} (h : onward s ≠ []) : onward s = 46 :: (onward s).drop 1 := by
  unfold onward at *
  have := List.head?_dropWhile_not (p := (· != (46 : UInt8))) (l := s)
  cases hd : s.dropWhile (· != (46 : UInt8)) with
  | nil => exact absurd hd h
  | cons a t =>
    rw [hd] at this
    simp at this
    rw [this]
    rfl
theorem digit_ne {l : List UInt8} (h : l.all isD = true) : ∀ a ∈ l, (a != (46 : UInt8)) = true := fun a ha => by
  have := isD_iff.1 (List.all_eq_true.1 h a ha)
  simp only [bne_iff_ne, ne_eq]
  intro e
  rw [e] at this
  simp at this

theorem wholeL_iff {l : List UInt8} : wholeL l = true ↔ l.length ≤ 7 ∧ l.all isD = true ∧ l ≠ [] ∧ (l = [48] ∨ l.head? ≠ some 48) := by
  simp only [wholeL, Bool.and_eq_true, decide_eq_true_eq, Bool.or_eq_true, beq_iff_eq, bne_iff_ne, Bool.not_eq_true', List.isEmpty_eq_false_iff, and_assoc, ne_eq]
theorem partL_iff {l : List UInt8} : partL l = true ↔ l.length ≤ 9 ∧ l.all isD = true ∧ l ≠ [] ∧ l.getLast? ≠ some 48 := by
  simp only [partL, Bool.and_eq_true, decide_eq_true_eq, bne_iff_ne, Bool.not_eq_true', List.isEmpty_eq_false_iff, and_assoc, ne_eq]

theorem prs_some {s : List UInt8} {t : Nat} (h : prs s = some t) : t ≤ 1125899906842624 ∧ txt t = s := by
  unfold prs at h
  split at h
  · rename_i hc
    rw [Bool.and_eq_true, Bool.or_eq_true] at hc
    obtain ⟨hw, hp⟩ := hc
    split at h
    · rename_i hle
      simp only [Option.some.injEq] at h
      obtain ⟨_, w1, w2, w3⟩ := wholeL_iff.1 hw
      refine ⟨by omega, ?_⟩
      have hs := ahead_onward s
      rcases hp with hp | hp
      · have ho : onward s = [] := by simpa using hp
        rw [ho] at h hs
        have e : t = val (ahead s) * 1000000000 := by
          rw [← h]
          simp [numT, val, valFrom]
        rw [List.append_nil] at hs
        have e1 : t % 1000000000 = 0 := by omega
        have e2 : t / 1000000000 = val (ahead s) := by omega
        unfold txt
        rw [if_pos e1, e2, dec_val w1 w2 w3]
        exact hs.symm
      · obtain ⟨p0, p1, p2, p3⟩ := partL_iff.1 hp
        obtain ⟨b0, b1, b2⟩ := frac_back p0 p1 p2 p3
        have hne : onward s ≠ [] := fun e => p2 (by rw [e]; rfl)
        unfold numT at h
        generalize val ((onward s).drop 1) * 10 ^ (9 - ((onward s).drop 1).length) = r at *
        have e1 : t % 1000000000 = r := by omega
        have e2 : t / 1000000000 = val (ahead s) := by omega
        unfold txt
        rw [if_neg (by omega), e1, e2, dec_val w1 w2 w3, b2, ← onward_head hne]
        exact hs.symm
    · cases h
  · cases h

theorem prs_txt {t : Nat} (h : t ≤ 1125899906842624) : prs (txt t) = some t := by
  obtain ⟨d1, d2, d3, d4⟩ := dec_facts (t / 1000000000)
  have hw : wholeL (Lib.decDigits (t / 1000000000)) = true := by
    rw [wholeL_iff]
    refine ⟨?_, d2, d3, ?_⟩
    · rw [Lib.decDigits_length]
      exact nd_le 6 _ (by omega)
    · by_cases h0 : t / 1000000000 = 0
      · rw [h0]; exact .inl (dec_small (by omega))
      · exact .inr (d4 (by omega))
  by_cases hz : t % 1000000000 = 0
  · have e : txt t = Lib.decDigits (t / 1000000000) := if_pos hz
    have ha : ahead (txt t) = Lib.decDigits (t / 1000000000) := by
      rw [e]
      unfold ahead
      rw [← List.append_nil (Lib.decDigits _), List.takeWhile_append_of_pos (digit_ne d2)]
      rfl
    have ho : onward (txt t) = [] := by
      rw [e]
      unfold onward
      rw [← List.append_nil (Lib.decDigits _), List.dropWhile_append_of_pos (digit_ne d2)]
      rfl
    have hn : numT (ahead (txt t)) ((onward (txt t)).drop 1) = t := by
      rw [ha, ho]
      unfold numT
      rw [d1]
      simp [val, valFrom]
      omega
    unfold prs
    rw [hn, ha, ho, hw]
    exact (if_pos rfl).trans (if_pos h)
  · obtain ⟨f0, f1, f2, f3, f4⟩ := frac_facts (r := t % 1000000000) (by omega) (by omega)
    have e : txt t = Lib.decDigits (t / 1000000000) ++ (46 :: fracL (t % 1000000000)) := if_neg hz
    have ha : ahead (txt t) = Lib.decDigits (t / 1000000000) := by
      rw [e]
      unfold ahead
      rw [List.takeWhile_append_of_pos (digit_ne d2)]
      simp
    have ho : onward (txt t) = 46 :: fracL (t % 1000000000) := by
      rw [e]
      unfold onward
      rw [List.dropWhile_append_of_pos (digit_ne d2)]
      simp
    have hn : numT (ahead (txt t)) ((onward (txt t)).drop 1) = t := by
      rw [ha, ho]
      unfold numT
      rw [d1, List.drop_one, List.tail_cons, f4]
      omega
    have hp : partL ((onward (txt t)).drop 1) = true := by
      rw [ho, List.drop_one, List.tail_cons, partL_iff]
      exact ⟨f0, f1, f2, f3⟩
    unfold prs
    rw [hn, ha, hw, hp, Bool.or_true]
    exact (if_pos rfl).trans (if_pos h)

theorem txt_len {t : Nat} (h : t ≤ 1125899906842624) : (txt t).length ≤ 18 := by
  have h1 := dec_short (n := t / 1000000000) (by omega)
  have h2 := frac_short (r := t % 1000000000) (by omega)
  unfold txt
  split
  · omega
  · simp only [List.length_append, List.length_cons]; omega

/-- how the document's answer reads: seconds, nanoseconds, behind the point?, how many digits behind it -/
def rstep (st : Nat × Nat × Bool × Nat) (c : UInt8) : Option (Nat × Nat × Bool × Nat) :=
  if c = 46 ∧ st.2.2.1 = false then some (st.1, st.2.1, true, st.2.2.2)
  else if isD c = false ∨ (st.2.2.1 = true ∧ st.2.2.2 = 9) ∨ (st.2.2.1 = false ∧ 112589990684262 < st.1) then none
  else if st.2.2.1 = true then some (st.1, 10 * st.2.1 + (c.toNat - 48), st.2.2.1, st.2.2.2 + 1)
  else some (10 * st.1 + (c.toNat - 48), st.2.1, st.2.2.1, st.2.2.2)
def rfold (s : List UInt8) : Option (Nat × Nat × Bool × Nat) := s.foldlM rstep (0, 0, false, 0)
theorem rfold_snoc (l : List UInt8) (c : UInt8) : rfold (l ++ [c]) = (rfold l).bind fun st => rstep st c := by
  unfold rfold
  rw [List.foldlM_append]
  cases List.foldlM rstep (0, 0, false, 0) l with
  | none => rfl
  | some st => simp
theorem rfold_take {s : List UInt8} {k : Nat} {c : UInt8} {st : Nat × Nat × Bool × Nat} (hk : s[k]? = some c) (h : rfold (s.take k) = some st) : rfold (s.take (k + 1)) = rstep st c := by
  rw [List.take_add_one, hk]
  have : (some c).toList = [c] := rfl
  rw [this, rfold_snoc, h]
  rfl
theorem rfold_dead {s : List UInt8} {k : Nat} {c : UInt8} {st : Nat × Nat × Bool × Nat} (hk : s[k]? = some c) (h : rfold (s.take k) = some st) (hn : rstep st c = none) : rfold s = none := by
  have h1 := rfold_take hk h
  rw [hn] at h1
  rw [← List.take_append_drop (k + 1) s]
  unfold rfold at *
  rw [List.foldlM_append, h1]
  rfl
theorem fold_ahead : ∀ (l : List UInt8) (x : Nat), l.all isD = true → valFrom x l ≤ 112589990684262 → l.foldlM rstep (x, 0, false, 0) = some (valFrom x l, 0, false, 0)
  | [], x, _, _ => rfl
  | c :: l, x, hd, hv => by
    simp only [List.all_cons, Bool.and_eq_true] at hd
    rw [valFrom_cons] at hv ⊢
    have h1 := le_valFrom (10 * x + (c.toNat - 48)) l
    have hc := isD_iff.1 hd.1
    have hs : rstep (x, 0, false, 0) c = some (10 * x + (c.toNat - 48), 0, false, 0) := by
      unfold rstep
      rw [if_neg (by rintro ⟨rfl, _⟩; simp at hc), if_neg (by simp [hd.1]; omega), if_neg (by simp)]
    rw [List.foldlM_cons, hs]
    exact fold_ahead l _ hd.2 hv
theorem fold_behind (q : Nat) : ∀ (l : List UInt8) (y a : Nat), l.all isD = true → a + l.length ≤ 9 → l.foldlM rstep (q, y, true, a) = some (q, valFrom y l, true, a + l.length)
  | [], y, a, _, _ => rfl
  | c :: l, y, a, hd, ha => by
    simp only [List.all_cons, Bool.and_eq_true] at hd
    simp only [List.length_cons] at ha
    have hc := isD_iff.1 hd.1
    have hs : rstep (q, y, true, a) c = some (q, 10 * y + (c.toNat - 48), true, a + 1) := by
      unfold rstep
      rw [if_neg (by simp), if_neg (by simp [hd.1]; omega), if_pos rfl]
    rw [List.foldlM_cons, hs, valFrom_cons, List.length_cons, show a + (l.length + 1) = a + 1 + l.length by omega]
    exact fold_behind q l _ _ hd.2 (by omega)
theorem rfold_txt {t : Nat} (h : t ≤ 1125899906842624) : ∃ r b a, rfold (txt t) = some (t / 1000000000, r, b, a) ∧ a ≤ 9 ∧ r * 10 ^ (9 - a) = t % 1000000000 := by
  obtain ⟨d1, d2, d3, d4⟩ := dec_facts (t / 1000000000)
  have hv : valFrom 0 (Lib.decDigits (t / 1000000000)) = t / 1000000000 := d1
  have hA := fold_ahead (Lib.decDigits (t / 1000000000)) 0 d2 (by omega)
  rw [hv] at hA
  by_cases hz : t % 1000000000 = 0
  · refine ⟨0, false, 0, ?_, by omega, by rw [Nat.zero_mul, hz]⟩
    rw [show txt t = Lib.decDigits (t / 1000000000) from if_pos hz]
    exact hA
  · obtain ⟨f0, f1, f2, f3, f4⟩ := frac_facts (r := t % 1000000000) (by omega) (by omega)
    refine ⟨val (fracL (t % 1000000000)), true, (fracL (t % 1000000000)).length, ?_, f0, f4⟩
    rw [show txt t = Lib.decDigits (t / 1000000000) ++ (46 :: fracL (t % 1000000000)) from if_neg hz]
    unfold rfold
    rw [List.foldlM_append, hA]
    have hs : rstep (t / 1000000000, 0, false, 0) 46 = some (t / 1000000000, 0, true, 0) := by
      unfold rstep
      rw [if_pos (by simp)]
    show List.foldlM rstep (t / 1000000000, 0, false, 0) (46 :: fracL (t % 1000000000)) = _
    rw [List.foldlM_cons, hs]
    have := fold_behind (t / 1000000000) (fracL (t % 1000000000)) 0 0 f1 (by omega)
    rw [Nat.zero_add] at this
    exact this

end Go.Proofs.YtdoplpgmnoefeaaDoor
