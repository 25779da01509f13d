/-
  Numerals and texts of times, as lists of bytes: the plain mathematics of Text and Parse. No model in this text, no statement is proved here.
-/
import Derived.Lib.ItoaNum
import Derived.Lib.TrimByte
namespace Go.Proofs.YtdoplpgmnoefeaaDoor
open Go

/-- a digit -/
def isD (c : UInt8) : Bool := decide (48 ≤ c.toNat) && decide (c.toNat ≤ 57)
theorem isD_iff {c : UInt8} : isD c = true ↔ 48 ≤ c.toNat ∧ c.toNat ≤ 57 := by simp [isD]
/-- the number of a row of digits, behind x -/
def valFrom (x : Nat) (l : List UInt8) : Nat := l.foldl (fun x c => 10 * x + (c.toNat - 48)) x
def val (l : List UInt8) : Nat := valFrom 0 l

theorem valFrom_cons (x : Nat) (c : UInt8) (l : List UInt8) : valFrom x (c :: l) = valFrom (10 * x + (c.toNat - 48)) l := by
  unfold valFrom
  rw [List.foldl_cons]
theorem valFrom_append (x : Nat) (l m : List UInt8) : valFrom x (l ++ m) = valFrom (valFrom x l) m := by simp [valFrom]
theorem val_snoc (l : List UInt8) (c : UInt8) : val (l ++ [c]) = 10 * val l + (c.toNat - 48) := by simp [val, valFrom]
theorem valFrom_eq (x : Nat) (l : List UInt8) : valFrom x l = x * 10 ^ l.length + val l := by
  induction l generalizing x with
  | nil => simp [valFrom, val]
  | cons c l ih =>
    have h1 := valFrom_cons x c l
    have h2 : val (c :: l) = valFrom (10 * 0 + (c.toNat - 48)) l := valFrom_cons 0 c l
    rw [h1, h2, ih, ih (10 * 0 + (c.toNat - 48))]
    simp only [List.length_cons, Nat.pow_succ, Nat.add_mul, Nat.mul_zero, Nat.zero_add]
    have : 10 * x * 10 ^ l.length = x * (10 ^ l.length * 10) := by
      rw [Nat.mul_comm 10 x, Nat.mul_assoc, Nat.mul_comm 10]
    omega
theorem val_lt {l : List UInt8} (h : l.all isD = true) : val l < 10 ^ l.length := by
  induction l with
  | nil => simp [val, valFrom]
  | cons c l ih =>
    simp only [List.all_cons, Bool.and_eq_true] at h
    have hc := isD_iff.1 h.1
    have := ih h.2
    have e : val (c :: l) = valFrom (10 * 0 + (c.toNat - 48)) l := valFrom_cons 0 c l
    rw [e, valFrom_eq]
    simp only [List.length_cons, Nat.pow_succ, Nat.mul_zero, Nat.zero_add]
    have h9 : (c.toNat - 48) * 10 ^ l.length ≤ 9 * 10 ^ l.length := Nat.mul_le_mul_right _ (by omega)
    omega
theorem le_valFrom (x : Nat) (l : List UInt8) : x ≤ valFrom x l := by
  rw [valFrom_eq]
  have := Nat.le_mul_of_pos_right x (Nat.pow_pos (n := l.length) (show 0 < 10 by omega))
  omega

theorem digit_toNat {u : Nat} (h : u < 10) : (UInt8.ofNat (48 + u)).toNat = 48 + u := by
  rw [UInt8.toNat_ofNat']
  omega
theorem digit_back {c : UInt8} (h : isD c = true) : UInt8.ofNat (48 + (c.toNat - 48)) = c := by
  have := isD_iff.1 h
  rw [show 48 + (c.toNat - 48) = c.toNat by omega]
  exact UInt8.ofNat_toNat

/-- numerals -/
theorem dec_small {n : Nat} (h : n < 10) : Lib.decDigits n = [UInt8.ofNat (48 + n)] := Lib.decDigits_one h
theorem dec_big {n : Nat} (h : ¬ n < 10) : Lib.decDigits n = Lib.decDigits (n / 10) ++ [UInt8.ofNat (48 + n % 10)] := by rw [Lib.decDigits, dif_neg h]
theorem dec_facts (n : Nat) : val (Lib.decDigits n) = n ∧ (Lib.decDigits n).all isD = true ∧ Lib.decDigits n ≠ [] ∧ (0 < n → (Lib.decDigits n).head? ≠ some 48) := by
  induction n using Nat.strongRecOn with
  | ind n ih =>
    by_cases h : n < 10
    · rw [dec_small h]
      refine ⟨?_, ?_, by simp, fun h0 => ?_⟩
      · simp only [val, valFrom, List.foldl_cons, List.foldl_nil, digit_toNat h]; omega
      · simp only [List.all_cons, List.all_nil, Bool.and_true, isD_iff, digit_toNat h]; omega
      · simp only [List.head?_cons, ne_eq, Option.some.injEq]
        intro e
        have := congrArg UInt8.toNat e
        rw [digit_toNat h] at this
        simp at this
        omega
    · obtain ⟨h1, h2, h3, h4⟩ := ih (n / 10) (by omega)
      rw [dec_big h]
      have hm : n % 10 < 10 := by omega
      refine ⟨?_, ?_, by simp, fun _ => ?_⟩
      · rw [val_snoc, h1, digit_toNat hm]; omega
      · rw [List.all_append, h2]
        simp only [List.all_cons, List.all_nil, Bool.and_true, Bool.true_and, isD_iff, digit_toNat hm]; omega
      · have := h4 (by omega)
        cases hd : Lib.decDigits (n / 10) with
        | nil => exact absurd hd h3
        | cons a t => rw [hd] at this; simpa using this
theorem val_pos {l : List UInt8} (hd : l.all isD = true) (hne : l ≠ []) (hh : l.head? ≠ some 48) : 1 ≤ val l := by
  cases l with
  | nil => exact absurd rfl hne
  | cons c l =>
    simp only [List.all_cons, Bool.and_eq_true] at hd
    have hc := isD_iff.1 hd.1
    have hc48 : c.toNat ≠ 48 := fun e => hh (by
      simp only [List.head?_cons, Option.some.injEq]
      exact UInt8.toNat_inj.1 (by simpa using e))
    have e : val (c :: l) = valFrom (10 * 0 + (c.toNat - 48)) l := valFrom_cons 0 c l
    rw [e]
    have := le_valFrom (10 * 0 + (c.toNat - 48)) l
    omega
theorem dec_val {l : List UInt8} (hd : l.all isD = true) (hne : l ≠ []) (hh : l = [48] ∨ l.head? ≠ some 48) : Lib.decDigits (val l) = l := by
  rcases hh with rfl | hh
  · exact dec_small (n := 0) (by omega)
  · have key : ∀ (k : Nat) (l : List UInt8), l.length = k → l.all isD = true → l ≠ [] → l.head? ≠ some 48 → Lib.decDigits (val l) = l := by
      intro k
      induction k with
      | zero => intro l hl _ hne _; exact absurd (List.length_eq_zero_iff.1 hl) hne
      | succ k ih =>
        intro l hl hd hne hh
        have hl2 := List.dropLast_concat_getLast hne
        obtain ⟨l', c, rfl⟩ : ∃ l' c, l = l' ++ [c] := ⟨_, _, hl2.symm⟩
        simp only [List.all_append, List.all_cons, List.all_nil, Bool.and_true, Bool.and_eq_true] at hd
        have hc := isD_iff.1 hd.2
        rw [val_snoc]
        by_cases hn : l' = []
        · subst hn
          have e : 10 * val [] + (c.toNat - 48) = c.toNat - 48 := by simp [val, valFrom]
          rw [e, dec_small (by omega), digit_back hd.2]
          rfl
        · have hh' : l'.head? ≠ some 48 := by
            cases l' with
            | nil => exact absurd rfl hn
            | cons a t => simpa using hh
          have hp := val_pos hd.1 hn hh'
          rw [dec_big (by omega)]
          have e1 : (10 * val l' + (c.toNat - 48)) / 10 = val l' := by omega
          have e2 : (10 * val l' + (c.toNat - 48)) % 10 = c.toNat - 48 := by omega
          rw [e1, e2, ih l' (by simpa using hl) hd.1 hn hh', digit_back hd.2]
    exact key _ l rfl hd hne hh

end Go.Proofs.YtdoplpgmnoefeaaDoor
