/-
  The contracts of what Parse calls: strings.Cut at a point, isDigits, number. No statement is proved here.
-/
import Derived.Test.YtdoplpgmnoefeaaDoorTn
import Derived.Lib.IndexLaws
namespace Go.Proofs.YtdoplpgmnoefeaaDoor
open Go.RowKit

theorem bytes_back (s : ByteArray) : (⟨s.data.toList.toArray⟩ : ByteArray) = s := by
  obtain ⟨⟨l⟩⟩ := s
  rfl
theorem str_of {l : List UInt8} {s : ByteArray} (h : s.data.toList = l) : (⟨l.toArray⟩ : ByteArray) = s := by
  subst h
  exact bytes_back s

theorem ahead_none {l : List UInt8} (h : ∀ k : Nat, l[k]? ≠ some 46) : ahead l = l ∧ onward l = [] := by
  have hp : ∀ a ∈ l, (a != (46 : UInt8)) = true := fun a ha => by
    obtain ⟨k, hk⟩ := List.getElem?_of_mem ha
    simp only [bne_iff_ne, ne_eq]
    rintro rfl
    exact h k hk
  constructor
  · unfold ahead
    rw [← List.append_nil l, List.takeWhile_append_of_pos hp]
    rfl
  · unfold onward
    rw [← List.append_nil l, List.dropWhile_append_of_pos hp]
    rfl
theorem ahead_some {l : List UInt8} {o : Nat} (h : l[o]? = some 46) (hb : ∀ k : Nat, k < o → l[k]? ≠ some 46) : ahead l = l.take o ∧ onward l = l.drop o ∧ o < l.length := by
  have hlt : o < l.length := (List.getElem?_eq_some_iff.1 h).1
  have hp : ∀ a ∈ l.take o, (a != (46 : UInt8)) = true := fun a ha => by
    obtain ⟨k, hk⟩ := List.getElem?_of_mem ha
    have hk' := (List.getElem?_eq_some_iff.1 hk).1
    simp only [List.length_take] at hk'
    rw [List.getElem?_take_of_lt (by omega)] at hk
    simp only [bne_iff_ne, ne_eq]
    rintro rfl
    exact hb k (by omega) hk
  have hd : l.drop o = 46 :: l.drop (o + 1) := by
    rw [List.drop_eq_getElem_cons hlt]
    rw [List.getElem?_eq_getElem hlt] at h
    injection h with h
    rw [h]
  refine ⟨?_, ?_, hlt⟩
  · unfold ahead
    conv => lhs; rw [← List.take_append_drop o l]
    rw [List.takeWhile_append_of_pos hp, hd]
    simp
  · unfold onward
    conv => lhs; rw [← List.take_append_drop o l]
    rw [List.dropWhile_append_of_pos hp, hd]
    simp

/-- what stands behind the point; is there one? -/
def rear (l : List UInt8) : List UInt8 := (onward l).drop 1
def pointed (l : List UInt8) : Bool := !(onward l).isEmpty
/-- cut at the first point -/
def Cut3 (l : List UInt8) (w : World) (e : Ending) (w' : World) : Prop :=
  e = .returned (.tuple #[.string ⟨(ahead l).toArray⟩, .string ⟨(rear l).toArray⟩, .bool (pointed l)]) ∧ Below w.heap.size w w'

set_option maxHeartbeats 400000 in
theorem lcut_any (s : ByteArray) (hs : s.size ≤ 1000) (w : World) : Calls Tryd.prog 44 #[.string s, .string ⟨#[46]⟩] w (Cut3 s.data.toList w) := by
  have hI := Tryd.stringslite_Index_one s 46 w
  by_cases hi : Lib.indexByte s.data.toList 46 = -1
  · rw [hi] at hI
    obtain ⟨h1, h2⟩ := ahead_none (Lib.indexByte_none hi)
    have HE : Hid ((⟨(ahead s.data.toList).toArray⟩ : ByteArray) = s ∧ onward s.data.toList = []) := Lib.hid ⟨str_of h1.symm, h2⟩
    have HI := Lib.hid hI
    clear hi hI h1 h2
    go_enter Tryd.func44, Tryd.ntmps44
    go_wp2_with fail
    refine HI.out.mono ?_
    rintro e w' ⟨rfl, rfl⟩
    go_wp2
    go_ret3
    refine ⟨?_, Below.refl _ _⟩
    unfold pointed rear
    rw [HE.out.1, HE.out.2]
    rfl
  · have hge := Lib.indexByte_ge s.data.toList 46
    obtain ⟨o, ho⟩ : ∃ o : Nat, Lib.indexByte s.data.toList 46 = o := ⟨_, (Int.toNat_of_nonneg (by omega)).symm⟩
    rw [ho] at hI
    obtain ⟨h1, h2⟩ := Lib.indexByte_some ho
    obtain ⟨h3, h4, hlt⟩ := ahead_some h1 h2
    rw [← Lib.size_eq] at hlt
    have HE : Hid (s.extract 0 o = (⟨(ahead s.data.toList).toArray⟩ : ByteArray) ∧ s.extract (o + 1) s.size = (⟨((onward s.data.toList).drop 1).toArray⟩ : ByteArray) ∧ (onward s.data.toList).isEmpty = false) :=
      Lib.hid ⟨(str_of (by rw [Lib.extract_data, h3]; simp)).symm, (str_of (by rw [Lib.extract_to_end, h4, List.drop_drop])).symm, by
        rw [h4, List.isEmpty_eq_false_iff]
        intro e
        have := congrArg List.length e
        rw [List.length_drop, ← Lib.size_eq] at this
        simp at this
        omega⟩
    have HI := Lib.hid hI
    clear hi hI h1 h2 h3 h4 ho hge
    have e1 : IntKind.i64.wrap ((o : Int) + 1) = (o : Int) + 1 := IntWalk.i64_in _ (by omega)
    have e2 : (0 : Int) ≤ (o : Int) + 1 := by omega
    have e3 : ((o : Int) + 1).toNat = o + 1 := by omega
    go_enter Tryd.func44, Tryd.ntmps44
    go_wp2_with fail
    refine HI.out.mono ?_
    rintro e w' ⟨rfl, rfl⟩
    go_wp2
    go_quiet (fail)
    go_wp2
    go_ret3
    refine ⟨?_, rfl, rfl, rfl, Nat.le_refl _, fun _ _ => rfl⟩
    unfold pointed rear
    rw [← HE.out.1, ← HE.out.2.1, HE.out.2.2]
    rfl

theorem cut_any (s : ByteArray) (hs : s.size ≤ 1000) (w : World) : Calls Tryd.prog 35 #[.string s, .string ⟨#[46]⟩] w (Cut3 s.data.toList w) := by
  have HI := Lib.hid (lcut_any s hs w)
  go_enter Tryd.func35, Tryd.ntmps35
  go_wp2_with fail
  refine HI.out.mono ?_
  rintro e w' ⟨rfl, hB⟩
  go_wp2
  go_ret3
  exact ⟨rfl, hB⟩

def digitsL (l : List UInt8) : Bool := l.all isD && !l.isEmpty
theorem take_snoc (s : ByteArray) (k : Nat) (h : k < s.size) : s.data.toList.take (k + 1) = s.data.toList.take k ++ [s[k]] := by
  rw [List.take_succ_eq_append_getElem (by simpa using h)]; rfl
theorem get_at (s : ByteArray) (k : Nat) (h : k < s.size) : s.data.toList[k]? = some s[k] := by
  rw [List.getElem?_eq_getElem (by simpa using h)]; rfl

set_option maxHeartbeats 400000 in
theorem digits_any (s : ByteArray) (hs : s.size ≤ 1000) (w : World) : Calls Tryd.prog 45 #[.string s] w fun e w' => e = .returned (.bool (digitsL s.data.toList)) ∧ w = w' := by
  go_enter Tryd.func45, Tryd.ntmps45
  go_wp2
  go_loop [6] (fun i => ∃ k : Nat, k ≤ s.size ∧ i = .int .i64 k ∧ (s.data.toList.take k).all isD = true) (fun i => s.size - (intOf i).toNat)
  case atStart => exact ⟨0, by omega, rfl, rfl⟩
  case round =>
    obtain ⟨k, hk, rfl, hall⟩ := hrel
    have HA := Lib.hid hall
    clear hall
    by_cases hlt : k < s.size
    · have HT := Lib.hid (take_snoc s k hlt)
      have HG := Lib.hid (get_at s k hlt)
      have hbad : isD s[k] = false → digitsL s.data.toList = false := fun hd => by
        have : s.data.toList.all isD = false := List.all_eq_false.2 ⟨s[k], List.mem_of_getElem? HG.out, by simp [hd]⟩
        simp [digitsL, this]
      have HB := Lib.hid hbad
      clear hbad
      by_cases h0 : (s[k].toNat : Int) < 48
      · go_wp2
        go_ret
        exact ⟨ret_bool (HB.out (by simp [isD]; omega)).symm, rfl⟩
      · by_cases h1 : 57 < (s[k].toNat : Int)
        · go_wp2
          go_ret
          exact ⟨ret_bool (HB.out (by simp [isD]; omega)).symm, rfl⟩
        · go_wp2
          go_round
          case rel =>
            refine ⟨k + 1, by omega, by go_num, ?_⟩
            rw [HT.out, List.all_append, HA.out]
            simp [isD]; omega
          case measure => simp [intOf]; omega
    · obtain rfl : s.size = k := by omega
      have HD : Hid ((!s.toList.isEmpty) = digitsL s.data.toList) := Lib.hid (by
        have := HA.out
        rw [List.take_of_length_le (by simp)] at this
        simp [digitsL, this, Lib.toList_data])
      go_wp2
      go_ret
      exact ⟨ret_bool HD.out, rfl⟩

/-- the number that the first k of digits and noughts behind them are -/
def numAt (l : List UInt8) (k : Nat) : Nat := val (l.take k) * 10 ^ (k - l.length)
theorem numAt_in {l : List UInt8} {k : Nat} {c : UInt8} (h : l[k]? = some c) (hc : isD c = true) : ((numAt l (k + 1) : Nat) : Int) = (numAt l k : Int) * 10 + ((c.toNat : Int) - 48) := by
  have hk := (List.getElem?_eq_some_iff.1 h).1
  have hc' := isD_iff.1 hc
  unfold numAt
  rw [List.take_add_one, h, show k + 1 - l.length = 0 by omega, show k - l.length = 0 by omega]
  have : (some c).toList = [c] := rfl
  rw [this, val_snoc]
  simp
  omega
theorem numAt_out {l : List UInt8} {k : Nat} (h : l.length ≤ k) : ((numAt l (k + 1) : Nat) : Int) = (numAt l k : Int) * 10 := by
  unfold numAt
  rw [List.take_of_length_le (by omega), List.take_of_length_le h, show k + 1 - l.length = (k - l.length) + 1 by omega, Nat.pow_succ]
  simp [Int.mul_assoc]
theorem numAt_lt {l : List UInt8} (hd : l.all isD = true) (k : Nat) : numAt l k < 10 ^ k := by
  unfold numAt
  have h1 : (l.take k).all isD = true := List.all_eq_true.2 fun x hx => List.all_eq_true.1 hd x (List.mem_of_mem_take hx)
  have h2 := val_lt h1
  rw [List.length_take] at h2
  have h3 : 10 ^ (min k l.length) * 10 ^ (k - l.length) = 10 ^ k := by rw [← Nat.pow_add]; congr 1; omega
  rw [← h3]
  exact Nat.mul_lt_mul_of_pos_right h2 (Nat.pow_pos (by omega))

set_option maxHeartbeats 400000 in
theorem number_any (s : ByteArray) (n : Nat) (hd : s.data.toList.all isD = true) (hn : n ≤ 9) (w : World) :
    Calls Tryd.prog 38 #[.string s, .int .i64 (n : Int)] w fun e w' => e = .returned (.int .i64 (numAt s.data.toList n : Int)) ∧ w = w' := by
  have HD := Lib.hid hd
  clear hd
  go_enter Tryd.func38, Tryd.ntmps38
  go_wp2
  go_loop [5, 8] (fun x i => ∃ k : Nat, k ≤ n ∧ i = .int .i64 k ∧ x = .int .i64 (numAt s.data.toList k : Int)) (fun _ i => n - (intOf i).toNat)
  case atStart => exact ⟨0, by omega, rfl, by simp [numAt, val, valFrom]⟩
  case round =>
    obtain ⟨k, hk, rfl, rfl⟩ := hrel
    by_cases hlt : k < n
    · have hX : numAt s.data.toList k < 1000000000 := Nat.lt_of_lt_of_le (numAt_lt HD.out k) (Nat.pow_le_pow_right (by omega) (show k ≤ 9 by omega))
      by_cases hin : k < s.size
      · have hg := get_at s k hin
        have hdg : isD s[k] = true := List.all_eq_true.1 HD.out _ (List.mem_of_getElem? hg)
        have hb := isD_iff.1 hdg
        have HN := Lib.hid (numAt_in hg hdg)
        have b0 : 48 ≤ (s[k].toNat : Int) := by omega
        have b1 : (s[k].toNat : Int) ≤ 57 := by omega
        have bX : (numAt s.data.toList k : Int) < 1000000000 := by omega
        clear hg hdg hb hX
        generalize numAt s.data.toList k = X at *
        go_wp2
        go_round
        case rel => exact ⟨k + 1, by omega, by go_num, by rw [HN.out]⟩
        case measure => simp [intOf]; omega
      · have HN := Lib.hid (numAt_out (l := s.data.toList) (k := k) (by rw [← Lib.size_eq]; omega))
        have bX : (numAt s.data.toList k : Int) < 1000000000 := by omega
        clear hX
        generalize numAt s.data.toList k = X at *
        go_wp2
        go_round
        case rel => exact ⟨k + 1, by omega, by go_num, by rw [HN.out]⟩
        case measure => simp [intOf]; omega
    · obtain rfl : n = k := by omega
      go_wp2
      go_ret
      exact ⟨rfl, rfl⟩

end Go.Proofs.YtdoplpgmnoefeaaDoor
