/-
  Plain mathematics: what is moved are pools, of the same pCPUs, and leads back; which pCPUs there are. No statement is proved here.
-/
import Derived.Test.YtnckfgnhlnichaaDoorVy
namespace Go.Proofs.YtnckfgnhlnichaaDoor
open Go.RowKit

theorem move_ok {l l' : List Nat} {c t k : Int} (h : moveV l c t = (l', k, 0)) :
    ∃ j b n x y : Nat, k = (j : Int) ∧ t = (b : Int) ∧ c = (n : Int) ∧ n < 8 ∧ ofV l c = ((j : Int), true) ∧ j ≠ b ∧ l[j]? = some x ∧ l[b]? = some y ∧ x.testBit n = true ∧ 2 ^ n ≤ x ∧ cardN x ≠ 1 ∧ l' = (l.set j (x - 2 ^ n)).set b (y + 2 ^ n) := by
  unfold moveV at h
  split at h
  case isTrue => simp at h
  case isFalse hp =>
    split at h
    case isTrue => simp at h
    case isFalse ho =>
      split at h
      case isTrue => simp at h
      case isFalse hne =>
        split at h
        case isTrue => simp at h
        case isFalse hc1 =>
          obtain ⟨b, rfl, hb⟩ := poolB_true (show poolB l t = true by simpa using hp)
          obtain ⟨q, hq⟩ : ∃ q, ofV l c = q := ⟨_, rfl⟩
          obtain ⟨o1, o2⟩ := q
          rw [hq] at h ho hne hc1
          obtain rfl : o2 = true := by simpa using ho
          obtain ⟨j, rfl, hj, hjb, _⟩ := of_there hq
          obtain ⟨n, rfl, n8, hbit, hle⟩ := has_pow hjb
          simp only [Prod.mk.injEq, Int.toNat_natCast] at h hc1
          exact ⟨j, b, n, l.getD j 0, l.getD b 0, h.2.1.symm, rfl, rfl, n8, hq, fun e => hne (by rw [e]), at_getD hj, at_getD hb, hbit, hle, hc1, h.1.symm⟩
theorem pow_and {x n : Nat} (h : x.testBit n = true) : 2 ^ n &&& x = 2 ^ n := by rw [Nat.and_comm, and_two, if_pos h]
theorem pow_no {y n : Nat} (h : y.testBit n = false) : y &&& 2 ^ n = 0 := by rw [and_two, if_neg (by rw [h]; simp)]
theorem bit_pow (n c : Nat) : bitN (2 ^ n) c = if n = c then 1 else 0 := by
  unfold bitN
  rw [Nat.testBit_two_pow]
  by_cases h : n = c <;> simp [h]
theorem bit_out {x n : Nat} (h : x.testBit n = true) (c : Nat) : bitN (x - 2 ^ n) c + bitN (2 ^ n) c = bitN x c := by
  have hb := sub_bit (pow_and h) c
  rw [bit_pow]
  unfold bitN
  rw [hb, Nat.testBit_two_pow]
  by_cases e : n = c
  · subst e; simp [h]
  · simp [e]
theorem bit_in8 {y n : Nat} (h : y.testBit n = false) (c : Nat) : bitN (y + 2 ^ n) c = bitN y c + bitN (2 ^ n) c := by
  have hb := add_bit (pow_no h) c
  rw [bit_pow]
  unfold bitN
  rw [hb, Nat.testBit_two_pow]
  by_cases e : n = c
  · subst e; simp [h]
  · simp [e]
theorem not_there {l : List Nat} (hr : rightP l = true) {j b x y n : Nat} (hjb : j ≠ b) (hx : l[j]? = some x) (hy : l[b]? = some y) (n8 : n < 8) (h : x.testBit n = true) : y.testBit n = false := by
  cases hb : y.testBit n with
  | false => rfl
  | true =>
    have h1 := two_have (c := n) hjb hx hy
    have h2 := cnt_one8 hr n8
    rw [bitN_pos.2 h, bitN_pos.2 hb] at h1
    omega
theorem move_cnt {l : List Nat} {j b x y n : Nat} (hjb : j ≠ b) (hx : l[j]? = some x) (hy : l[b]? = some y) (h : x.testBit n = true) (h2 : y.testBit n = false) (c : Nat) : cntL ((l.set j (x - 2 ^ n)).set b (y + 2 ^ n)) c = cntL l c := by
  have e1 := cntL_set hx (x - 2 ^ n) c
  have e2 := cntL_set (l := l.set j (x - 2 ^ n)) (j := b) (x := y) (by rw [List.getElem?_set_ne hjb]; exact hy) (y + 2 ^ n) c
  have e3 := bit_out h c
  have e4 := bit_in8 h2 c
  omega
def oneB (z : Nat) : Bool := (List.range 8).all fun n => !(z.testBit n && cardN z == 1) || z == 2 ^ n
theorem one_all : (List.range 256).all oneB = true := by kernel_rfl
/-- a set of one pCPU is that pCPU's -/
theorem one_pow {z n : Nat} (hz : z < 256) (n8 : n < 8) (hb : z.testBit n = true) (h1 : cardN z = 1) : z = 2 ^ n := by
  have h := List.all_eq_true.1 one_all z (List.mem_range.2 hz)
  have := List.all_eq_true.1 h n (List.mem_range.2 n8)
  rw [hb, h1] at this
  simpa using this
def powB (n : Nat) : Bool := cardN (2 ^ n) == 1
theorem pow_card {n : Nat} (h : n < 8) : cardN (2 ^ n) = 1 := by
  have := List.all_eq_true.1 (show (List.range 8).all powB = true by kernel_rfl) n (List.mem_range.2 h)
  unfold powB at this
  simpa using this
theorem move_right {l : List Nat} (hr : rightP l = true) {j b x y n : Nat} (hjb : j ≠ b) (hx : l[j]? = some x) (hy : l[b]? = some y) (n8 : n < 8) (h : x.testBit n = true) (hle : 2 ^ n ≤ x) (hc : cardN x ≠ 1) : rightP ((l.set j (x - 2 ^ n)).set b (y + 2 ^ n)) = true := by
  obtain ⟨l1, l4, hs, _⟩ := right_parts8 hr
  have h2 := not_there hr hjb hx hy n8 h
  have hx8 := sets_at hs hx
  have hy8 := sets_at hs hy
  have hne : x ≠ 2 ^ n := fun e => hc (by rw [e]; exact pow_card n8)
  have hp8 : (2 : Nat) ^ n < 256 := Nat.pow_lt_pow_right (m := n) (n := 8) (by omega) n8
  exact right_same hr (fun c _ => move_cnt hjb hx hy h h2 c) (by simp; omega) (by simp; omega)
    (sets_set (sets_set hs (setB_of (Nat.lt_of_le_of_lt (Nat.sub_le _ _) hx8.1) (Nat.sub_pos_of_lt (Nat.lt_of_le_of_ne hle (Ne.symm hne))))) (setB_of (or_lt8 (pow_no h2) hy8.1 hp8) (Nat.lt_of_lt_of_le hy8.2 (Nat.le_add_right _ _))))
theorem move_of {l : List Nat} (hr : rightP l = true) {j b x y n : Nat} (hjb : j ≠ b) (hx : l[j]? = some x) (hy : l[b]? = some y) (n8 : n < 8) (h : x.testBit n = true) (hle : 2 ^ n ≤ x) (hc : cardN x ≠ 1) : ofV ((l.set j (x - 2 ^ n)).set b (y + 2 ^ n)) (n : Int) = ((b : Int), true) := by
  have hr2 := move_right hr hjb hx hy n8 h hle hc
  have h2 := not_there hr hjb hx hy n8 h
  have hbl := (List.getElem?_eq_some_iff.1 hy).1
  have hbb : ((l.set j (x - 2 ^ n)).set b (y + 2 ^ n))[b]? = some (y + 2 ^ n) := by rw [List.getElem?_set_self (by rw [List.length_set]; exact hbl)]
  have hbit : (y + 2 ^ n).testBit n = true := by rw [add_bit (pow_no h2), Nat.testBit_two_pow]; simp
  generalize (l.set j (x - 2 ^ n)).set b (y + 2 ^ n) = L at *
  have h1 : cntL L n = 1 := by
    have := cntL_has (c := n) hbb
    rw [bitN_pos.2 hbit] at this
    have := cnt_one8 hr2 n8
    omega
  have h3 := (of_cnt n8).2 h1
  obtain ⟨q, hq⟩ : ∃ q, ofV L (n : Int) = q := ⟨_, rfl⟩
  obtain ⟨o1, o2⟩ := q
  rw [hq] at h3
  obtain rfl : o2 = true := h3
  obtain ⟨i, rfl, hi, hib, hu⟩ := of_there hq
  have := hu b (List.getElem?_eq_some_iff.1 hbb).1 (by rw [getD_at hbb, has_bit n8]; exact hbit)
  rw [hq, this]
theorem move_back {l : List Nat} (hr : rightP l = true) {j b x y n : Nat} (hjb : j ≠ b) (hx : l[j]? = some x) (hy : l[b]? = some y) (n8 : n < 8) (h : x.testBit n = true) (hle : 2 ^ n ≤ x) (hc : cardN x ≠ 1) : moveV ((l.set j (x - 2 ^ n)).set b (y + 2 ^ n)) (n : Int) (j : Int) = (l, (b : Int), 0) := by
  have ho := move_of hr hjb hx hy n8 h hle hc
  have h2 := not_there hr hjb hx hy n8 h
  obtain ⟨_, _, hs, _⟩ := right_parts8 hr
  have hy8 := sets_at hs hy
  have hp8 : (2 : Nat) ^ n < 256 := Nat.pow_lt_pow_right (m := n) (n := 8) (by omega) n8
  have hjl := (List.getElem?_eq_some_iff.1 hx).1
  have hbl := (List.getElem?_eq_some_iff.1 hy).1
  have hbb : ((l.set j (x - 2 ^ n)).set b (y + 2 ^ n)).getD b 0 = y + 2 ^ n := getD_at (by rw [List.getElem?_set_self (by rw [List.length_set]; exact hbl)])
  have hjj : ((l.set j (x - 2 ^ n)).set b (y + 2 ^ n)).getD j 0 = x - 2 ^ n := getD_at (by rw [List.getElem?_set_ne (Ne.symm hjb), List.getElem?_set_self hjl])
  have hbit : (y + 2 ^ n).testBit n = true := by rw [add_bit (pow_no h2), Nat.testBit_two_pow]; simp
  unfold moveV
  rw [if_neg (by rw [poolB_nat (by simp; omega)]; simp), ho, if_neg (by simp), if_neg (by omega)]
  simp only [Int.toNat_natCast]
  rw [hbb, hjj, if_neg (fun e => by
    have := one_pow (or_lt8 (pow_no h2) hy8.1 hp8) n8 hbit e
    omega)]
  have e1 : ((l.set j (x - 2 ^ n)).set b (y + 2 ^ n)).set b (y + 2 ^ n - 2 ^ n) = l.set j (x - 2 ^ n) := by
    rw [List.set_set, Nat.add_sub_cancel]
    exact set_self (by rw [List.getElem?_set_ne hjb]; exact hy)
  have e2 : (l.set j (x - 2 ^ n)).set j (x - 2 ^ n + 2 ^ n) = l := by
    rw [List.set_set, Nat.sub_add_cancel hle]
    exact set_self hx
  rw [e1, e2]

/-! ### which pCPUs there are -/
theorem or_bits {l : List Nat} (c : Nat) : ∀ k, k ≤ l.length → (orK l k).testBit c = decide (0 < cntL (l.take k) c)
  | 0, _ => by simp [orK, cntL]
  | k + 1, h => by
    have ih := or_bits (l := l) c k (by omega)
    have hz := at_getD (l := l) (k := k) (by omega)
    show (orK l k ||| l.getD k 0).testBit c = _
    rw [Nat.testBit_or, ih, cntL_step hz]
    cases hb : (l.getD k 0).testBit c with
    | true => simp
    | false => simp
theorem cnt_far {l : List Nat} (hs : setsB l = true) {c : Nat} (hc : 8 ≤ c) : cntL l c = 0 := by
  unfold cntL
  rw [List.countP_eq_zero]
  intro x hx hb
  obtain ⟨k, hk, rfl⟩ := List.getElem_of_mem hx
  have h8 := (sets_at hs (List.getElem?_eq_getElem hk)).1
  have := bit_small h8 hb
  omega
theorem cpus_same {l l' : List Nat} (hr : rightP l = true) (hr' : rightP l' = true) (hc : ∀ c, c < 8 → cntL l' c = cntL l c) : cpusR l' = cpusR l := by
  obtain ⟨_, _, hs, _⟩ := right_parts8 hr
  obtain ⟨_, _, hs', _⟩ := right_parts8 hr'
  unfold cpusR
  rw [if_pos hr, if_pos hr']
  apply Nat.eq_of_testBit_eq
  intro c
  rw [or_bits c _ (Nat.le_refl _), or_bits c _ (Nat.le_refl _), List.take_length, List.take_length]
  rcases Nat.lt_or_ge c 8 with h | h
  · rw [hc c h]
  · rw [cnt_far hs h, cnt_far hs' h]

end Go.Proofs.YtnckfgnhlnichaaDoor
