/-
  Plain mathematics: what is split, joined and moved are pools, of the same pCPUs; and leads back. No statement is proved here.
-/
import Derived.Test.YtnckfgnhlnichaaDoorVx
namespace Go.Proofs.YtnckfgnhlnichaaDoor
open Go.RowKit

theorem set_parts {l : List Nat} {j x : Nat} (hx : l[j]? = some x) (y : Nat) : l.set j y = l.take j ++ y :: l.drop (j + 1) := by
  have hj := (List.getElem?_eq_some_iff.1 hx).1
  rw [List.set_eq_take_append_cons_drop, if_pos hj]
theorem set_self {l : List Nat} {j x : Nat} (hx : l[j]? = some x) : l.set j x = l := by
  obtain ⟨hj, rfl⟩ := List.getElem?_eq_some_iff.1 hx
  exact List.set_getElem_self hj
theorem cntL_cons (x : Nat) (t : List Nat) (c : Nat) : cntL (x :: t) c = cntL [x] c + cntL t c := cntL_append [x] t c
theorem cntL_set {l : List Nat} {j x : Nat} (hx : l[j]? = some x) (y c : Nat) : cntL (l.set j y) c + bitN x c = cntL l c + bitN y c := by
  have h1 := set_parts hx y
  have h2 := set_parts hx x
  rw [set_self hx] at h2
  have e1 : cntL (l.set j y) c = cntL (l.take j) c + (bitN y c + cntL (l.drop (j + 1)) c) := by rw [h1, cntL_append, cntL_cons, cntL_one]; rfl
  have e2 : cntL l c = cntL (l.take j) c + (bitN x c + cntL (l.drop (j + 1)) c) := by
    conv => lhs; rw [h2]
    rw [cntL_append, cntL_cons, cntL_one]; rfl
  omega
theorem bitN_le (x c : Nat) : bitN x c ≤ 1 := by unfold bitN; split <;> omega
theorem bitN_pos {x c : Nat} : bitN x c = 1 ↔ x.testBit c = true := by unfold bitN; split <;> simp_all
theorem cntL_has {l : List Nat} {j x c : Nat} (hx : l[j]? = some x) : bitN x c ≤ cntL l c := by
  have := cntL_set hx 0 c
  have h0 : bitN 0 c = 0 := by simp [bitN]
  omega
theorem two_have {l : List Nat} {i j x y c : Nat} (hij : i ≠ j) (hx : l[i]? = some x) (hy : l[j]? = some y) : bitN x c + bitN y c ≤ cntL l c := by
  have h1 := cntL_set hy 0 c
  have h2 := cntL_has (c := c) (l := l.set j 0) (j := i) (x := x) (by rw [List.getElem?_set_ne (Ne.symm hij)]; exact hx)
  have h0 : bitN 0 c = 0 := by simp [bitN]
  omega
theorem sets_set {l : List Nat} {j y : Nat} (hs : setsB l = true) (hy : setB y = true) : setsB (l.set j y) = true := by
  unfold setsB at *
  rw [List.all_eq_true] at *
  intro x hx
  rcases List.mem_or_eq_of_mem_set hx with h | h
  · exact hs x h
  · rw [h]; exact hy
theorem sets_append {a b : List Nat} (ha : setsB a = true) (hb : setsB b = true) : setsB (a ++ b) = true := by
  unfold setsB at *
  rw [List.all_append, ha, hb]; rfl
theorem setB_of {x : Nat} (h8 : x < 256) (h0 : 0 < x) : setB x = true := by unfold setB; simp [h8, h0]
theorem no_both {l : List Nat} (hr : rightP l = true) {i j x y : Nat} (hij : i ≠ j) (hx : l[i]? = some x) (hy : l[j]? = some y) : x &&& y = 0 := by
  obtain ⟨_, _, hs, _⟩ := right_parts8 hr
  apply Nat.eq_of_testBit_eq
  intro c
  rw [Nat.testBit_and, Nat.zero_testBit]
  cases h1 : x.testBit c with
  | false => rfl
  | true =>
    cases h2 : y.testBit c with
    | false => rfl
    | true =>
      have hc := bit_small (sets_at hs hx).1 h1
      have := two_have (c := c) hij hx hy
      have := cnt_one8 hr hc
      rw [bitN_pos.2 h1, bitN_pos.2 h2] at *
      omega
theorem or_lt8 {x y : Nat} (h : x &&& y = 0) (hx : x < 256) (hy : y < 256) : x + y < 256 := by rw [add_or x y h]; exact Nat.or_lt_two_pow (n := 8) hx hy

/-! ### split -/
theorem split_ok {l l' : List Nat} {f k : Int} {s : Nat} (h : splitV l f s = (l', k, 0)) :
    ∃ j x : Nat, f = (j : Int) ∧ l[j]? = some x ∧ s < 256 ∧ 0 < s ∧ s &&& x = s ∧ s ≠ x ∧ l.length ≠ 4 ∧ l' = l.set j (x - s) ++ [s] ∧ k = (l.length : Int) := by
  unfold splitV at h
  split at h
  case isTrue => simp at h
  case isFalse hp =>
    split at h
    case isTrue => simp at h
    case isFalse h8 =>
      split at h
      case isTrue => simp at h
      case isFalse hw =>
        split at h
        case isTrue => simp at h
        case isFalse hne =>
          split at h
          case isTrue => simp at h
          case isFalse h4 =>
            obtain ⟨j, rfl, hj⟩ := poolB_true (show poolB l f = true by simpa using hp)
            rw [Int.toNat_natCast] at h hw hne
            have hx := at_getD hj
            generalize l.getD j 0 = x at *
            simp only [not_or] at hw
            have h8' : s < 256 := by omega
            have hww : withinV (mem (s : Int)) (x : Int) = true := by simpa using hw.2
            simp only [Prod.mk.injEq] at h
            exact ⟨j, x, rfl, hx, h8', by omega, within_and h8' hww, hne, h4, h.1.symm, h.2.1.symm⟩
theorem split_cnt {l : List Nat} {j x s : Nat} (hx : l[j]? = some x) (hs : s &&& x = s) (c : Nat) : cntL (l.set j (x - s) ++ [s]) c = cntL l c := by
  rw [cntL_append, cntL_one]
  have h1 := cntL_set hx (x - s) c
  have h2 : bitN (x - s) c + bitN s c = bitN x c := by
    unfold bitN
    rw [sub_bit hs c]
    cases h : s.testBit c with
    | false => simp
    | true =>
      have : x.testBit c = true := by
        rw [← hs, Nat.testBit_and, Bool.and_eq_true] at h
        exact h.2
      simp [this]
  show _ + bitN s c = _
  omega
theorem and_le {x s : Nat} (h : s &&& x = s) : s ≤ x := by rw [← h]; exact Nat.and_le_right
theorem split_right {l : List Nat} (hr : rightP l = true) {j x s : Nat} (hx : l[j]? = some x) (h0 : 0 < s) (h8 : s < 256) (hs : s &&& x = s) (hne : s ≠ x) (h4 : l.length ≠ 4) : rightP (l.set j (x - s) ++ [s]) = true := by
  obtain ⟨l1, l4, hsets, _⟩ := right_parts8 hr
  have hle := and_le hs
  have hx8 := (sets_at hsets hx).1
  refine right_same hr (fun c _ => split_cnt hx hs c) (by simp) (by simp; omega) (sets_append (sets_set hsets (setB_of (by omega) (by omega))) ?_)
  unfold setsB
  simp [setB_of h8 h0]
theorem split_set {l : List Nat} {j x s : Nat} : (l.set j (x - s) ++ [s]).getD l.length 0 = s := by
  rw [List.getD_eq_getElem?_getD, List.getElem?_append_right (by simp)]
  simp
theorem join_back {l : List Nat} {j x s : Nat} (hx : l[j]? = some x) (hle : s ≤ x) : joinV (l.set j (x - s) ++ [s]) (l.length : Int) (j : Int) = (l, 0) := by
  have hj := (List.getElem?_eq_some_iff.1 hx).1
  have hlen : (l.set j (x - s) ++ [s]).length = l.length + 1 := by simp
  have hK : ∀ k, k ≤ l.length → joinK (l.set j (x - s) ++ [s]) l.length j k = l.take k := by
    intro k
    induction k with
    | zero => intro _; rfl
    | succ k ih =>
      intro hk
      show (if k = l.length then _ else _) = _
      rw [if_neg (by omega), ih (by omega)]
      have hg : (l.set j (x - s) ++ [s]).getD k 0 = if k = j then x - s else l.getD k 0 := by
        rw [List.getD_eq_getElem?_getD, List.getElem?_append_left (by simp; omega), List.getElem?_set]
        split
        · rename_i he
          subst he
          simp
        · rename_i he
          rw [if_neg (fun e => he e.symm), List.getD_eq_getElem?_getD]
      rw [hg, split_set]
      have hlk := at_getD (l := l) (k := k) (by omega)
      rw [List.take_add_one, hlk]
      by_cases he : k = j
      · subst he
        rw [if_pos rfl, if_pos rfl, getD_at hx]
        show _ ++ [x - s + s] = _
        rw [Nat.sub_add_cancel hle]; rfl
      · rw [if_neg he, if_neg he]; rfl
  unfold joinV
  rw [if_neg (by rw [poolB_nat (by rw [hlen]; omega), poolB_nat (by rw [hlen]; omega)]; simp), if_neg (by omega), Int.toNat_natCast, Int.toNat_natCast, hlen]
  have : joinK (l.set j (x - s) ++ [s]) l.length j (l.length + 1) = l := by
    rw [joinK_skip, hK _ (Nat.le_refl _), List.take_length]
  rw [this]

/-! ### join -/
theorem join_ok {l l' : List Nat} {p i : Int} (h : joinV l p i = (l', 0)) : ∃ a b : Nat, p = (a : Int) ∧ i = (b : Int) ∧ a < l.length ∧ b < l.length ∧ b ≠ a ∧ l' = joinK l a b l.length := by
  unfold joinV at h
  split at h
  case isTrue => simp at h
  case isFalse hp =>
    split at h
    case isTrue => simp at h
    case isFalse hne =>
      simp only [not_or, Bool.not_eq_false] at hp
      obtain ⟨a, rfl, ha⟩ := poolB_true hp.1
      obtain ⟨b, rfl, hb⟩ := poolB_true hp.2
      simp only [Prod.mk.injEq, Int.toNat_natCast] at h
      exact ⟨a, b, rfl, rfl, ha, hb, fun e => hne (by rw [e]), h.1.symm⟩
theorem join_cnt {l : List Nat} {a b x y : Nat} (hab : b ≠ a) (hx : l[b]? = some x) (hy : l[a]? = some y) (hxy : x &&& y = 0) (c : Nat) : ∀ k, k ≤ l.length → cntL (joinK l a b k) c + (if a < k then bitN y c else 0) = cntL (l.take k) c + (if b < k then bitN y c else 0)
  | 0, _ => rfl
  | k + 1, h => by
    have ih := join_cnt hab hx hy hxy c k (by omega)
    have hz := at_getD (l := l) (k := k) (by omega)
    rw [cntL_step hz]
    by_cases hka : k = a
    · have hzy : l.getD k 0 = y := by rw [hka]; exact getD_at hy
      have ej : joinK l a b (k + 1) = joinK l a b k := by rw [hka]; exact joinK_skip
      rw [hzy, ej, if_pos (show a < k + 1 by omega)]
      rw [if_neg (show ¬ a < k by omega)] at ih
      have e : (if b < k then bitN y c else 0) = (if b < k + 1 then bitN y c else 0) := by
        by_cases hbk : b < k
        · rw [if_pos hbk, if_pos (by omega)]
        · rw [if_neg hbk, if_neg (by omega)]
      rw [← e]
      show _ + bitN y c = _ + (bitN y c) + _
      omega
    · by_cases hkb : k = b
      · have hzx : l.getD k 0 = x := by rw [hkb]; exact getD_at hx
        have ej : joinK l a b (k + 1) = joinK l a b k ++ [x + y] := by rw [hkb]; exact joinK_into hab hx hy
        rw [hzx, ej, cntL_append, cntL_one]
        have hb2 : bitN (x + y) c = bitN x c + bitN y c := by
          have h1 : ¬ (x.testBit c = true ∧ y.testBit c = true) := fun hh => by
            have h3 : (x &&& y).testBit c = true := by rw [Nat.testBit_and, hh.1, hh.2]; rfl
            rw [hxy] at h3
            simp at h3
          unfold bitN
          rw [add_bit hxy c]
          cases hxc : x.testBit c <;> cases hyc : y.testBit c <;> simp_all
        rw [if_pos (show b < k + 1 by omega)]
        rw [if_neg (show ¬ b < k by omega)] at ih
        have e : (if a < k then bitN y c else 0) = (if a < k + 1 then bitN y c else 0) := by
          by_cases hak : a < k
          · rw [if_pos hak, if_pos (by omega)]
          · rw [if_neg hak, if_neg (by omega)]
        rw [← e]
        show _ + bitN (x + y) c + _ = _ + (bitN x c) + _
        omega
      · rw [joinK_else hka hkb hz, cntL_append, cntL_one]
        have e1 : (if a < k then bitN y c else 0) = (if a < k + 1 then bitN y c else 0) := by
          by_cases hak : a < k
          · rw [if_pos hak, if_pos (by omega)]
          · rw [if_neg hak, if_neg (by omega)]
        have e2 : (if b < k then bitN y c else 0) = (if b < k + 1 then bitN y c else 0) := by
          by_cases hbk : b < k
          · rw [if_pos hbk, if_pos (by omega)]
          · rw [if_neg hbk, if_neg (by omega)]
        rw [← e1, ← e2]
        omega
theorem joinK_length {l : List Nat} {a b : Nat} : ∀ k, (joinK l a b k).length = k - (if a < k then 1 else 0)
  | 0 => rfl
  | k + 1 => by
    have ih := joinK_length (l := l) (a := a) (b := b) k
    by_cases hka : k = a
    · subst hka
      rw [joinK_skip, ih, if_neg (by omega), if_pos (by omega)]
      omega
    · show (if k = a then _ else _ : List Nat).length = _
      rw [if_neg hka, List.length_append, ih, List.length_singleton]
      by_cases hak : a < k
      · rw [if_pos hak, if_pos (by omega)]
        omega
      · rw [if_neg hak, if_neg (by omega)]
        omega
theorem joinK_sets {l : List Nat} (hs : setsB l = true) {a b x y : Nat} (hab : b ≠ a) (hx : l[b]? = some x) (hy : l[a]? = some y) (hxy : x &&& y = 0) : ∀ k, k ≤ l.length → setsB (joinK l a b k) = true
  | 0, _ => rfl
  | k + 1, h => by
    have ih := joinK_sets hs hab hx hy hxy k (by omega)
    have hz := at_getD (l := l) (k := k) (by omega)
    by_cases hka : k = a
    · have ej : joinK l a b (k + 1) = joinK l a b k := by rw [hka]; exact joinK_skip
      rw [ej]; exact ih
    · by_cases hkb : k = b
      · have ej : joinK l a b (k + 1) = joinK l a b k ++ [x + y] := by rw [hkb]; exact joinK_into hab hx hy
        rw [ej]
        refine sets_append ih ?_
        have h1 := sets_at hs hx
        have h2 := sets_at hs hy
        unfold setsB
        simp [setB_of (or_lt8 hxy h1.1 h2.1) (by omega)]
      · rw [joinK_else hka hkb hz]
        refine sets_append ih ?_
        have h1 := sets_at hs hz
        unfold setsB
        rw [List.all_cons, List.all_nil, Bool.and_true]
        exact setB_of h1.1 h1.2
theorem join_right {l : List Nat} (hr : rightP l = true) {a b : Nat} (ha : a < l.length) (hb : b < l.length) (hab : b ≠ a) : rightP (joinK l a b l.length) = true ∧ ∀ c, cntL (joinK l a b l.length) c = cntL l c := by
  obtain ⟨l1, l4, hs, _⟩ := right_parts8 hr
  have hx := at_getD hb
  have hy := at_getD ha
  have hxy := no_both hr hab hx hy
  have hc : ∀ c, cntL (joinK l a b l.length) c = cntL l c := fun c => by
    have := join_cnt hab hx hy hxy c l.length (Nat.le_refl _)
    rw [if_pos ha, if_pos hb, List.take_length] at this
    omega
  have hlen := joinK_length (l := l) (a := a) (b := b) l.length
  rw [if_pos ha] at hlen
  exact ⟨right_same hr (fun c _ => hc c) (by omega) (by omega) (joinK_sets hs hab hx hy hxy _ (Nat.le_refl _)), hc⟩

end Go.Proofs.YtnckfgnhlnichaaDoor
