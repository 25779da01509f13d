/-
  Sets within one another; the contract of the document's Within. No statement is proved here.
-/
import Derived.Test.YtnckfgnhlnichaaDoorVa
namespace Go.Proofs.YtnckfgnhlnichaaDoor
open Go.RowKit

theorem mem_iff {s : Nat} {x : Int} : x ∈ mem (s : Int) ↔ ∃ k : Nat, k < 8 ∧ x = (k : Int) ∧ s.testBit k = true := by
  unfold mem memb
  rw [List.mem_filter, List.mem_map]
  constructor
  · rintro ⟨⟨k, hk, rfl⟩, hb⟩
    have h8 := List.mem_range.1 hk
    exact ⟨k, h8, rfl, by rwa [has_bit h8] at hb⟩
  · rintro ⟨k, hk, rfl, hb⟩
    exact ⟨⟨k, List.mem_range.2 hk, rfl⟩, by rw [has_bit hk]; exact hb⟩
theorem within_iff {s t : Nat} : withinV (mem (s : Int)) (t : Int) = true ↔ ∀ k, k < 8 → s.testBit k = true → t.testBit k = true := by
  unfold withinV
  rw [List.all_eq_true]
  constructor
  · intro h k hk hb
    have := h (k : Int) (mem_iff.2 ⟨k, hk, rfl, hb⟩)
    rwa [has_bit hk] at this
  · intro h x hx
    obtain ⟨k, hk, rfl, hb⟩ := mem_iff.1 hx
    rw [has_bit hk]
    exact h k hk hb
theorem bit_small {s k : Nat} (h : s < 256) (hb : s.testBit k = true) : k < 8 := by
  rcases Nat.lt_or_ge k 8 with h8 | h8
  · exact h8
  · have h2 : s < 2 ^ k := Nat.lt_of_lt_of_le h (Nat.pow_le_pow_right (show 0 < 2 by omega) h8)
    rw [Nat.testBit_lt_two_pow h2] at hb
    cases hb
theorem within_and {s t : Nat} (h8 : s < 256) (h : withinV (mem (s : Int)) (t : Int) = true) : s &&& t = s := by
  apply Nat.eq_of_testBit_eq
  intro k
  rw [Nat.testBit_and]
  cases hb : s.testBit k with
  | false => rfl
  | true => rw [within_iff.1 h k (bit_small h8 hb) hb]; rfl
theorem within_le {s t : Nat} (h8 : s < 256) (h : withinV (mem (s : Int)) (t : Int) = true) : s ≤ t := by
  have := Nat.and_le_right (n := s) (m := t)
  rwa [within_and h8 h] at this

theorem within_yes {l : List Int} {k : Nat} {x t : Int} (h : l[k]? = some x) (ha : hasB t x = true) : withinV (l.drop k) t = withinV (l.drop (k + 1)) t := by
  rw [drop_at h]
  simp [withinV, ha]
theorem within_no {l : List Int} {k : Nat} {x t : Int} (h : l[k]? = some x) (ha : hasB t x = false) : withinV (l.drop k) t = false := by
  rw [drop_at h]
  simp [withinV, ha]
theorem within_end (l : List Int) (t : Int) : withinV (l.drop l.length) t = true := by
  rw [List.drop_length]
  rfl


end Go.Proofs.YtnckfgnhlnichaaDoor
