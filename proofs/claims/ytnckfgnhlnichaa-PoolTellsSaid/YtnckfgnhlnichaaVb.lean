/-
  Sets within one another; the contract of the document's Within. No statement is proved here.
-/
import Derived.Test.YtnckfgnhlnichaaVa
namespace Go.Proofs.Ytnckfgnhlnichaa
open Go.RowKit

theorem mem_iff {s : Nat} {x : Int} : x ∈ mem (s : Int) ↔ ∃ k : Nat, k < 8 ∧ x = (k : Int) ∧ s.testBit k = true := by
  unfold mem memb
  rw [List.mem_filter, List.mem_map]
  constructor
  · rintro ⟨⟨k, hk, rfl⟩, hb⟩
    have h8 := List.mem_range.1 hk
    exact ⟨k, h8, rfl, by rwa [has_bit h8] at hb⟩
  · rintro ⟨k, hk, rfl, hb⟩
    exact ⟨⟨k, List.mem_range.2 hk, rfl⟩, by rw [has_bit hk]; exact hb⟩
theorem within_iff {s t : Nat} : withinV (mem (s : Int)) (t : Int) = true ↔ ∀ k, k < 8 → s.testBit k = true → t.testBit k = true := by
  unfold withinV
  rw [List.all_eq_true]
  constructor
  · intro h k hk hb
    have := h (k : Int) (mem_iff.2 ⟨k, hk, rfl, hb⟩)
    rwa [has_bit hk] at this
  · intro h x hx
    obtain ⟨k, hk, rfl, hb⟩ := mem_iff.1 hx
    rw [has_bit hk]
    exact h k hk hb
theorem bit_small {s k : Nat} (h : s < 256) (hb : s.testBit k = true) : k < 8 := by
  rcases Nat.lt_or_ge k 8 with h8 | h8
  · exact h8
  · have h2 : s < 2 ^ k := Nat.lt_of_lt_of_le h (Nat.pow_le_pow_right (show 0 < 2 by omega) h8)
    rw [Nat.testBit_lt_two_pow h2] at hb
    cases hb
theorem within_and {s t : Nat} (h8 : s < 256) (h : withinV (mem (s : Int)) (t : Int) = true) : s &&& t = s := by
  apply Nat.eq_of_testBit_eq
  intro k
  rw [Nat.testBit_and]
  cases hb : s.testBit k with
  | false => rfl
  | true => rw [within_iff.1 h k (bit_small h8 hb) hb]; rfl
theorem within_le {s t : Nat} (h8 : s < 256) (h : withinV (mem (s : Int)) (t : Int) = true) : s ≤ t := by
  have := Nat.and_le_right (n := s) (m := t)
  rwa [within_and h8 h] at this

theorem within_yes {l : List Int} {k : Nat} {x t : Int} (h : l[k]? = some x) (ha : hasB t x = true) : withinV (l.drop k) t = withinV (l.drop (k + 1)) t := by
  rw [drop_at h]
  simp [withinV, ha]
theorem within_no {l : List Int} {k : Nat} {x t : Int} (h : l[k]? = some x) (ha : hasB t x = false) : withinV (l.drop k) t = false := by
  rw [drop_at h]
  simp [withinV, ha]
theorem within_end (l : List Int) (t : Int) : withinV (l.drop l.length) t = true := by
  rw [List.drop_length]
  rfl

set_option maxRecDepth 100000 in
set_option maxHeartbeats 1000000 in
theorem rwithin_any (s t : Int) (w : World) (h0 : 0 ≤ s) (h1 : 0 ≤ t) : Calls Try.prog 56 #[.int .u32 s, .int .u32 t] w
    (Ans (.bool (withinV (mem s) t)) w) := by
  have HL := Lib.hid (fun u => rlist_any s u h0)
  have HH := Lib.hid (fun c u => rhas_any t c u h1)
  have hl8 : (mem s).length ≤ 8 := length_memb s 8
  generalize mem s = l at HL hl8 ⊢
  go_enter Try.func56, Try.ntmps56
  go_wp2_with fail
  refine (HL.out _).mono ?_
  rintro e w1 ⟨A, c, rfl, hO, hB⟩
  have hR := Reads.of_own hO
  go_wp2_with fail
  go_loop [10] (fun i => ∃ k : Nat, k ≤ l.length ∧ i = .int .i64 k ∧ withinV l t = withinV (l.drop k) t) (fun i => l.length - (intOf i).toNat)
  case atStart => exact ⟨0, Nat.zero_le _, rfl, rfl⟩
  case round =>
    obtain ⟨k, hk, rfl, hN⟩ := hrel
    by_cases hlt : k < l.length
    · obtain ⟨ad, v, rfl, _, hx, hc⟩ := hR.at_ hlt
      obtain ⟨x, hx2, rfl⟩ := vs_at hx
      clear hx
      have j0 : (0 : Int) ≤ (k : Int) := by omega
      have j1 : (k : Int) < (l.length : Int) := by omega
      by_cases ha : hasB t x = true
      · have HV := Lib.hid (hN.trans (within_yes hx2 ha))
        have HC := Lib.hid (fun u => ha ▸ HH.out x u)
        clear hN hx2 ha
        go_wp2_with fail
        refine (HC.out _).mono ?_
        rintro e w' ⟨rfl, rfl⟩
        go_wp2
        go_round
        case rel => exact ⟨k + 1, by omega, by go_num, HV.out⟩
        case measure => simp [intOf]; omega
      · have ha' : hasB t x = false := by simpa using ha
        have HV := Lib.hid (hN.trans (within_no hx2 ha'))
        have HC := Lib.hid (fun u => ha' ▸ HH.out x u)
        clear hN hx2 ha ha'
        go_wp2_with fail
        refine (HC.out _).mono ?_
        rintro e w' ⟨rfl, rfl⟩
        go_wp2
        go_ret
        rw [HV.out]
        exact ⟨rfl, hB⟩
    · obtain rfl : k = l.length := by omega
      have HV := Lib.hid (hN.trans (within_end l t))
      clear hN
      go_wp2
      go_ret
      rw [HV.out]
      exact ⟨rfl, hB⟩

end Go.Proofs.Ytnckfgnhlnichaa
