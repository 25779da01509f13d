/-
  The contract of the document's own text of a set: the walk. No statement is proved here.
-/
import Derived.Test.YtbmlhodglemplaaDoorRe
import Derived.Lib.Strings
namespace Go.Proofs.YtbmlhodglemplaaDoor
open Go.RowKit

theorem text_none {s : Int} {S : ByteArray} (h : walkT s 9 0 ⟨#[]⟩ = S) (hz : S.size = 0) : textB s = ⟨#[110, 111, 110, 101]⟩ := by
  unfold textB; rw [h, if_pos hz]
theorem text_some {s : Int} {S : ByteArray} (h : walkT s 9 0 ⟨#[]⟩ = S) (hz : ¬ S.size = 0) : textB s = S := by
  unfold textB; rw [h, if_neg hz]
theorem empty_of {S : ByteArray} (h : S.size = 0) : S = ⟨#[]⟩ := by
  rcases S with ⟨⟨l⟩⟩
  have : l.length = 0 := h
  rw [List.eq_nil_of_length_eq_zero this]

theorem full_of {S : ByteArray} (h : ¬ S.size = 0) : S.toList.isEmpty = false := by
  rw [Lib.toList_data]
  rw [Lib.size_eq] at h
  cases hl : S.data.toList with
  | nil => rw [hl] at h; exact absurd rfl h
  | cons a l => rfl

set_option maxRecDepth 100000 in
set_option maxHeartbeats 4000000 in
theorem rtext_any (s : Int) (w : World) (h0 : 0 ≤ s) : Calls Tryd.prog 31 #[.int .u32 s] w fun e w' => e = .returned (.string (textB s)) ∧ w = w' := by
  have HH := Lib.hid (fun c u => rhas_any s c u h0)
  go_enter Tryd.func31, Tryd.ntmps31
  go_wp2_with fail
  go_loop [3, 4] (fun v i => ∃ (k f : Nat) (S : ByteArray), k ≤ 9 ∧ 8 ≤ k + f ∧ i = .int .i64 k ∧ v = .string S ∧ S.size ≤ 4 * k ∧ walkT s 9 0 ⟨#[]⟩ = walkT s f k S) (fun _ i => 9 - (intOf i).toNat)
  case atStart => exact ⟨0, 9, ⟨#[]⟩, by omega, by omega, rfl, rfl, by decide, rfl⟩
  case round =>
    obtain ⟨k, f, S, hk, hf, rfl, rfl, hS, hN⟩ := hrel
    by_cases hlt : k < 8
    · obtain ⟨f, rfl⟩ : ∃ g, f = g + 1 := ⟨f - 1, by omega⟩
      by_cases hb : hasB s (k : Int) = true
      · have HB := Lib.hid hb
        have HC := Lib.hid (fun u => hb ▸ HH.out k u)
        have HN := Lib.hid hN
        clear hb hN
        go_wp2_with fail
        refine (HC.out _).mono ?_
        rintro e w' ⟨rfl, rfl⟩
        go_wp2_with fail
        go_loop [4] (fun i => ∃ j : Nat, k ≤ j ∧ j ≤ 7 ∧ i = .int .i64 j ∧ lastR s 8 k = lastR s (8 - (j - k)) j) (fun i => 9 - (intOf i).toNat)
        case atStart => exact ⟨k, by omega, by omega, rfl, by rw [Nat.sub_self]⟩
        case round =>
          obtain ⟨j, hj1, hj2, rfl, hl⟩ := hrel
          by_cases hg : hasB s ((j + 1 : Nat) : Int) = true
          · have hj3 := has_lt hg
            have HL : Hid (lastR s 8 k = lastR s (8 - (j + 1 - k)) (j + 1)) := Lib.hid (by
              rw [hl, show 8 - (j - k) = (8 - (j + 1 - k)) + 1 by omega, last_go hg])
            have HD := Lib.hid (fun u => hg ▸ HH.out ((j + 1 : Nat) : Int) u)
            clear hg hl
            go_wp2_with fail
            refine (HD.out _).mono ?_
            rintro e w' ⟨rfl, rfl⟩
            go_wp2
            go_round
            case rel => exact ⟨j + 1, by omega, by omega, by go_num, HL.out⟩
            case measure => simp [intOf]; omega
          · have hg' : hasB s ((j + 1 : Nat) : Int) = false := by simpa using hg
            have HD := Lib.hid (fun u => hg' ▸ HH.out ((j + 1 : Nat) : Int) u)
            have HL := Lib.hid (hl.trans (last_stop (f := 8 - (j - k)) hg'))
            have HW := Lib.hid (HN.out.trans (walk_yes (f := f) (S := S) hlt HB.out HL.out))
            have D1 := Lib.hid (fun u => rdigit_any k u (by omega))
            have D2 := Lib.hid (fun u => rdigit_any j u (by omega))
            have hrow := size_row S k j
            clear hg hg' hl
            have hSS : S.size ≤ 28 := by omega
            obtain ⟨R, hR⟩ : ∃ R, rowB S k j = R := ⟨_, rfl⟩
            rw [hR] at hrow HW
            have g1 : ¬ ((9223372036854775807 : Int) < (S.size : Int) + 1) := by omega
            by_cases hz : S.size = 0
            · obtain rfl := empty_of hz
              have hR1 : k < j → dgB k ++ (⟨#[45]⟩ ++ dgB j) = R := fun h => by rw [← hR]; unfold rowB; rw [if_pos h]; rfl
              have hR2 : ¬ k < j → dgB k = R := fun h => by rw [← hR]; unfold rowB; rw [if_neg h]; rfl
              have HR1 := Lib.hid hR1
              have HR2 := Lib.hid hR2
              have d1 := size_dgB k
              have d2 := size_dgB j
              clear hz hR hR1 hR2
              generalize dgB k = X at *
              generalize dgB j = Y at *
              have g2 : ¬ ((9223372036854775807 : Int) < (X.size : Int) + 1) := by omega
              have g3 : ¬ ((9223372036854775807 : Int) < 1 + (Y.size : Int)) := by omega
              by_cases hkj : k < j
              · have HE := Lib.hid (HR1.out hkj)
                have hkj' : (k : Int) < (j : Int) := by omega
                clear HR1 HR2 hkj
                go_wp2_with fail
                refine (HD.out _).mono ?_
                rintro e w' ⟨rfl, rfl⟩
                go_wp2_with fail
                refine (D1.out _).mono ?_
                rintro e w' ⟨rfl, rfl⟩
                go_wp2_with fail
                refine (D2.out _).mono ?_
                rintro e w' ⟨rfl, rfl⟩
                go_wp2
                go_round
                case rel => exact ⟨j + 1, f, R, by omega, by omega, by go_num, by rw [← HE.out]; rfl, by omega, HW.out⟩
                case measure => simp [intOf]; omega
              · have HE := Lib.hid (HR2.out hkj)
                obtain rfl : j = k := by omega
                clear HR1 HR2 hkj
                go_wp2_with fail
                refine (HD.out _).mono ?_
                rintro e w' ⟨rfl, rfl⟩
                go_wp2_with fail
                refine (D1.out _).mono ?_
                rintro e w' ⟨rfl, rfl⟩
                go_wp2
                go_round
                case rel => exact ⟨j + 1, f, R, by omega, by omega, by go_num, by rw [← HE.out]; rfl, by omega, HW.out⟩
                case measure => simp [intOf]; omega
            · have hne := full_of hz
              have hR1 : k < j → S ++ ⟨#[44]⟩ ++ dgB k ++ (⟨#[45]⟩ ++ dgB j) = R := fun h => by rw [← hR]; unfold rowB commaB; rw [if_pos h, if_neg hz]
              have hR2 : ¬ k < j → S ++ ⟨#[44]⟩ ++ dgB k = R := fun h => by rw [← hR]; unfold rowB commaB; rw [if_neg h, if_neg hz]
              have HR1 := Lib.hid hR1
              have HR2 := Lib.hid hR2
              have d1 := size_dgB k
              have d2 := size_dgB j
              clear hz hR hR1 hR2
              generalize dgB k = X at *
              generalize dgB j = Y at *
              have g2 : ¬ ((9223372036854775807 : Int) < (S.size : Int) + 1 + (X.size : Int)) := by omega
              have g3 : ¬ ((9223372036854775807 : Int) < 1 + (Y.size : Int)) := by omega
              have g4 : ¬ ((9223372036854775807 : Int) < (S.size : Int) + 1 + (X.size : Int) + (1 + (Y.size : Int))) := by omega
              by_cases hkj : k < j
              · have HE := Lib.hid (HR1.out hkj)
                have hkj' : (k : Int) < (j : Int) := by omega
                clear HR1 HR2 hkj
                go_wp2_with fail
                refine (HD.out _).mono ?_
                rintro e w' ⟨rfl, rfl⟩
                go_wp2_with fail
                refine (D1.out _).mono ?_
                rintro e w' ⟨rfl, rfl⟩
                go_wp2_with fail
                refine (D2.out _).mono ?_
                rintro e w' ⟨rfl, rfl⟩
                go_wp2
                go_round
                case rel => exact ⟨j + 1, f, R, by omega, by omega, by go_num, by rw [← HE.out], by omega, HW.out⟩
                case measure => simp [intOf]; omega
              · have HE := Lib.hid (HR2.out hkj)
                obtain rfl : j = k := by omega
                clear HR1 HR2 hkj
                go_wp2_with fail
                refine (HD.out _).mono ?_
                rintro e w' ⟨rfl, rfl⟩
                go_wp2_with fail
                refine (D1.out _).mono ?_
                rintro e w' ⟨rfl, rfl⟩
                go_wp2
                go_round
                case rel => exact ⟨j + 1, f, R, by omega, by omega, by go_num, by rw [← HE.out], by omega, HW.out⟩
                case measure => simp [intOf]; omega
      · have hb' : hasB s (k : Int) = false := by simpa using hb
        have HC := Lib.hid (fun u => hb' ▸ HH.out k u)
        have HN := Lib.hid (hN.trans (walk_no (f := f) hlt hb'))
        clear hb hb' hN
        go_wp2_with fail
        refine (HC.out _).mono ?_
        rintro e w' ⟨rfl, rfl⟩
        go_wp2
        go_round
        case rel => exact ⟨k + 1, f, S, by omega, by omega, by go_num, rfl, by omega, HN.out⟩
        case measure => simp [intOf]; omega
    · have HN := Lib.hid (hN.trans (walk_end (f := f) (S := S) (by omega)))
      clear hN
      by_cases hz : S.size = 0
      · have HT := Lib.hid (text_none HN.out hz)
        obtain rfl := empty_of hz
        go_wp2
        go_ret
        exact ⟨by rw [HT.out]; rfl, rfl⟩
      · have HT := Lib.hid (text_some HN.out hz)
        have hne := full_of hz
        go_wp2
        go_ret
        exact ⟨by rw [HT.out]; rfl, rfl⟩

end Go.Proofs.YtbmlhodglemplaaDoor
