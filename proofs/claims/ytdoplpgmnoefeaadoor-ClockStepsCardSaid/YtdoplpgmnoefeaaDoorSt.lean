/-
  ClockSteps' walk: multiples above and below.
-/
import Derived.Test.YtdoplpgmnoefeaaDoorCs
namespace Go.Proofs.YtdoplpgmnoefeaaDoor
open Go.RowKit

theorem step_zero {t d : Int} (h : (rt t && rt d) = true) (hd : d = 0) : upE t d = 2 ∧ upV t d = 0 ∧ downE t d = 2 ∧ downV t d = 0 := by
  have h1 : upE t d = 2 := (if_pos h).trans (if_pos hd)
  have h2 : downE t d = 2 := (if_pos h).trans (if_pos hd)
  exact ⟨h1, if_neg (by omega), h2, if_neg (by omega)⟩
theorem step_some {t d : Int} (h : (rt t && rt d) = true) (hd : d ≠ 0) :
    (1125899906842624 - t < miss t d → upE t d = 6 ∧ upV t d = 0) ∧ (¬ 1125899906842624 - t < miss t d → upE t d = 0 ∧ upV t d = t + miss t d) ∧ downE t d = 0 ∧ downV t d = t - t % d := by
  have h2 : downE t d = 0 := (if_pos h).trans (if_neg hd)
  refine ⟨fun hf => ?_, fun hf => ?_, h2, if_pos h2⟩
  · have h1 : upE t d = 6 := (if_pos h).trans ((if_neg hd).trans (if_pos hf))
    exact ⟨h1, if_neg (by omega)⟩
  · have h1 : upE t d = 0 := (if_pos h).trans ((if_neg hd).trans (if_neg hf))
    exact ⟨h1, if_pos h1⟩

set_option maxHeartbeats 8000000 in
set_option maxRecDepth 100000 in
theorem steps_walk (A0 : Option Addr) (n c : Nat) (ps : List (Int × Int)) (w : World) (hl : ps.length = n) (hr : Prow w A0 ps)
    (hk : Calls Tryd.prog 10 #[] w fun e w' => e = .returned (.bool true) ∧ Below w.heap.size w w') (hn : n ≤ maxLen) :
    Calls Tryd.prog 4 #[.slice A0 n c] w fun e w' => e = .returned (.bool true) ∧ Below w.heap.size w w' := by
  unfold maxLen at hn
  have HK := Lib.hid hk
  have HR := Lib.hid hr
  have HL := Lib.hid hl
  clear hk hr hl
  go_enter Tryd.func4, Tryd.ntmps4
  go_wp2_with fail
  refine HK.out.mono ?_
  rintro e w1 ⟨rfl, hB1⟩
  go_wp2_with fail
  go_loopw [20] (fun i wr => ∃ k : Nat, k ≤ n ∧ k ≤ 40 ∧ i = .int .i64 k ∧ Below w.heap.size w wr) (fun i _ => n - (intOf i).toNat)
  case atStart => exact ⟨0, by omega, by omega, rfl, hB1⟩
  case round =>
    obtain ⟨k, hk, hk40, rfl, hB⟩ := hrel
    by_cases hlt : k < n
    · obtain ⟨⟨t, d⟩, hm⟩ : ∃ m, ps[k]? = some m := ⟨_, List.getElem?_eq_getElem (by have := HL.out; omega)⟩
      obtain ⟨ad, rfl, hb, c0, c1⟩ := HR.out k t d hm
      have d0 := (hB.cell (p := ad.add (k * 2)) (by rw [block_of_add]; exact hb)).trans c0
      have d1 := (hB.cell (p := ad.add (k * 2 + 1)) (by rw [block_of_add]; exact hb)).trans c1
      rw [add_next] at d1
      have hsz := hB.size
      clear c0 c1 hm
      by_cases h40 : k = 40
      · have h40' : ((k : Int) == 40) = true := by simp; omega
        clear h40
        go_wp2
        go_ret
        exact ⟨rfl, hB.alloc hB.size _⟩
      · have h40' : ((k : Int) == 40) = false := by simp; omega
        have hk1 : k + 1 ≤ 40 := by omega
        clear h40
        have HU := Lib.hid (fun u => up_any t d u)
        have HD := Lib.hid (fun u => down_any t d u)
        have HRt := Lib.hid (fun u => right_any t u)
        have HRd := Lib.hid (fun u => right_any d u)
        cases ht : rt t with
        | false =>
          obtain ⟨z1, z2, z3, z4, z5, z6, z7, a1, a2, a3, a4⟩ := bad_all (t := t) (d := d) (by rw [ht]; rfl)
          rw [ht] at HRt
          rw [a1, a2] at HU
          rw [a3, a4] at HD
          have HN := Lib.hid (fun u => answers_any 0 120 false 0 2 u (.inl ⟨rfl, rfl, rfl⟩))
          clear z1 z2 z3 z4 z5 z6 z7 a1 a2 a3 a4 ht HRd
          go_wp2
          go_quiet (fail)
          go_wp2_with fail
          refine (HRt.out _).mono ?_
          rintro e w' ⟨rfl, rfl⟩
          go_wp2_with fail
          refine (HU.out _).mono ?_
          rintro e w2 ⟨rfl, hw2⟩
          have hb2 := behind (hB.alloc hB.size _) hw2
          clear hw2
          go_wp2_with fail
          refine (HD.out _).mono ?_
          rintro e w3 ⟨rfl, hw3⟩
          have hb3 := hb2.trans (hw3.mono hb2.size)
          clear hw3 hb2
          go_wp2_with fail
          refine (HN.out _).mono ?_
          rintro e w' ⟨rfl, rfl⟩
          go_wp2_with fail
          refine (HN.out _).mono ?_
          rintro e w' ⟨rfl, rfl⟩
          go_wp2
          go_roundw
          case rel => exact ⟨k + 1, by omega, by omega, by go_num, hb3⟩
          case measure => simp [intOf]; omega
        | true =>
          rw [ht] at HRt
          cases hd : rt d with
          | false =>
            obtain ⟨z1, z2, z3, z4, z5, z6, z7, a1, a2, a3, a4⟩ := bad_all (t := t) (d := d) (by rw [hd]; simp)
            rw [hd] at HRd
            rw [a1, a2] at HU
            rw [a3, a4] at HD
            have HN := Lib.hid (fun u => answers_any 0 120 false 0 2 u (.inl ⟨rfl, rfl, rfl⟩))
            clear z1 z2 z3 z4 z5 z6 z7 a1 a2 a3 a4 ht hd
            go_wp2
            go_quiet (fail)
            go_wp2_with fail
            refine (HRt.out _).mono ?_
            rintro e w' ⟨rfl, rfl⟩
            go_wp2_with fail
            refine (HRd.out _).mono ?_
            rintro e w' ⟨rfl, rfl⟩
            go_wp2_with fail
            refine (HU.out _).mono ?_
            rintro e w2 ⟨rfl, hw2⟩
            have hb2 := behind (hB.alloc hB.size _) hw2
            clear hw2
            go_wp2_with fail
            refine (HD.out _).mono ?_
            rintro e w3 ⟨rfl, hw3⟩
            have hb3 := hb2.trans (hw3.mono hb2.size)
            clear hw3 hb2
            go_wp2_with fail
            refine (HN.out _).mono ?_
            rintro e w' ⟨rfl, rfl⟩
            go_wp2_with fail
            refine (HN.out _).mono ?_
            rintro e w' ⟨rfl, rfl⟩
            go_wp2
            go_roundw
            case rel => exact ⟨k + 1, by omega, by omega, by go_num, hb3⟩
            case measure => simp [intOf]; omega
          | true =>
            rw [hd] at HRd
            obtain ⟨b0, b1⟩ := rt_true ht
            obtain ⟨b2, b3⟩ := rt_true hd
            have hbb : (rt t && rt d) = true := by rw [ht, hd]; rfl
            clear ht hd
            by_cases hz : d = 0
            · obtain ⟨a1, a2, a3, a4⟩ := step_zero hbb hz
              rw [a1, a2] at HU
              rw [a3, a4] at HD
              have hz' : (d == 0) = true := by simp [hz]
              have HN := Lib.hid (fun u => answers_any 0 2 true 0 2 u (.inr (.inl ⟨rfl, by omega, rfl, rfl⟩)))
              clear a1 a2 a3 a4 hbb hz
              go_wp2
              go_quiet (fail)
              go_wp2_with fail
              refine (HRt.out _).mono ?_
              rintro e w' ⟨rfl, rfl⟩
              go_wp2_with fail
              refine (HRd.out _).mono ?_
              rintro e w' ⟨rfl, rfl⟩
              go_wp2_with fail
              refine (HU.out _).mono ?_
              rintro e w2 ⟨rfl, hw2⟩
              have hb2 := behind (hB.alloc hB.size _) hw2
              clear hw2
              go_wp2_with fail
              refine (HD.out _).mono ?_
              rintro e w3 ⟨rfl, hw3⟩
              have hb3 := hb2.trans (hw3.mono hb2.size)
              clear hw3 hb2
              go_wp2_with fail
              refine (HN.out _).mono ?_
              rintro e w' ⟨rfl, rfl⟩
              go_wp2_with fail
              refine (HN.out _).mono ?_
              rintro e w' ⟨rfl, rfl⟩
              go_wp2
              go_roundw
              case rel => exact ⟨k + 1, by omega, by omega, by go_num, hb3⟩
              case measure => simp [intOf]; omega
            · obtain ⟨u6, u0, a3, a4⟩ := step_some hbb hz
              rw [a3, a4] at HD
              have hz' : (d == 0) = false := by simp [hz]
              have hdp : 0 < d := by omega
              have HRU := fun u => rup_any t d u b0 b1 hdp b3
              have HRD := Lib.hid (fun u => rdown_any t d u b0 b1 hdp b3)
              have HN2 := Lib.hid (fun u => answers_any (t - t % d) 0 true (t - t % d) 0 u (.inr (.inr ⟨rfl, rfl, rfl, rfl⟩)))
              by_cases hf : 1125899906842624 - t < miss t d
              · obtain ⟨a1, a2⟩ := u6 hf
                rw [a1, a2] at HU
                have HRV : Hid (∀ u, Calls Tryd.prog 22 #[.int .i64 t, .int .i64 d] u (Told 0 false u)) := Lib.hid (fun u => (HRU u).mono (fun _ _ h => h.1 hf))
                have HN1 := Lib.hid (fun u => answers_any 0 6 true 0 6 u (.inr (.inl ⟨rfl, by omega, rfl, rfl⟩)))
                clear a1 a2 a3 a4 u6 u0 hbb hz hf HRU
                go_wp2
                go_quiet (fail)
                go_wp2_with fail
                refine (HRt.out _).mono ?_
                rintro e w' ⟨rfl, rfl⟩
                go_wp2_with fail
                refine (HRd.out _).mono ?_
                rintro e w' ⟨rfl, rfl⟩
                go_wp2_with fail
                refine (HU.out _).mono ?_
                rintro e w2 ⟨rfl, hw2⟩
                have hb2 := behind (hB.alloc hB.size _) hw2
                clear hw2
                go_wp2_with fail
                refine (HD.out _).mono ?_
                rintro e w3 ⟨rfl, hw3⟩
                have hb3 := hb2.trans (hw3.mono hb2.size)
                clear hw3 hb2
                go_wp2_with fail
                refine (HRV.out _).mono ?_
                rintro e w' ⟨rfl, rfl⟩
                go_wp2_with fail
                refine (HN1.out _).mono ?_
                rintro e w' ⟨rfl, rfl⟩
                go_wp2_with fail
                refine (HRD.out _).mono ?_
                rintro e w' ⟨rfl, rfl⟩
                go_wp2_with fail
                refine (HN2.out _).mono ?_
                rintro e w' ⟨rfl, rfl⟩
                go_wp2
                go_roundw
                case rel => exact ⟨k + 1, by omega, by omega, by go_num, hb3⟩
                case measure => simp [intOf]; omega
              · obtain ⟨a1, a2⟩ := u0 hf
                rw [a1, a2] at HU
                have HRV : Hid (∀ u, Calls Tryd.prog 22 #[.int .i64 t, .int .i64 d] u (Told (t + miss t d) true u)) := Lib.hid (fun u => (HRU u).mono (fun _ _ h => h.2 hf))
                have HN1 := Lib.hid (fun u => answers_any (t + miss t d) 0 true (t + miss t d) 0 u (.inr (.inr ⟨rfl, rfl, rfl, rfl⟩)))
                clear a1 a2 a3 a4 u6 u0 hbb hz hf HRU
                go_wp2
                go_quiet (fail)
                go_wp2_with fail
                refine (HRt.out _).mono ?_
                rintro e w' ⟨rfl, rfl⟩
                go_wp2_with fail
                refine (HRd.out _).mono ?_
                rintro e w' ⟨rfl, rfl⟩
                go_wp2_with fail
                refine (HU.out _).mono ?_
                rintro e w2 ⟨rfl, hw2⟩
                have hb2 := behind (hB.alloc hB.size _) hw2
                clear hw2
                go_wp2_with fail
                refine (HD.out _).mono ?_
                rintro e w3 ⟨rfl, hw3⟩
                have hb3 := hb2.trans (hw3.mono hb2.size)
                clear hw3 hb2
                go_wp2_with fail
                refine (HRV.out _).mono ?_
                rintro e w' ⟨rfl, rfl⟩
                go_wp2_with fail
                refine (HN1.out _).mono ?_
                rintro e w' ⟨rfl, rfl⟩
                go_wp2_with fail
                refine (HRD.out _).mono ?_
                rintro e w' ⟨rfl, rfl⟩
                go_wp2_with fail
                refine (HN2.out _).mono ?_
                rintro e w' ⟨rfl, rfl⟩
                go_wp2
                go_roundw
                case rel => exact ⟨k + 1, by omega, by omega, by go_num, hb3⟩
                case measure => simp [intOf]; omega
    · obtain rfl : n = k := by omega
      go_wp2
      go_ret
      exact ⟨rfl, hB⟩

end Go.Proofs.YtdoplpgmnoefeaaDoor
