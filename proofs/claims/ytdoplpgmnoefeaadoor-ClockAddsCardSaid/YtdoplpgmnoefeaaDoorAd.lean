/-
  ClockAdds' walk: times and spans, added, taken away, stopped, ago.
-/
import Derived.Test.YtdoplpgmnoefeaaDoorCs
namespace Go.Proofs.YtdoplpgmnoefeaaDoor
open Go.RowKit

set_option maxHeartbeats 8000000 in
set_option maxRecDepth 100000 in
theorem adds_walk (A0 : Option Addr) (n c : Nat) (ps : List (Int × Int)) (w : World) (hl : ps.length = n) (hr : Prow w A0 ps)
    (hk : Calls Tryd.prog 10 #[] w fun e w' => e = .returned (.bool true) ∧ Below w.heap.size w w') (hn : n ≤ maxLen) :
    Calls Tryd.prog 3 #[.slice A0 n c] w fun e w' => e = .returned (.bool true) ∧ Below w.heap.size w w' := by
  unfold maxLen at hn
  have HK := Lib.hid hk
  have HR := Lib.hid hr
  have HL := Lib.hid hl
  clear hk hr hl
  go_enter Tryd.func3, Tryd.ntmps3
  go_wp2_with fail
  refine HK.out.mono ?_
  rintro e w1 ⟨rfl, hB1⟩
  go_wp2_with fail
  go_loopw [25] (fun i wr => ∃ k : Nat, k ≤ n ∧ k ≤ 40 ∧ i = .int .i64 k ∧ Below w.heap.size w wr) (fun i _ => n - (intOf i).toNat)
  case atStart => exact ⟨0, by omega, by omega, rfl, hB1⟩
  case round =>
    obtain ⟨k, hk, hk40, rfl, hB⟩ := hrel
    by_cases hlt : k < n
    · obtain ⟨⟨t, d⟩, hm⟩ : ∃ m, ps[k]? = some m := ⟨_, List.getElem?_eq_getElem (by have := HL.out; omega)⟩
      obtain ⟨ad, rfl, hb, c0, c1⟩ := HR.out k t d hm
      have d0 := (hB.cell (p := ad.add (k * 2)) (by rw [block_of_add]; exact hb)).trans c0
      have d1 := (hB.cell (p := ad.add (k * 2 + 1)) (by rw [block_of_add]; exact hb)).trans c1
      rw [add_next] at d1
      have hsz := hB.size
      clear c0 c1 hm
      by_cases h40 : k = 40
      · have h40' : ((k : Int) == 40) = true := by simp; omega
        clear h40
        go_wp2
        go_ret
        exact ⟨rfl, hB.alloc hB.size _⟩
      · have h40' : ((k : Int) == 40) = false := by simp; omega
        have hk1 : k + 1 ≤ 40 := by omega
        clear h40
        have HA := Lib.hid (fun u => add_any t d u)
        have HT := Lib.hid (fun u => less_any t d u)
        have HS := Lib.hid (fun u => stop_any t d u)
        have HG := Lib.hid (fun u => ago_any t d u)
        have HRt := Lib.hid (fun u => right_any t u)
        have HRd := Lib.hid (fun u => right_any d u)
        have HC := Lib.hid (fun u => check_any t u)
        cases ht : rt t with
        | false =>
          obtain ⟨a1, a2, a3, a4, a5, a6, a7, _⟩ := bad_all (t := t) (d := d) (by rw [ht]; rfl)
          have hc : chk [t] = 120 := by rcases chk1 t with ⟨_, h⟩ | ⟨h, _⟩; rw [ht] at h; cases h; exact h
          rw [ht] at HRt
          rw [hc] at HC
          rw [a1, a2] at HA
          rw [a3, a4] at HT
          rw [a5, a6] at HS
          rw [a5, a7] at HG
          have HN := Lib.hid (fun u => answers_any 0 120 false 0 0 u (.inl ⟨rfl, rfl, rfl⟩))
          clear a1 a2 a3 a4 a5 a6 a7 hc ht HRd
          go_wp2
          go_quiet (fail)
          go_wp2_with fail
          refine (HRt.out _).mono ?_
          rintro e w' ⟨rfl, rfl⟩
          go_wp2_with fail
          refine (HC.out _).mono ?_
          rintro e w2 ⟨rfl, hw2⟩
          have hb2 := behind (hB.alloc hB.size _) hw2
          clear hw2
          go_wp2_with fail
          refine (HRt.out _).mono ?_
          rintro e w' ⟨rfl, rfl⟩
          go_wp2_with fail
          refine (HA.out _).mono ?_
          rintro e w3 ⟨rfl, hw3⟩
          have hb3 := hb2.trans (hw3.mono hb2.size)
          clear hw3 hb2
          go_wp2_with fail
          refine (HT.out _).mono ?_
          rintro e w4 ⟨rfl, hw4⟩
          have hb4 := hb3.trans (hw4.mono hb3.size)
          clear hw4 hb3
          go_wp2_with fail
          refine (HS.out _).mono ?_
          rintro e w5 ⟨rfl, hw5⟩
          have hb5 := hb4.trans (hw5.mono hb4.size)
          clear hw5 hb4
          go_wp2_with fail
          refine (HG.out _).mono ?_
          rintro e w6 ⟨rfl, hw6⟩
          have hb6 := hb5.trans (hw6.mono hb5.size)
          clear hw6 hb5
          go_wp2_with fail
          refine (HN.out _).mono ?_
          rintro e w' ⟨rfl, rfl⟩
          go_wp2_with fail
          refine (HN.out _).mono ?_
          rintro e w' ⟨rfl, rfl⟩
          go_wp2_with fail
          refine (HN.out _).mono ?_
          rintro e w' ⟨rfl, rfl⟩
          go_wp2_with fail
          refine (HN.out _).mono ?_
          rintro e w' ⟨rfl, rfl⟩
          go_wp2
          go_roundw
          case rel => exact ⟨k + 1, by omega, by omega, by go_num, hb6⟩
          case measure => simp [intOf]; omega
        | true =>
          have hc : chk [t] = 0 := by rcases chk1 t with ⟨h, _⟩ | ⟨_, h⟩; exact h; rw [ht] at h; cases h
          rw [ht] at HRt
          rw [hc] at HC
          clear hc
          cases hd : rt d with
          | false =>
            obtain ⟨a1, a2, a3, a4, a5, a6, a7, _⟩ := bad_all (t := t) (d := d) (by rw [hd]; simp)
            rw [hd] at HRd
            rw [a1, a2] at HA
            rw [a3, a4] at HT
            rw [a5, a6] at HS
            rw [a5, a7] at HG
            have HN := Lib.hid (fun u => answers_any 0 120 false 0 0 u (.inl ⟨rfl, rfl, rfl⟩))
            clear a1 a2 a3 a4 a5 a6 a7 ht hd
            go_wp2
            go_quiet (fail)
            go_wp2_with fail
            refine (HRt.out _).mono ?_
            rintro e w' ⟨rfl, rfl⟩
            go_wp2_with fail
            refine (HRd.out _).mono ?_
            rintro e w' ⟨rfl, rfl⟩
            go_wp2_with fail
            refine (HC.out _).mono ?_
            rintro e w2 ⟨rfl, hw2⟩
            have hb2 := behind (hB.alloc hB.size _) hw2
            clear hw2
            go_wp2_with fail
            refine (HRt.out _).mono ?_
            rintro e w' ⟨rfl, rfl⟩
            go_wp2_with fail
            refine (HA.out _).mono ?_
            rintro e w3 ⟨rfl, hw3⟩
            have hb3 := hb2.trans (hw3.mono hb2.size)
            clear hw3 hb2
            go_wp2_with fail
            refine (HT.out _).mono ?_
            rintro e w4 ⟨rfl, hw4⟩
            have hb4 := hb3.trans (hw4.mono hb3.size)
            clear hw4 hb3
            go_wp2_with fail
            refine (HS.out _).mono ?_
            rintro e w5 ⟨rfl, hw5⟩
            have hb5 := hb4.trans (hw5.mono hb4.size)
            clear hw5 hb4
            go_wp2_with fail
            refine (HG.out _).mono ?_
            rintro e w6 ⟨rfl, hw6⟩
            have hb6 := hb5.trans (hw6.mono hb5.size)
            clear hw6 hb5
            go_wp2_with fail
            refine (HN.out _).mono ?_
            rintro e w' ⟨rfl, rfl⟩
            go_wp2_with fail
            refine (HN.out _).mono ?_
            rintro e w' ⟨rfl, rfl⟩
            go_wp2_with fail
            refine (HN.out _).mono ?_
            rintro e w' ⟨rfl, rfl⟩
            go_wp2_with fail
            refine (HN.out _).mono ?_
            rintro e w' ⟨rfl, rfl⟩
            go_wp2
            go_roundw
            case rel => exact ⟨k + 1, by omega, by omega, by go_num, hb6⟩
            case measure => simp [intOf]; omega
          | true =>
            rw [hd] at HRd
            obtain ⟨b0, b1⟩ := rt_true ht
            obtain ⟨b2, b3⟩ := rt_true hd
            have hbb : (rt t && rt d) = true := by rw [ht, hd]; rfl
            have hchk : chk [t, d] = 0 := chk_ok (by simpa using hbb)
            have HST := Lib.hid (fun u => rstop_any t d u ht hd)
            have HN3 := Lib.hid (fun u => answers_any (stopV t d) (chk [t, d]) true (stopV t d) 0 u (.inr (.inr ⟨rfl, rfl, rfl, hchk⟩)))
            by_cases hf : 1125899906842624 - t < d
            · have e1 : addE t d = 6 := (if_pos hbb).trans (if_pos hf)
              have HRA := Lib.hid (fun u => radd_no t d u b0 b1 b2 hf)
              have HN1 := Lib.hid (fun u => answers_any (addV t d) (addE t d) true 0 6 u (.inr (.inl ⟨rfl, by omega, if_neg (by omega), e1⟩)))
              clear e1
              by_cases hg : t < d
              · have e2 : lessE t d = 2 := (if_pos hbb).trans (if_pos hg)
                have hg2 : ¬ 0 ≤ t - d := by omega
                have HN2 := Lib.hid (fun u => answers_any (lessV t d) (lessE t d) true (t - d) 2 u (.inr (.inl ⟨rfl, by omega, if_neg (by omega), e2⟩)))
                have HN4 := Lib.hid (fun u => answers_any (agoV t d) (chk [t, d]) true 0 0 u (.inr (.inr ⟨rfl, rfl, (if_pos hbb).trans (if_neg hg2), hchk⟩)))
                clear e2 hbb hchk ht hd
                go_wp2
                go_quiet (fail)
                go_wp2_with fail
                refine (HRt.out _).mono ?_
                rintro e w' ⟨rfl, rfl⟩
                go_wp2_with fail
                refine (HRd.out _).mono ?_
                rintro e w' ⟨rfl, rfl⟩
                go_wp2_with fail
                refine (HC.out _).mono ?_
                rintro e w2 ⟨rfl, hw2⟩
                have hb2 := behind (hB.alloc hB.size _) hw2
                clear hw2
                go_wp2_with fail
                refine (HRt.out _).mono ?_
                rintro e w' ⟨rfl, rfl⟩
                go_wp2_with fail
                refine (HA.out _).mono ?_
                rintro e w3 ⟨rfl, hw3⟩
                have hb3 := hb2.trans (hw3.mono hb2.size)
                clear hw3 hb2
                go_wp2_with fail
                refine (HT.out _).mono ?_
                rintro e w4 ⟨rfl, hw4⟩
                have hb4 := hb3.trans (hw4.mono hb3.size)
                clear hw4 hb3
                go_wp2_with fail
                refine (HS.out _).mono ?_
                rintro e w5 ⟨rfl, hw5⟩
                have hb5 := hb4.trans (hw5.mono hb4.size)
                clear hw5 hb4
                go_wp2_with fail
                refine (HG.out _).mono ?_
                rintro e w6 ⟨rfl, hw6⟩
                have hb6 := hb5.trans (hw6.mono hb5.size)
                clear hw6 hb5
                go_wp2_with fail
                refine (HRA.out _).mono ?_
                rintro e w' ⟨rfl, rfl⟩
                go_wp2_with fail
                refine (HN1.out _).mono ?_
                rintro e w' ⟨rfl, rfl⟩
                go_wp2_with fail
                refine (HN2.out _).mono ?_
                rintro e w' ⟨rfl, rfl⟩
                go_wp2_with fail
                refine (HST.out _).mono ?_
                rintro e w' ⟨rfl, rfl⟩
                go_wp2_with fail
                refine (HN3.out _).mono ?_
                rintro e w' ⟨rfl, rfl⟩
                go_wp2_with fail
                refine (HN4.out _).mono ?_
                rintro e w' ⟨rfl, rfl⟩
                go_wp2
                go_roundw
                case rel => exact ⟨k + 1, by omega, by omega, by go_num, hb6⟩
                case measure => simp [intOf]; omega
              · have e2 : lessE t d = 0 := (if_pos hbb).trans (if_neg hg)
                have hg2 : 0 ≤ t - d := by omega
                have HN2 := Lib.hid (fun u => answers_any (lessV t d) (lessE t d) true (t - d) 0 u (.inr (.inr ⟨rfl, rfl, if_pos e2, e2⟩)))
                have HN4 := Lib.hid (fun u => answers_any (agoV t d) (chk [t, d]) true (t - d) 0 u (.inr (.inr ⟨rfl, rfl, (if_pos hbb).trans (if_pos hg2), hchk⟩)))
                clear e2 hbb hchk ht hd
                go_wp2
                go_quiet (fail)
                go_wp2_with fail
                refine (HRt.out _).mono ?_
                rintro e w' ⟨rfl, rfl⟩
                go_wp2_with fail
                refine (HRd.out _).mono ?_
                rintro e w' ⟨rfl, rfl⟩
                go_wp2_with fail
                refine (HC.out _).mono ?_
                rintro e w2 ⟨rfl, hw2⟩
                have hb2 := behind (hB.alloc hB.size _) hw2
                clear hw2
                go_wp2_with fail
                refine (HRt.out _).mono ?_
                rintro e w' ⟨rfl, rfl⟩
                go_wp2_with fail
                refine (HA.out _).mono ?_
                rintro e w3 ⟨rfl, hw3⟩
                have hb3 := hb2.trans (hw3.mono hb2.size)
                clear hw3 hb2
                go_wp2_with fail
                refine (HT.out _).mono ?_
                rintro e w4 ⟨rfl, hw4⟩
                have hb4 := hb3.trans (hw4.mono hb3.size)
                clear hw4 hb3
                go_wp2_with fail
                refine (HS.out _).mono ?_
                rintro e w5 ⟨rfl, hw5⟩
                have hb5 := hb4.trans (hw5.mono hb4.size)
                clear hw5 hb4
                go_wp2_with fail
                refine (HG.out _).mono ?_
                rintro e w6 ⟨rfl, hw6⟩
                have hb6 := hb5.trans (hw6.mono hb5.size)
                clear hw6 hb5
                go_wp2_with fail
                refine (HRA.out _).mono ?_
                rintro e w' ⟨rfl, rfl⟩
                go_wp2_with fail
                refine (HN1.out _).mono ?_
                rintro e w' ⟨rfl, rfl⟩
                go_wp2_with fail
                refine (HN2.out _).mono ?_
                rintro e w' ⟨rfl, rfl⟩
                go_wp2_with fail
                refine (HST.out _).mono ?_
                rintro e w' ⟨rfl, rfl⟩
                go_wp2_with fail
                refine (HN3.out _).mono ?_
                rintro e w' ⟨rfl, rfl⟩
                go_wp2_with fail
                refine (HN4.out _).mono ?_
                rintro e w' ⟨rfl, rfl⟩
                go_wp2
                go_roundw
                case rel => exact ⟨k + 1, by omega, by omega, by go_num, hb6⟩
                case measure => simp [intOf]; omega
            · have e1 : addE t d = 0 := (if_pos hbb).trans (if_neg hf)
              have HRA := Lib.hid (fun u => radd_yes t d u b0 b1 b2 hf)
              have HN1 := Lib.hid (fun u => answers_any (addV t d) (addE t d) true (t + d) 0 u (.inr (.inr ⟨rfl, rfl, if_pos e1, e1⟩)))
              clear e1
              by_cases hg : t < d
              · have e2 : lessE t d = 2 := (if_pos hbb).trans (if_pos hg)
                have hg2 : ¬ 0 ≤ t - d := by omega
                have HN2 := Lib.hid (fun u => answers_any (lessV t d) (lessE t d) true (t - d) 2 u (.inr (.inl ⟨rfl, by omega, if_neg (by omega), e2⟩)))
                have HN4 := Lib.hid (fun u => answers_any (agoV t d) (chk [t, d]) true 0 0 u (.inr (.inr ⟨rfl, rfl, (if_pos hbb).trans (if_neg hg2), hchk⟩)))
                clear e2 hbb hchk ht hd
                go_wp2
                go_quiet (fail)
                go_wp2_with fail
                refine (HRt.out _).mono ?_
                rintro e w' ⟨rfl, rfl⟩
                go_wp2_with fail
                refine (HRd.out _).mono ?_
                rintro e w' ⟨rfl, rfl⟩
                go_wp2_with fail
                refine (HC.out _).mono ?_
                rintro e w2 ⟨rfl, hw2⟩
                have hb2 := behind (hB.alloc hB.size _) hw2
                clear hw2
                go_wp2_with fail
                refine (HRt.out _).mono ?_
                rintro e w' ⟨rfl, rfl⟩
                go_wp2_with fail
                refine (HA.out _).mono ?_
                rintro e w3 ⟨rfl, hw3⟩
                have hb3 := hb2.trans (hw3.mono hb2.size)
                clear hw3 hb2
                go_wp2_with fail
                refine (HT.out _).mono ?_
                rintro e w4 ⟨rfl, hw4⟩
                have hb4 := hb3.trans (hw4.mono hb3.size)
                clear hw4 hb3
                go_wp2_with fail
                refine (HS.out _).mono ?_
                rintro e w5 ⟨rfl, hw5⟩
                have hb5 := hb4.trans (hw5.mono hb4.size)
                clear hw5 hb4
                go_wp2_with fail
                refine (HG.out _).mono ?_
                rintro e w6 ⟨rfl, hw6⟩
                have hb6 := hb5.trans (hw6.mono hb5.size)
                clear hw6 hb5
                go_wp2_with fail
                refine (HRA.out _).mono ?_
                rintro e w' ⟨rfl, rfl⟩
                go_wp2_with fail
                refine (HN1.out _).mono ?_
                rintro e w' ⟨rfl, rfl⟩
                go_wp2_with fail
                refine (HN2.out _).mono ?_
                rintro e w' ⟨rfl, rfl⟩
                go_wp2_with fail
                refine (HST.out _).mono ?_
                rintro e w' ⟨rfl, rfl⟩
                go_wp2_with fail
                refine (HN3.out _).mono ?_
                rintro e w' ⟨rfl, rfl⟩
                go_wp2_with fail
                refine (HN4.out _).mono ?_
                rintro e w' ⟨rfl, rfl⟩
                go_wp2
                go_roundw
                case rel => exact ⟨k + 1, by omega, by omega, by go_num, hb6⟩
                case measure => simp [intOf]; omega
              · have e2 : lessE t d = 0 := (if_pos hbb).trans (if_neg hg)
                have hg2 : 0 ≤ t - d := by omega
                have HN2 := Lib.hid (fun u => answers_any (lessV t d) (lessE t d) true (t - d) 0 u (.inr (.inr ⟨rfl, rfl, if_pos e2, e2⟩)))
                have HN4 := Lib.hid (fun u => answers_any (agoV t d) (chk [t, d]) true (t - d) 0 u (.inr (.inr ⟨rfl, rfl, (if_pos hbb).trans (if_pos hg2), hchk⟩)))
                clear e2 hbb hchk ht hd
                go_wp2
                go_quiet (fail)
                go_wp2_with fail
                refine (HRt.out _).mono ?_
                rintro e w' ⟨rfl, rfl⟩
                go_wp2_with fail
                refine (HRd.out _).mono ?_
                rintro e w' ⟨rfl, rfl⟩
                go_wp2_with fail
                refine (HC.out _).mono ?_
                rintro e w2 ⟨rfl, hw2⟩
                have hb2 := behind (hB.alloc hB.size _) hw2
                clear hw2
                go_wp2_with fail
                refine (HRt.out _).mono ?_
                rintro e w' ⟨rfl, rfl⟩
                go_wp2_with fail
                refine (HA.out _).mono ?_
                rintro e w3 ⟨rfl, hw3⟩
                have hb3 := hb2.trans (hw3.mono hb2.size)
                clear hw3 hb2
                go_wp2_with fail
                refine (HT.out _).mono ?_
                rintro e w4 ⟨rfl, hw4⟩
                have hb4 := hb3.trans (hw4.mono hb3.size)
                clear hw4 hb3
                go_wp2_with fail
                refine (HS.out _).mono ?_
                rintro e w5 ⟨rfl, hw5⟩
                have hb5 := hb4.trans (hw5.mono hb4.size)
                clear hw5 hb4
                go_wp2_with fail
                refine (HG.out _).mono ?_
                rintro e w6 ⟨rfl, hw6⟩
                have hb6 := hb5.trans (hw6.mono hb5.size)
                clear hw6 hb5
                go_wp2_with fail
                refine (HRA.out _).mono ?_
                rintro e w' ⟨rfl, rfl⟩
                go_wp2_with fail
                refine (HN1.out _).mono ?_
                rintro e w' ⟨rfl, rfl⟩
                go_wp2_with fail
                refine (HN2.out _).mono ?_
                rintro e w' ⟨rfl, rfl⟩
                go_wp2_with fail
                refine (HST.out _).mono ?_
                rintro e w' ⟨rfl, rfl⟩
                go_wp2_with fail
                refine (HN3.out _).mono ?_
                rintro e w' ⟨rfl, rfl⟩
                go_wp2_with fail
                refine (HN4.out _).mono ?_
                rintro e w' ⟨rfl, rfl⟩
                go_wp2
                go_roundw
                case rel => exact ⟨k + 1, by omega, by omega, by go_num, hb6⟩
                case measure => simp [intOf]; omega
    · obtain rfl : n = k := by omega
      go_wp2
      go_ret
      exact ⟨rfl, hB⟩

end Go.Proofs.YtdoplpgmnoefeaaDoor
