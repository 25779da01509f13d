/-
  ClockBack's walk: what is added and taken away leads back; Stop is Add, where that is not refused.
-/
import Derived.Test.YtdoplpgmnoefeaaDoorCs
namespace Go.Proofs.YtdoplpgmnoefeaaDoor
open Go.RowKit

theorem less_back {t d : Int} (b0 : 0 ≤ t) (b2 : 0 ≤ d) (b3 : d ≤ 1125899906842624) (b4 : t + d ≤ 1125899906842624) : lessE (t + d) d = 0 ∧ lessV (t + d) d = t := by
  have h1 : (rt (t + d) && rt d) = true := by rw [rt_mk (by omega) b4, rt_mk b2 b3]; rfl
  have hE : lessE (t + d) d = 0 := (if_pos h1).trans (if_neg (by omega))
  exact ⟨hE, (if_pos hE).trans (by omega)⟩
theorem ago_back {t d : Int} (b0 : 0 ≤ t) (b1 : t ≤ 1125899906842624) (b2 : 0 ≤ d) (b4 : t + d ≤ 1125899906842624) : chk [t + d, t] = 0 ∧ agoV (t + d) t = d := by
  have h1 : (rt (t + d) && rt t) = true := by rw [rt_mk (by omega) b4, rt_mk b0 b1]; rfl
  exact ⟨chk_ok (by simpa using h1), (if_pos h1).trans ((if_pos (by omega)).trans (by omega))⟩

set_option maxHeartbeats 4000000 in
set_option maxRecDepth 100000 in
theorem back_walk (A0 : Option Addr) (n c : Nat) (ps : List (Int × Int)) (w : World) (hl : ps.length = n) (hr : Prow w A0 ps)
    (hk : Calls Tryd.prog 10 #[] w fun e w' => e = .returned (.bool true) ∧ Below w.heap.size w w') (hn : n ≤ maxLen) :
    Calls Tryd.prog 7 #[.slice A0 n c] w fun e w' => e = .returned (.bool true) ∧ Below w.heap.size w w' := by
  unfold maxLen at hn
  have HK := Lib.hid hk
  have HR := Lib.hid hr
  have HL := Lib.hid hl
  clear hk hr hl
  go_enter Tryd.func7, Tryd.ntmps7
  go_wp2_with fail
  refine HK.out.mono ?_
  rintro e w1 ⟨rfl, hB1⟩
  go_wp2_with fail
  go_loopw [19] (fun i wr => ∃ k : Nat, k ≤ n ∧ k ≤ 40 ∧ i = .int .i64 k ∧ Below w.heap.size w wr) (fun i _ => n - (intOf i).toNat)
  case atStart => exact ⟨0, by omega, by omega, rfl, hB1⟩
  case round =>
    obtain ⟨k, hk, hk40, rfl, hB⟩ := hrel
    by_cases hlt : k < n
    · obtain ⟨⟨t, d⟩, hm⟩ : ∃ m, ps[k]? = some m := ⟨_, List.getElem?_eq_getElem (by have := HL.out; omega)⟩
      obtain ⟨ad, rfl, hb, c0, c1⟩ := HR.out k t d hm
      have d0 := (hB.cell (p := ad.add (k * 2)) (by rw [block_of_add]; exact hb)).trans c0
      have d1 := (hB.cell (p := ad.add (k * 2 + 1)) (by rw [block_of_add]; exact hb)).trans c1
      rw [add_next] at d1
      have hsz := hB.size
      clear c0 c1 hm
      by_cases h40 : k = 40
      · have h40' : ((k : Int) == 40) = true := by simp; omega
        clear h40
        go_wp2
        go_ret
        exact ⟨rfl, hB.alloc hB.size _⟩
      · have h40' : ((k : Int) == 40) = false := by simp; omega
        have HA := fun u => add_any t d u
        have HS := fun u => stop_any t d u
        rcases addE_cases t d with ⟨e1, e2, e3, e4, b0, b1, b2, b3, b4⟩ | ⟨e1, e2, e3, e4, b0, b1, b2, b3, b4⟩ | ⟨e1, e2, e3, e4, _⟩
        · rw [e1, e2] at HA
          rw [e3, e4] at HS
          have HA := Lib.hid HA
          have HS := Lib.hid HS
          have HT := Lib.hid (fun u => two_of (less_any (t + d) d u) (less_back b0 b2 b3 b4).2 (less_back b0 b2 b3 b4).1)
          have HG := Lib.hid (fun u => two_of (ago_any (t + d) t u) (ago_back b0 b1 b2 b4).2 (ago_back b0 b1 b2 b4).1)
          have HC : Hid (∀ u, Calls Tryd.prog 12 #[.int .i64 (t + d)] u fun e w' => e = .returned (.int .i64 0) ∧ Below u.heap.size u w') := Lib.hid (fun u => by
            have h := check_any (t + d) u
            rwa [show chk [t + d] = 0 from chk_ok (by simp [rt_mk (show 0 ≤ t + d by omega) b4])] at h)
          have hk1 : k + 1 ≤ 40 := by omega
          clear e1 e2 e3 e4 h40
          go_wp2
          go_quiet (fail)
          go_wp2_with fail
          refine (HA.out _).mono ?_
          rintro e w2 ⟨rfl, hB2⟩
          have hz2 := hB2.size
          have b' : Below w.heap.size w w2 := behind (hB.alloc hB.size _) hB2
          clear hB2
          go_wp2_with fail
          refine (HS.out _).mono ?_
          rintro e w3 ⟨rfl, hB3⟩
          have b3' := b'.trans (hB3.mono b'.size)
          clear hB3 b'
          go_wp2_with fail
          refine (HT.out _).mono ?_
          rintro e w4 ⟨rfl, hB4⟩
          have b4' := b3'.trans (hB4.mono b3'.size)
          clear hB4 b3'
          go_wp2_with fail
          refine (HG.out _).mono ?_
          rintro e w5 ⟨rfl, hB5⟩
          have b5' := b4'.trans (hB5.mono b4'.size)
          clear hB5 b4'
          go_wp2_with fail
          refine (HC.out _).mono ?_
          rintro e w6 ⟨rfl, hB6⟩
          have b6' := b5'.trans (hB6.mono b5'.size)
          clear hB6 b5'
          go_wp2
          go_roundw
          case rel => exact ⟨k + 1, by omega, by omega, by go_num, b6'⟩
          case measure => simp [intOf]; omega
        all_goals
          rw [e1, e2] at HA
          rw [e3, e4] at HS
          have HA := Lib.hid HA
          have HS := Lib.hid HS
          have hk1 : k + 1 ≤ 40 := by omega
          clear e1 e2 e3 e4 h40
          go_wp2
          go_quiet (fail)
          go_wp2_with fail
          refine (HA.out _).mono ?_
          rintro e w2 ⟨rfl, hB2⟩
          have hz2 := hB2.size
          have b' : Below w.heap.size w w2 := behind (hB.alloc hB.size _) hB2
          clear hB2
          go_wp2_with fail
          refine (HS.out _).mono ?_
          rintro e w3 ⟨rfl, hB3⟩
          have b3' := b'.trans (hB3.mono b'.size)
          clear hB3 b'
          go_wp2
          go_roundw
          case rel => exact ⟨k + 1, by omega, by omega, by go_num, b3'⟩
          case measure => simp [intOf]; omega
    · obtain rfl : n = k := by omega
      go_wp2
      go_ret
      exact ⟨rfl, hB⟩

end Go.Proofs.YtdoplpgmnoefeaaDoor
