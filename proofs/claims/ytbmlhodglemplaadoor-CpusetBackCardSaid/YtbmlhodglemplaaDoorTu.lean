/-
  CpusetTurns' walk: with one, and without one.
-/
import Derived.Test.YtbmlhodglemplaaDoorOg
namespace Go.Proofs.YtbmlhodglemplaaDoor
open Go.RowKit

theorem with_big {s c : Int} (h : ¬ s < 256) : withV s c = (0, 140) ∧ outV s c = (0, 140) := ⟨if_neg h, if_neg h⟩
theorem with_none {s c : Int} (h : s < 256) (hc : ¬ cpuB c = true) : withV s c = (0, 2) ∧ outV s c = (0, 2) := by
  unfold withV outV; rw [if_pos h, if_neg hc, if_pos h, if_neg hc]; exact ⟨rfl, rfl⟩
theorem with_there {s c : Int} (h : s < 256) (hc : cpuB c = true) (hh : hasB s c = true) : withV s c = (0, 5) ∧ outV s c = (s - 2 ^ c.toNat, 0) := by
  unfold withV outV; rw [if_pos h, if_pos hc, if_pos hh, if_pos h, if_pos hc, if_pos hh]; exact ⟨rfl, rfl⟩
theorem with_new {s c : Int} (h : s < 256) (hc : cpuB c = true) (hh : ¬ hasB s c = true) : withV s c = (s + 2 ^ c.toNat, 0) ∧ outV s c = (0, 4) := by
  unfold withV outV; rw [if_pos h, if_pos hc, if_neg hh, if_pos h, if_pos hc, if_neg hh]; exact ⟨rfl, rfl⟩

set_option maxHeartbeats 8000000 in
set_option maxRecDepth 100000 in
theorem turns_walk (A0 : Option Addr) (n c : Nat) (ss : List Int) (B0 : Option Addr) (n' c' : Nat) (ns : List Int) (w : World) (hr : Reads w w.heap.size 1 A0 n (us ss)) (hu : ∀ (k : Nat) (x : Int), ss[k]? = some x → U32 x) (hn : n ≤ maxLen) (hr' : Reads w w.heap.size 1 B0 n' (vs ns)) (hn' : n' ≤ maxLen)
    (hk : Calls Tryd.prog 10 #[] w fun e w' => e = .returned (.bool true) ∧ Below w.heap.size w w') :
    Calls Tryd.prog 5 #[.slice A0 n c, .slice B0 n' c'] w fun e w' => e = .returned (.bool true) ∧ Below w.heap.size w w' := by
  unfold maxLen at hn hn'
  have HK := Lib.hid hk
  have HR := Lib.hid hr
  have HS := Lib.hid hr'
  have HU := Lib.hid hu
  clear hk hr hr' hu
  go_enter Tryd.func5, Tryd.ntmps5
  go_wp2_with fail
  refine HK.out.mono ?_
  rintro e w1 ⟨rfl, hB1⟩
  go_wp2_with fail
  go_loopw [21] (fun i wr => ∃ k : Nat, k ≤ n ∧ k ≤ 12 ∧ i = .int .i64 k ∧ Below w.heap.size w wr) (fun i _ => n - (intOf i).toNat)
  case atStart => exact ⟨0, by omega, by omega, rfl, hB1⟩
  case round =>
    obtain ⟨k, hk, hk12, rfl, hB⟩ := hrel
    by_cases hlt : k < n
    · obtain ⟨ad, v, rfl, _, hx, hc⟩ := (HR.out.below hB).at_ hlt
      obtain ⟨s, hs, rfl⟩ := us_at hx
      obtain ⟨s0, s1⟩ := HU.out k s hs
      have j0 : (0 : Int) ≤ (k : Int) := by omega
      have j1 : (k : Int) < (n : Int) := by omega
      clear hx hs
      by_cases h12 : k = 12
      · have h12' : ((k : Int) == 12) = true := by simp; omega
        clear h12 hk12
        go_wp2
        go_ret
        exact ⟨rfl, hB⟩
      · have h12' : ((k : Int) == 12) = false := by simp; omega
        have H12 : Hid (k + 1 ≤ 12) := Lib.hid (by omega)
        have HLT := Lib.hid hlt
        clear h12 hk12
        go_wp2_with fail
        go_loopw [30] (fun i wr => ∃ j : Nat, j ≤ n' ∧ j ≤ 12 ∧ i = .int .i64 j ∧ Below w.heap.size w wr) (fun i _ => n' - (intOf i).toNat)
        case atStart => exact ⟨0, by omega, by omega, rfl, hB⟩
        case round =>
          clear hB hc
          obtain ⟨j, hj, hj12, rfl, hB⟩ := hrel
          by_cases hjt : j < n'
          · obtain ⟨ad', v', rfl, _, hx', hc'⟩ := (HS.out.below hB).at_ hjt
            obtain ⟨m, hm, rfl⟩ := vs_at hx'
            have j2 : (0 : Int) ≤ (j : Int) := by omega
            have j3 : (j : Int) < (n' : Int) := by omega
            clear hx' hm
            by_cases h12 : j = 12
            · have h12' : ((j : Int) == 12) = true := by simp; omega
              clear h12 hj12
              go_wp2
              go_roundw
              case rel => exact ⟨k + 1, HLT.out, H12.out, by go_num, hB⟩
              case measure => have := HLT.out; simp [intOf]; omega
            · have h12' : ((j : Int) == 12) = false := by simp; omega
              have J12 : Hid (j + 1 ≤ 12) := Lib.hid (by omega)
              have JLT := Lib.hid hjt
              have HW := Lib.hid (fun u => with_any s m u s0 s1)
              have HO := Lib.hid (fun u => out_any s m u s0 s1)
              have HG := Lib.hid (fun u => rright_any s u)
              have HC := Lib.hid (fun u => rcpu_any m u)
              have HH := Lib.hid (fun u => rhas_any s m u s0)
              clear h12 hj12
              by_cases hs : s < 256
              · rw [decide_eq_true hs] at HG
                by_cases hcp : cpuB m = true
                · rw [hcp] at HC
                  have g2 : m ≤ 32 := by have := cpuB_true hcp; omega
                  have g3 : 0 ≤ m := by have := cpuB_true hcp; omega
                  by_cases hh : hasB s m = true
                  · have g4 := bit_in s0 hs hcp hh
                    have g5 := two_pos m.toNat
                    have g6 : (2 : Int) ^ m.toNat ≤ 256 := two_le8 (by have := cpuB_true hcp; omega)
                    rw [(with_there hs hcp hh).1] at HW
                    rw [(with_there hs hcp hh).2] at HO
                    rw [hh] at HH
                    clear hs hcp hh HK
                    go_wp2_with fail
                    refine (HW.out _).mono ?_
                    rintro e w' ⟨rfl, rfl⟩
                    go_wp2_with fail
                    refine (HO.out _).mono ?_
                    rintro e w' ⟨rfl, rfl⟩
                    go_wp2_with fail
                    refine (HG.out _).mono ?_
                    rintro e w' ⟨rfl, rfl⟩
                    go_wp2_with fail
                    refine (HC.out _).mono ?_
                    rintro e w' ⟨rfl, rfl⟩
                    go_wp2_with fail
                    refine (HH.out _).mono ?_
                    rintro e w' ⟨rfl, rfl⟩
                    go_wp2_with fail
                    go_quiet (fail)
                    go_wp2
                    go_roundw
                    case rel => exact ⟨j + 1, JLT.out, J12.out, by go_num, below_drewN hB _⟩
                    case measure => have := JLT.out; simp [intOf]; omega
                  · have hh' : hasB s m = false := by simpa using hh
                    have g5 := two_pos m.toNat
                    obtain ⟨g4, _, g6⟩ := bit_fits s0 hs hcp hh'
                    rw [(with_new hs hcp hh).1] at HW
                    rw [(with_new hs hcp hh).2] at HO
                    rw [hh'] at HH
                    clear hs hcp hh hh' HK
                    go_wp2_with fail
                    refine (HW.out _).mono ?_
                    rintro e w' ⟨rfl, rfl⟩
                    go_wp2_with fail
                    refine (HO.out _).mono ?_
                    rintro e w' ⟨rfl, rfl⟩
                    go_wp2_with fail
                    refine (HG.out _).mono ?_
                    rintro e w' ⟨rfl, rfl⟩
                    go_wp2_with fail
                    refine (HC.out _).mono ?_
                    rintro e w' ⟨rfl, rfl⟩
                    go_wp2_with fail
                    refine (HH.out _).mono ?_
                    rintro e w' ⟨rfl, rfl⟩
                    go_wp2_with fail
                    go_quiet (fail)
                    go_wp2
                    go_roundw
                    case rel => exact ⟨j + 1, JLT.out, J12.out, by go_num, below_drewN hB _⟩
                    case measure => have := JLT.out; simp [intOf]; omega
                · rw [(with_none hs hcp).1] at HW
                  rw [(with_none hs hcp).2] at HO
                  rw [show cpuB m = false by simpa using hcp] at HC
                  clear hs hcp HK HH
                  go_wp2_with fail
                  refine (HW.out _).mono ?_
                  rintro e w' ⟨rfl, rfl⟩
                  go_wp2_with fail
                  refine (HO.out _).mono ?_
                  rintro e w' ⟨rfl, rfl⟩
                  go_wp2_with fail
                  refine (HG.out _).mono ?_
                  rintro e w' ⟨rfl, rfl⟩
                  go_wp2_with fail
                  refine (HC.out _).mono ?_
                  rintro e w' ⟨rfl, rfl⟩
                  go_wp2
                  go_roundw
                  case rel => exact ⟨j + 1, JLT.out, J12.out, by go_num, hB⟩
                  case measure => have := JLT.out; simp [intOf]; omega
              · rw [(with_big hs).1] at HW
                rw [(with_big hs).2] at HO
                rw [decide_eq_false hs] at HG
                clear hs HK HH HC
                go_wp2_with fail
                refine (HW.out _).mono ?_
                rintro e w' ⟨rfl, rfl⟩
                go_wp2_with fail
                refine (HO.out _).mono ?_
                rintro e w' ⟨rfl, rfl⟩
                go_wp2_with fail
                refine (HG.out _).mono ?_
                rintro e w' ⟨rfl, rfl⟩
                go_wp2
                go_roundw
                case rel => exact ⟨j + 1, JLT.out, J12.out, by go_num, hB⟩
                case measure => have := JLT.out; simp [intOf]; omega
          · obtain rfl : n' = j := by omega
            clear hj12
            go_wp2
            go_roundw
            case rel => exact ⟨k + 1, HLT.out, H12.out, by go_num, hB⟩
            case measure => have := HLT.out; simp [intOf]; omega
    · obtain rfl : n = k := by omega
      clear hk12
      go_wp2
      go_ret
      exact ⟨rfl, hB⟩

end Go.Proofs.YtbmlhodglemplaaDoor
