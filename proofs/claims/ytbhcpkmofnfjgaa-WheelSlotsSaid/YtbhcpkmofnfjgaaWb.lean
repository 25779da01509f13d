/-
  The landed wheel: mayStand, Check. No statement is proved here.
-/
import Derived.Test.YtbhcpkmofnfjgaaWa
namespace Go.Proofs.Ytbhcpkmofnfjgaa
open Go.RowKit

set_option maxRecDepth 100000 in
set_option maxHeartbeats 1000000 in
theorem may_any (now a b : Int) (w : World) : Calls Try.prog 27 #[.int .i64 now, .agg #[.int .i64 a, .int .i64 b]] w (Said (.bool (tmB now (a, b))) w) := by
  obtain ⟨K0, GB⟩ := box1 w 44 #[.int .i64 a, .int .i64 b]
  have z0 := K0.cell 0
  have z1 := K0.cell 1
  have HV : Hid (tmB now (a, b) = (decide (0 ≤ a) && decide (a < 32) && decide (now < b) && decide (b ≤ 1125899906842624))) := Lib.hid rfl
  cases h0 : decide (0 ≤ a) with
  | false =>
    rw [h0] at HV
    go_enter Try.func27, Try.ntmps27
    go_wp2
    go_ret
    exact ⟨retB (HV.out.trans (by simp)).symm, GB⟩
  | true =>
    rw [h0] at HV
    cases h1 : decide (a < 32) with
    | false =>
      rw [h1] at HV
      go_enter Try.func27, Try.ntmps27
      go_wp2
      go_ret
      exact ⟨retB (HV.out.trans (by simp)).symm, GB⟩
    | true =>
      rw [h1] at HV
      cases h2 : decide (now < b) with
      | false =>
        rw [h2] at HV
        go_enter Try.func27, Try.ntmps27
        go_wp2
        go_ret
        exact ⟨retB (HV.out.trans (by simp)).symm, GB⟩
      | true =>
        rw [h2] at HV
        cases h3 : decide (b ≤ 1125899906842624) with
        | false =>
          rw [h3] at HV
          go_enter Try.func27, Try.ntmps27
          go_wp2
          go_ret
          exact ⟨retB (HV.out.trans (by simp)).symm, GB⟩
        | true =>
          rw [h3] at HV
          go_enter Try.func27, Try.ntmps27
          go_wp2
          go_ret
          exact ⟨retB HV.out.symm, GB⟩

set_option maxRecDepth 100000 in
set_option maxHeartbeats 4000000 in
theorem check_any (now : Int) (A : Option Addr) (n c : Nat) (ts : List Tm) (w : World) (hG : WR w A n ts) : Calls Try.prog 23 #[.agg #[.int .i64 now, .slice A n c]] w (Said (.int .i64 (errW (chkW now ts))) w) := by
  obtain ⟨K0, GB⟩ := box1 w 24 #[.int .i64 now, .slice A n c]
  have HG := Lib.hid hG
  have HL := Lib.hid hG.len
  have n9 : n ≤ 1000 := hG.small
  have HM := Lib.hid (fun (a b : Int) (u : World) => may_any now a b u)
  have HV : Hid (chkW now ts = (decide (0 ≤ now) && decide (now ≤ 1125899906842624) && riseT now (-1) ts)) := Lib.hid rfl
  have z0 := K0.cell 0
  have z1 := K0.cell 1
  clear hG
  cases h0 : decide (0 ≤ now) with
  | false =>
    rw [h0] at HV
    have e0 : decide (now < 0) = true := by simp only [decide_eq_false_iff_not, decide_eq_true_eq] at h0 ⊢; omega
    clear h0
    go_enter Try.func23, Try.ntmps23
    go_wp2
    go_ret
    exact ⟨retI (by rw [HV.out]; rfl), GB⟩
  | true =>
    rw [h0] at HV
    have e0 : decide (now < 0) = false := by simp only [decide_eq_false_iff_not, decide_eq_true_eq] at h0 ⊢; omega
    clear h0
    cases h1 : decide (now ≤ 1125899906842624) with
    | false =>
      rw [h1] at HV
      have e1 : decide (1125899906842624 < now) = true := by simp only [decide_eq_false_iff_not, decide_eq_true_eq] at h1 ⊢; omega
      clear h1
      go_enter Try.func23, Try.ntmps23
      go_wp2
      go_ret
      exact ⟨retI (by rw [HV.out]; rfl), GB⟩
    | true =>
      rw [h1, Bool.true_and, Bool.true_and] at HV
      have e1 : decide (1125899906842624 < now) = false := by simp only [decide_eq_false_iff_not, decide_eq_true_eq] at h1 ⊢; omega
      clear h1
      go_enter Try.func23, Try.ntmps23
      go_wp2_with fail
      clear z0 z1
      go_loopw [3, 17] (fun s i wr => ∃ (k : Nat) (la : Int), k ≤ n ∧ s = .int .i64 la ∧ i = .int .i64 (k : Int) ∧ Hid (chkW now ts = riseT now la (ts.drop k)) ∧ Blk wr w.heap.size 24 #[.int .i64 now, .slice A n c] ∧ Below w.heap.size w wr) (fun _ i _ => n - (intOf i).toNat)
      case atStart => exact ⟨0, -1, Nat.zero_le _, rfl, rfl, HV, K0, GB⟩
      case round =>
        clear K0 GB HV
        obtain ⟨k, la, hk, rfl, rfl, HC, K0, GB⟩ := hrel
        by_cases hlt : k < n
        · obtain ⟨⟨a, b⟩, hx⟩ := elem_at (l := ts) (k := k) (by rw [HL.out]; exact hlt)
          obtain ⟨ad, rfl, hb, c0, c1⟩ := tm_at (HG.out.below GB).row hx
          have HN := Lib.hid (HC.out.trans (riseT_at hx))
          have j0 : (0 : Int) ≤ (k : Int) := by omega
          have j1 : (k : Int) < (n : Int) := by omega
          have HMx := Lib.hid (fun (u : World) => HM.out a b u)
          have KB := Blk.new wr 44 #[.int .i64 a, .int .i64 b]
          have K1 := K0.alloc (.cells #[.int .i64 a, .int .i64 b] 44)
          have GB1 := GB.alloc GB.size (.cells #[.int .i64 a, .int .i64 b] 44)
          have y0 := KB.cell 0
          have y1 := KB.cell 1
          have z0 := K1.cell 0
          have z1 := K1.cell 1
          clear hx hb
          cases h2 : decide (la < a) with
          | false =>
            have e2 : decide (a ≤ la) = true := by simp only [decide_eq_false_iff_not, decide_eq_true_eq] at h2 ⊢; omega
            have HE : Hid (chkW now ts = false) := Lib.hid (by rw [HN.out]; dsimp only; rw [h2]; rfl)
            clear h2
            go_wp2_with fail
            go_ret
            exact ⟨retI (by rw [HE.out]; rfl), GB1⟩
          | true =>
            have e2 : decide (a ≤ la) = false := by simp only [decide_eq_false_iff_not, decide_eq_true_eq] at h2 ⊢; omega
            cases h3 : tmB now (a, b) with
            | false =>
              have HE : Hid (chkW now ts = false) := Lib.hid (by rw [HN.out]; dsimp only; rw [h2, h3]; rfl)
              rw [h3] at HMx
              clear h2 h3
              go_wp2_with fail
              refine (HMx.out _).mono ?_
              rintro e w1 ⟨rfl, h9⟩
              replace GB1 := GB1.trans (h9.mono GB1.size)
              clear h9 y0 y1 z0 z1 KB K1
              go_wp2
              go_ret
              exact ⟨retI (by rw [HE.out]; rfl), GB1⟩
            | true =>
              have HE : Hid (chkW now ts = riseT now a (ts.drop (k + 1))) := Lib.hid (by rw [HN.out]; dsimp only; rw [h2, h3]; rfl)
              rw [h3] at HMx
              clear h2 h3
              go_wp2_with fail
              refine (HMx.out _).mono ?_
              rintro e w1 ⟨rfl, h9⟩
              replace GB1 := GB1.trans (h9.mono GB1.size)
              replace K1 := K1.below h9 K1.lt
              replace KB := KB.below h9 KB.lt
              clear h9 y0 y1 z0 z1
              have y0 := KB.cell 0
              go_wp2
              go_roundw
              case rel => exact ⟨k + 1, a, by omega, rfl, by go_num, HE, K1, GB1⟩
              case measure => simp [intOf] <;> omega
        · obtain rfl : k = n := by omega
          have HE : Hid (chkW now ts = true) := Lib.hid (by rw [HC.out, ← HL.out, List.drop_length]; rfl)
          go_wp2
          go_ret
          exact ⟨retI (by rw [HE.out]; rfl), GB⟩

end Go.Proofs.Ytbhcpkmofnfjgaa
