/-
  The contracts of the document's sums and differences of rows of bits. No statement is proved here.
-/
import Derived.Test.YtfgabmelmopgdaaBm
namespace Go.Proofs.Ytfgabmelmopgdaa
open Go.RowKit

set_option maxHeartbeats 4000000 in
set_option maxRecDepth 100000 in
theorem sum_any (a b : Nat) (w : World) : Calls Try.prog 92 #[.agg (bv a), .agg (bv b)] w (Row (bv (a + b)) w) := by
  have hz := zero_bits
  unfold bv
  go_enter Try.func92, Try.ntmps92
  go_wp2_with fail
  go_loopw [6, 7] (fun c i wr => ∃ k : Nat, k ≤ 256 ∧ i = .int .i64 k ∧ c = .bool (cy a b k) ∧ Blk wr w.heap.size 108 (cellsOf a.testBit) ∧ Blk wr (w.heap.size + 1) 108 (cellsOf b.testBit) ∧
    Blk wr (w.heap.size + 1 + 1) 108 (cellsOf none_) ∧ Blk wr (w.heap.size + 1 + 1 + 1) 108 (cellsOf fun j => decide (j < k) && (a + b).testBit j) ∧ Below w.heap.size w wr) (fun _ i _ => 256 - (intOf i).toNat)
  case atStart =>
    obtain ⟨b1, b2, b3, b4, hb⟩ := blks4 w 108 108 108 108 (cellsOf a.testBit) (cellsOf b.testBit) (cellsOf none_) (cellsOf none_)
    exact ⟨0, by omega, rfl, by rw [cy_zero], b1, b2, b3, by rw [grown_none]; exact b4, hb⟩
  case round =>
    obtain ⟨k, hk, rfl, rfl, B1, B2, B3, B4, hB⟩ := hrel
    by_cases hlt : k < 256
    · have c1 := (B1.cell k).trans (cellsOf_at _ hlt)
      have c2 := (B2.cell k).trans (cellsOf_at _ hlt)
      have c4 := (B4.cell k).trans (cellsOf_at _ hlt)
      have f4 := B4.frozen k
      have HB1 := Lib.hid B1
      have HB2 := Lib.hid B2
      have HB3 := Lib.hid B3
      have HB4 := Lib.hid B4
      have hsz := B4.lt
      have HS := Lib.hid (sum_bit (a := a) (b := b) hlt)
      have HC := Lib.hid (cy_succ (a := a) (b := b) hlt)
      clear B1 B2 B3 B4
      cases ha : a.testBit k <;> cases hb : b.testBit k <;> cases hc : cy a b k
      all_goals
        rw [ha] at c1
        rw [hb] at c2
        have HV := Lib.hid (show (a + b).testBit k = _ by rw [HS.out, ha, hb, hc])
        have HC2 := Lib.hid (show cy a b (k + 1) = _ by rw [HC.out, ha, hb, hc])
        clear ha hb hc
        go_wp2
        go_roundw
        case rel =>
          exact ⟨k + 1, by omega, by go_num, by rw [HC2.out]; rfl, HB1.out.far (by simp <;> omega) _, HB2.out.far (by simp <;> omega) _, HB3.out.far (by simp) _,
            by rw [← grow_bit hlt HV.out]; exact HB4.out.set_ k _, hB.setCell (by simp <;> omega) _⟩
        case measure => simp [intOf]; omega
    · obtain rfl : k = 256 := by omega
      rw [grown_all] at B4
      have HB := Lib.hid (B3.row (cs' := cellsOf (a + b).testBit))
      have hsz := B4.lt
      go_wp2_with (first
        | (refine wpList_load_row rfl 108 (.tmp 5) rfl _ rfl _ _ (0, 0) _ B4 Try.underlying108 rfl (size_bits _) ?_)
        | (refine wpList_store_row rfl 108 (.tmp 4) (.tmp 33) rfl _ _ rfl rfl _ _ B3 (size_bits _) (by rw [cellsOf_size, cellsOf_size]) (cellsOf_one _) ?_))
      exact bodyPost_ret (v := .agg (cellsOf (a + b).testBit)) (results_cell_row Try.results92 _ _ _ _ _ _ _ rfl HB.out Try.underlying108 rfl (size_bits _)) rfl ⟨rfl, below_row hB (by omega)⟩


set_option maxRecDepth 100000 in
theorem top_bits {a b m : Nat} (h : ∀ j, m < j → j < 256 → a.testBit j = b.testBit j) (ha : a < 2 ^ 256) (hb : b < 2 ^ 256) : a / 2 ^ (m + 1) = b / 2 ^ (m + 1) := by
  apply Nat.eq_of_testBit_eq
  intro i
  rw [Nat.testBit_div_two_pow, Nat.testBit_div_two_pow]
  by_cases hi : i + (m + 1) < 256
  · exact h _ (by omega) hi
  · rw [Nat.testBit_lt_two_pow (Nat.lt_of_lt_of_le ha (Nat.pow_le_pow_right (by omega) (by omega))), Nat.testBit_lt_two_pow (Nat.lt_of_lt_of_le hb (Nat.pow_le_pow_right (by omega) (by omega)))]
set_option maxRecDepth 100000 in
theorem less_at {a b m : Nat} (h : ∀ j, m < j → j < 256 → a.testBit j = b.testBit j) (ha : a < 2 ^ 256) (hb : b < 2 ^ 256) (h1 : a.testBit m = false) (h2 : b.testBit m = true) : a < b := by
  have ht := top_bits h ha hb
  rw [Nat.pow_succ, ← Nat.div_div_eq_div_mul, ← Nat.div_div_eq_div_mul] at ht
  rw [Nat.testBit_eq_decide_div_mod_eq] at h1 h2
  have h1' := of_decide_eq_false h1
  have h2' := of_decide_eq_true h2
  generalize hq : a / 2 ^ m = x at *
  generalize hr : b / 2 ^ m = y at *
  have hlt : x < y := by omega
  rw [← hq, ← hr] at hlt
  exact Nat.lt_of_not_le fun hle => absurd (Nat.div_le_div_right (c := 2 ^ m) hle) (by omega)
set_option maxRecDepth 100000 in
theorem same_all {a b : Nat} (h : ∀ j, j < 256 → a.testBit j = b.testBit j) (ha : a < 2 ^ 256) (hb : b < 2 ^ 256) : a = b := by
  apply Nat.eq_of_testBit_eq
  intro i
  by_cases hi : i < 256
  · exact h i hi
  · rw [Nat.testBit_lt_two_pow (Nat.lt_of_lt_of_le ha (Nat.pow_le_pow_right (by omega) (by omega))), Nat.testBit_lt_two_pow (Nat.lt_of_lt_of_le hb (Nat.pow_le_pow_right (by omega) (by omega)))]

set_option maxHeartbeats 4000000 in
set_option maxRecDepth 100000 in
theorem less_any (a b : Nat) (w : World) (ha : a < 2 ^ 256) (hb : b < 2 ^ 256) : Calls Try.prog 71 #[.agg (bv a), .agg (bv b)] w fun e w' => e = .returned (.bool (decide (a < b))) ∧ Below w.heap.size w w' := by
  have HA := Lib.hid ha
  have HB := Lib.hid hb
  clear ha hb
  unfold bv
  go_enter Try.func71, Try.ntmps71
  go_wp2_with fail
  go_loopw [5] (fun i wr => ∃ (k : Nat) (i0 : Int), k ≤ 256 ∧ i = .int .i64 i0 ∧ i0 = (k : Int) - 1 ∧ Blk wr w.heap.size 108 (cellsOf a.testBit) ∧ Blk wr (w.heap.size + 1) 108 (cellsOf b.testBit) ∧
    (∀ j, k ≤ j → j < 256 → a.testBit j = b.testBit j) ∧ Below w.heap.size w wr) (fun i _ => (intOf i + 1).toNat)
  case atStart =>
    obtain ⟨b1, b2, hbw⟩ := blks2 w 108 108 (cellsOf a.testBit) (cellsOf b.testBit)
    exact ⟨256, 255, by omega, rfl, by omega, b1, b2, fun j h1 h2 => by omega, hbw⟩
  case round =>
    obtain ⟨k, i0, hk, rfl, hi0, B1, B2, hall, hB⟩ := hrel
    have HALL := Lib.hid hall
    clear hall
    rcases k with _ | m
    · obtain rfl : i0 = -1 := by omega
      have HE := Lib.hid (show decide (a < b) = false from decide_eq_false (by have := same_all (fun j hj => HALL.out j (by omega) hj) HA.out HB.out; omega))
      clear hi0
      go_wp2
      go_ret
      exact ⟨by rw [HE.out]; rfl, hB⟩
    · obtain rfl : i0 = (m : Int) := by omega
      have c1 := (B1.cell m).trans (cellsOf_at _ (by omega))
      have c2 := (B2.cell m).trans (cellsOf_at _ (by omega))
      have HB1 := Lib.hid B1
      have HB2 := Lib.hid B2
      have hm : m < 256 := by omega
      clear B1 B2 hi0
      cases h1 : a.testBit m <;> cases h2 : b.testBit m
      · rw [h1] at c1
        rw [h2] at c2
        have HN := Lib.hid (show ∀ j, m ≤ j → j < 256 → a.testBit j = b.testBit j from fun j hj hj2 => by
          rcases Nat.lt_or_ge m j with h | h
          · exact HALL.out j h hj2
          · obtain rfl : j = m := by omega
            rw [h1, h2])
        clear h1 h2
        go_wp2
        go_quiet (fail)
        go_wp2
        go_roundw
        case rel => exact ⟨m, _, by omega, rfl, by omega, HB1.out, HB2.out, HN.out, below_drewN hB _⟩
        case measure => simp [intOf]
      · rw [h1] at c1
        rw [h2] at c2
        have HE := Lib.hid (show decide (a < b) = true from decide_eq_true (less_at (fun j hj hj2 => HALL.out j hj hj2) HA.out HB.out h1 h2))
        clear h1 h2
        go_wp2
        go_quiet (fail)
        go_wp2
        go_ret
        exact ⟨by rw [HE.out]; rfl, below_drewN hB _⟩
      · rw [h1] at c1
        rw [h2] at c2
        have HE := Lib.hid (show decide (a < b) = false from decide_eq_false (by
          have := less_at (a := b) (b := a) (fun j hj hj2 => (HALL.out j hj hj2).symm) HB.out HA.out h2 h1
          omega))
        clear h1 h2
        go_wp2
        go_quiet (fail)
        go_wp2
        go_ret
        exact ⟨by rw [HE.out]; rfl, below_drewN hB _⟩
      · rw [h1] at c1
        rw [h2] at c2
        have HN := Lib.hid (show ∀ j, m ≤ j → j < 256 → a.testBit j = b.testBit j from fun j hj hj2 => by
          rcases Nat.lt_or_ge m j with h | h
          · exact HALL.out j h hj2
          · obtain rfl : j = m := by omega
            rw [h1, h2])
        clear h1 h2
        go_wp2
        go_quiet (fail)
        go_wp2
        go_roundw
        case rel => exact ⟨m, _, by omega, rfl, by omega, HB1.out, HB2.out, HN.out, below_drewN hB _⟩
        case measure => simp [intOf]

end Go.Proofs.Ytfgabmelmopgdaa
