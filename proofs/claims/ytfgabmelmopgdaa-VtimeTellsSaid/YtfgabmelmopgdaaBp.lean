/-
  The contract of the document's product. No statement is proved here.
-/
import Derived.Test.YtfgabmelmopgdaaBn
namespace Go.Proofs.Ytfgabmelmopgdaa
open Go.RowKit

set_option maxRecDepth 100000 in
theorem twice_c (N : Nat) (w : World) : Calls Try.prog 91 #[.agg (cellsOf N.testBit)] w (Row (cellsOf (2 * N).testBit) w) := twice_any N w
set_option maxRecDepth 100000 in
theorem sum_c (a b : Nat) (w : World) : Calls Try.prog 92 #[.agg (cellsOf a.testBit), .agg (cellsOf b.testBit)] w (Row (cellsOf (a + b).testBit) w) := sum_any a b w

set_option maxRecDepth 100000 in
theorem mul_step0 {a m j : Nat} (h : m.testBit j = false) : 2 * (a * (m / 2 ^ (j + 1))) = a * (m / 2 ^ j) := by
  have e : m / 2 ^ (j + 1) = m / 2 ^ j / 2 := by rw [Nat.div_div_eq_div_mul, ← Nat.pow_succ]
  rw [Nat.testBit_eq_decide_div_mod_eq] at h
  have h' := of_decide_eq_false h
  rw [e]
  generalize m / 2 ^ j = x at *
  have e2 : x = 2 * (x / 2) := by omega
  conv => rhs; rw [e2]
  rw [Nat.mul_left_comm]
set_option maxRecDepth 100000 in
theorem mul_step1 {a m j : Nat} (h : m.testBit j = true) : 2 * (a * (m / 2 ^ (j + 1))) + a = a * (m / 2 ^ j) := by
  have e : m / 2 ^ (j + 1) = m / 2 ^ j / 2 := by rw [Nat.div_div_eq_div_mul, ← Nat.pow_succ]
  rw [Nat.testBit_eq_decide_div_mod_eq] at h
  have h' := of_decide_eq_true h
  rw [e]
  generalize m / 2 ^ j = x at *
  have e2 : x = 2 * (x / 2) + 1 := by omega
  conv => rhs; rw [e2]
  rw [Nat.mul_add, Nat.mul_one, Nat.mul_left_comm]

set_option maxHeartbeats 4000000 in
set_option maxRecDepth 100000 in
theorem product_any (a m : Nat) (w : World) (hm : m < 2 ^ 64) : Calls Try.prog 69 #[.agg (bv a), .int .u64 (m : Int)] w (Row (bv (a * m)) w) := by
  have hz := zero_bits
  have HM := Lib.hid hm
  clear hm
  unfold bv
  go_enter Try.func69, Try.ntmps69
  go_wp2_with fail
  go_loopw [6] (fun i wr => ∃ (k : Nat) (i0 : Int), k ≤ 64 ∧ i = .int .i64 i0 ∧ i0 = (k : Int) - 1 ∧ Blk wr w.heap.size 108 (cellsOf a.testBit) ∧ Blk wr (w.heap.size + 1) 108 (cellsOf none_) ∧
    Blk wr (w.heap.size + 1 + 1) 108 (cellsOf (a * (m / 2 ^ k)).testBit) ∧ Below w.heap.size w wr) (fun i _ => (intOf i + 1).toNat)
  case atStart =>
    obtain ⟨b1, b2, b3, hb⟩ := blks3 w 108 108 108 (cellsOf a.testBit) (cellsOf none_) (cellsOf none_)
    refine ⟨64, 63, by omega, rfl, by omega, b1, b2, ?_, hb⟩
    rw [Nat.div_eq_of_lt HM.out, Nat.mul_zero, cellsOf_congr (f := (0 : Nat).testBit) (g := none_) (fun i _ => by simp [none_])]
    exact b3
  case round =>
    obtain ⟨k, i0, hk, rfl, hi0, B1, B2, B3, hB⟩ := hrel
    rcases k with _ | j
    · obtain rfl : i0 = -1 := by omega
      rw [Nat.pow_zero, Nat.div_one] at B3
      obtain ⟨V, hV⟩ : ∃ V, a * m = V := ⟨_, rfl⟩
      rw [hV] at B3
      have HV := Lib.hid hV
      have HB := Lib.hid (B2.row (cs' := cellsOf V.testBit))
      have hsz := B3.lt
      clear hV hi0
      go_wp2_with (first
        | (refine wpList_load_row rfl 108 (.tmp 5) rfl _ rfl _ _ (0, 0) _ B3 Try.underlying108 rfl (size_bits _) ?_)
        | (refine wpList_store_row rfl 108 (.tmp 4) (.tmp 22) rfl _ _ rfl rfl _ _ B2 (size_bits _) (by rw [cellsOf_size, cellsOf_size]) (cellsOf_one _) ?_))
      exact bodyPost_ret (v := .agg (cellsOf V.testBit)) (results_cell_row Try.results69 _ _ _ _ _ _ _ rfl HB.out Try.underlying108 rfl (size_bits _)) rfl ⟨by rw [HV.out], below_row hB (by omega)⟩
    · obtain rfl : i0 = (j : Int) := by omega
      have hsz := B3.lt
      have hji : (j : Int) ≤ 63 := by omega
      clear hi0
      cases hb : m.testBit j
      · have hbit : (((m : Int) / 2 ^ j).tmod 2 == 1) = false := by rw [bitI, hb]
        have HST := Lib.hid (mul_step0 (a := a) hb)
        clear hb
        go_wp2_with (refine wpList_load_row rfl 108 (.tmp 5) rfl _ rfl _ _ (0, 0) _ B3 Try.underlying108 rfl (size_bits _) ?_)
        refine (twice_c _ _).mono ?_
        rintro e w2 ⟨rfl, h2⟩
        have C1 := B1.below h2 B1.lt
        have C2 := B2.below h2 B2.lt
        have C3 := B3.below h2 B3.lt
        have hB2 := hB.trans (h2.mono hB.size)
        clear B1 B2 B3 h2 hB
        have D3 := C3.row (cs' := cellsOf (2 * (a * (m / 2 ^ (j + 1)))).testBit)
        have HD := Lib.hid (And.intro D3 (And.intro (C1.other (g' := w.heap.size + 1 + 1) (cs' := cellsOf (2 * (a * (m / 2 ^ (j + 1)))).testBit) (by omega)) (C2.other (g' := w.heap.size + 1 + 1) (cs' := cellsOf (2 * (a * (m / 2 ^ (j + 1)))).testBit) (by omega))))
        clear D3
        go_wp2_with (refine wpList_store_row rfl 108 (.tmp 5) (.tmp 12) rfl _ _ rfl rfl _ _ C3 (size_bits _) (by rw [cellsOf_size, cellsOf_size]) (cellsOf_one _) ?_)
        go_roundw
        case rel => exact ⟨j, _, by omega, rfl, by omega, HD.out.2.1, HD.out.2.2, by rw [← HST.out]; exact HD.out.1, below_row hB2 (by omega)⟩
        case measure => simp [intOf]
      · have hbit : (((m : Int) / 2 ^ j).tmod 2 == 1) = true := by rw [bitI, hb]
        have HST := Lib.hid (mul_step1 (a := a) hb)
        clear hb
        go_wp2_with (refine wpList_load_row rfl 108 (.tmp 5) rfl _ rfl _ _ (0, 0) _ B3 Try.underlying108 rfl (size_bits _) ?_)
        refine (twice_c _ _).mono ?_
        rintro e w2 ⟨rfl, h2⟩
        have C1 := B1.below h2 B1.lt
        have C2 := B2.below h2 B2.lt
        have C3 := B3.below h2 B3.lt
        have hB2 := hB.trans (h2.mono hB.size)
        clear B1 B2 B3 h2 hB
        obtain ⟨X, hX⟩ : ∃ X, 2 * (a * (m / 2 ^ (j + 1))) = X := ⟨_, rfl⟩
        rw [hX] at HST
        have HX := Lib.hid hX
        have HS := Lib.hid (fun u => sum_c X a u)
        have D3 := C3.row (cs' := cellsOf X.testBit)
        have D1 := C1.other (g' := w.heap.size + 1 + 1) (cs' := cellsOf X.testBit) (by omega)
        have D2 := C2.other (g' := w.heap.size + 1 + 1) (cs' := cellsOf X.testBit) (by omega)
        have hB3 := below_row (g' := w.heap.size + 1 + 1) (cs' := cellsOf X.testBit) hB2 (by omega)
        have hzs : (w2.setRow (w.heap.size + 1 + 1) (cellsOf X.testBit)).heap.size = w2.heap.size := by simp [World.setRow]
        clear C1 C2 hB2
        simp only [hX]
        clear hX
        go_wp2_with (first
          | (refine wpList_store_row rfl 108 (.tmp 5) (.tmp 12) rfl _ _ rfl rfl _ _ C3 (size_bits _) (by rw [cellsOf_size, cellsOf_size]) (cellsOf_one _) ?_)
          | (refine wpList_load_row rfl 108 (.tmp 5) rfl _ rfl _ _ (0, 0) _ D3 Try.underlying108 rfl (size_bits _) ?_)
          | (refine wpList_load_row rfl 108 (.tmp 2) rfl _ rfl _ _ (0, 0) _ D1 Try.underlying108 rfl (size_bits _) ?_))
        refine (HS.out _).mono ?_
        rintro e w3 ⟨rfl, h3⟩
        have E1 := D1.below h3 D1.lt
        have E2 := D2.below h3 D2.lt
        have E3 := D3.below h3 D3.lt
        have hB4 := hB3.trans (h3.mono hB3.size)
        clear D1 D2 D3 h3 hB3 hzs
        have F3 := E3.row (cs' := cellsOf (X + a).testBit)
        have HD := Lib.hid (And.intro F3 (And.intro (E1.other (g' := w.heap.size + 1 + 1) (cs' := cellsOf (X + a).testBit) (by omega)) (E2.other (g' := w.heap.size + 1 + 1) (cs' := cellsOf (X + a).testBit) (by omega))))
        clear F3
        go_wp2_with (refine wpList_store_row rfl 108 (.tmp 5) (.tmp 21) rfl _ _ rfl rfl _ _ E3 (size_bits _) (by rw [cellsOf_size, cellsOf_size]) (cellsOf_one _) ?_)
        go_roundw
        case rel => exact ⟨j, _, by omega, rfl, by omega, HD.out.2.1, HD.out.2.2, by rw [← HST.out]; exact HD.out.1, below_row hB4 (by omega)⟩
        case measure => simp [intOf]

end Go.Proofs.Ytfgabmelmopgdaa
