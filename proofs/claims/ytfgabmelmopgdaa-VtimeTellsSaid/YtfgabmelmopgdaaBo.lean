/-
  The contracts of the document's bits of a number, and the number of bits. No statement is proved here.
-/
import Derived.Test.YtfgabmelmopgdaaBs
namespace Go.Proofs.Ytfgabmelmopgdaa
open Go.RowKit

set_option maxRecDepth 100000 in
theorem bitI (x k : Nat) : (((x : Int) / 2 ^ k).tmod 2 == 1) = x.testBit k := by
  have e : (x : Int) / 2 ^ k = ((x / 2 ^ k : Nat) : Int) := by simp
  rw [e, Nat.testBit_eq_decide_div_mod_eq]
  have e2 : ((x / 2 ^ k : Nat) : Int).tmod 2 = ((x / 2 ^ k % 2 : Nat) : Int) := by rw [Int.ofNat_tmod]; rfl
  rw [e2, Bool.eq_iff_iff]
  simp
  omega
set_option maxRecDepth 100000 in
theorem wide_bits {hi lo : Nat} (hh : hi < 2 ^ 64) (hl : lo < 2 ^ 64) : cellsOf (fun j => (decide (j < 64) && lo.testBit j) || (decide (64 ≤ j) && decide (j < 64 + 64) && hi.testBit (j - 64))) = bv (hi * 2 ^ 64 + lo) :=
  cellsOf_congr fun j _ => by
    rw [Nat.mul_comm, Nat.testBit_two_pow_mul_add hi hl j]
    by_cases h1 : j < 64
    · have h2 : ¬ 64 ≤ j := by omega
      simp [h1, h2]
    · have h2 : 64 ≤ j := by omega
      by_cases h3 : j < 64 + 64
      · simp [h1, h2, h3]
      · have : hi.testBit (j - 64) = false := Nat.testBit_lt_two_pow (Nat.lt_of_lt_of_le hh (Nat.pow_le_pow_right (by omega) (by omega)))
        simp [h1, this]

set_option maxHeartbeats 4000000 in
set_option maxRecDepth 100000 in
theorem of_any (hi lo : Nat) (w : World) (hh : hi < 2 ^ 64) (hl : lo < 2 ^ 64) : Calls Try.prog 70 #[.agg #[.int .u64 (hi : Int), .int .u64 (lo : Int)]] w (Row (bv (hi * 2 ^ 64 + lo)) w) := by
  have hz := zero_bits
  have HH := Lib.hid hh
  have HL := Lib.hid hl
  clear hh hl
  unfold bv
  go_enter Try.func70, Try.ntmps70
  go_wp2_with fail
  go_loopw [4] (fun i wr => ∃ k : Nat, k ≤ 64 ∧ i = .int .i64 k ∧ Blk wr w.heap.size 34 #[.int .u64 (hi : Int), .int .u64 (lo : Int)] ∧ Blk wr (w.heap.size + 1) 108 (cellsOf none_) ∧
    Blk wr (w.heap.size + 1 + 1) 108 (cellsOf fun j => (decide (j < k) && lo.testBit j) || (decide (64 ≤ j) && decide (j < 64 + k) && hi.testBit (j - 64))) ∧ Below w.heap.size w wr) (fun i _ => 64 - (intOf i).toNat)
  case atStart =>
    obtain ⟨b1, b2, b3, hb⟩ := blks3 w 34 108 108 #[.int .u64 (hi : Int), .int .u64 (lo : Int)] (cellsOf none_) (cellsOf none_)
    refine ⟨0, by omega, rfl, b1, b2, ?_, hb⟩
    have e : cellsOf (fun j => (decide (j < 0) && lo.testBit j) || (decide (64 ≤ j) && decide (j < 64 + 0) && hi.testBit (j - 64))) = cellsOf none_ := cellsOf_congr (fun j hj => by
      have : ¬ (64 ≤ j ∧ j < 64) := by omega
      by_cases h1 : 64 ≤ j
      · simp [none_, h1]; omega
      · simp [none_, h1])
    rw [e]
    exact b3
  case round =>
    obtain ⟨k, hk, rfl, B1, B2, B3, hB⟩ := hrel
    by_cases hlt : k < 64
    · have c1 : wr.cell? ⟨w.heap.size, 0, none⟩ = some (.int .u64 (hi : Int)) := B1.cell 0
      have c2 : wr.cell? ⟨w.heap.size, 1, none⟩ = some (.int .u64 (lo : Int)) := B1.cell 1
      have c3 := (B3.cell k).trans (cellsOf_at _ (by omega))
      have c4 := (B3.cell (64 + k)).trans (cellsOf_at _ (by omega))
      have f3 := B3.frozen k
      have f4 := B3.frozen (64 + k)
      have hki : (64 : Int) + (k : Int) < 256 := by omega
      have hki0 : 0 ≤ (64 : Int) + (k : Int) := by omega
      have hki2 : ((64 : Int) + (k : Int)).toNat = 64 + k := by omega
      have HB1 := Lib.hid B1
      have HB2 := Lib.hid B2
      have HB3 := Lib.hid B3
      have hsz := B3.lt
      clear B1 B2 B3
      go_wp2
      go_roundw
      case rel =>
        refine ⟨k + 1, by omega, by go_num, (HB1.out.far (by simp <;> omega) _).far (by simp <;> omega) _, (HB2.out.far (by simp) _).far (by simp) _, ?_, (hB.setCell (by simp <;> omega) _).setCell (by simp <;> omega) _⟩
        have h := (HB3.out.set_ k (.bool ((((lo : Int) / 2 ^ k).tmod 2 == 1)))).set_ (64 + k) (.bool ((((hi : Int) / 2 ^ k).tmod 2 == 1)))
        rw [bitI, bitI, cellsOf_set _ (by omega), cellsOf_set _ (by omega)] at h
        rw [bitI, bitI, cellsOf_congr (g := fun j => if j = 64 + k then hi.testBit k else if j = k then lo.testBit k else (decide (j < k) && lo.testBit j) || (decide (64 ≤ j) && decide (j < 64 + k) && hi.testBit (j - 64)))]
        · exact h
        · intro j hj
          by_cases e1 : j = 64 + k
          · subst e1
            have h1 : ¬ (64 + k < k + 1) := by omega
            have h2 : 64 + k < 64 + (k + 1) := by omega
            simp [h1, h2]
          · rw [if_neg e1]
            by_cases e2 : j = k
            · subst e2
              have h2 : ¬ 64 ≤ j := by omega
              simp [h2]
            · rw [if_neg e2]
              have h1 : decide (j < k + 1) = decide (j < k) := by simp; omega
              have h2 : decide (j < 64 + (k + 1)) = decide (j < 64 + k) := by simp; omega
              rw [h1, h2]
      case measure => simp [intOf]; omega
    · obtain rfl : k = 64 := by omega
      rw [wide_bits HH.out HL.out] at B3
      unfold bv at B3
      obtain ⟨V, hV⟩ : ∃ V, hi * 2 ^ 64 + lo = V := ⟨_, rfl⟩
      rw [hV] at B3
      have HV := Lib.hid hV
      clear hV
      have HB := Lib.hid (B2.row (cs' := cellsOf V.testBit))
      have hsz := B3.lt
      go_wp2_with (first
        | (refine wpList_load_row rfl 108 (.tmp 3) rfl _ rfl _ _ (0, 0) _ B3 Try.underlying108 rfl (size_bits _) ?_)
        | (refine wpList_store_row rfl 108 (.tmp 2) (.tmp 28) rfl _ _ rfl rfl _ _ B2 (size_bits _) (by rw [cellsOf_size, cellsOf_size]) (cellsOf_one _) ?_))
      exact bodyPost_ret (v := .agg (cellsOf V.testBit)) (results_cell_row Try.results70 _ _ _ _ _ _ _ rfl HB.out Try.underlying108 rfl (size_bits _)) rfl ⟨by rw [HV.out], below_row hB (by omega)⟩

end Go.Proofs.Ytfgabmelmopgdaa
