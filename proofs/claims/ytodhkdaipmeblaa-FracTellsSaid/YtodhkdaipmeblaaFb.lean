/-
  The contract of the document's Number of a fraction. No statement is proved here.
-/
import Derived.Test.YtodhkdaipmeblaaFa
namespace Go.Proofs.Ytodhkdaipmeblaa
open Go.RowKit

/-- a fraction's number, and whether it is one -/
def num5 (N : Nat) : Nat × Nat × Bool := if N < 2 ^ 100 then (N / 2 ^ 64, N % 2 ^ 64, true) else (0, 0, false)
theorem num5_yes {N : Nat} (h : N < 2 ^ 100) : num5 N = (N / 2 ^ 64, N % 2 ^ 64, true) := if_pos h
theorem num5_no {N : Nat} (h : ¬ N < 2 ^ 100) : num5 N = (0, 0, false) := if_neg h
/-- a wide number and whether -/
def wv (h l : Nat) (b : Bool) : Value := .tuple #[.agg #[.int .u64 (h : Int), .int .u64 (l : Int)], .bool b]

set_option maxRecDepth 100000 in
set_option maxHeartbeats 2000000 in
theorem rnum_any (N : Nat) (w : World) (hN : N < 2 ^ 256) : Calls Try.prog 43 #[.agg (cellsOf N.testBit)] w (Said (wv (num5 N).1 (num5 N).2.1 (num5 N).2.2) w) := by
  have hz := zero_bits
  have HN := Lib.hid (fun u => number_c N u hN)
  obtain ⟨F1, F2, BF⟩ := blks2 w 38 24 (cellsOf N.testBit) #[.int .u64 0, .int .u64 0]
  obtain ⟨h, hh⟩ : ∃ h, N % 2 ^ 128 / 2 ^ 64 = h := ⟨_, rfl⟩
  obtain ⟨l, hl⟩ : ∃ l, N % 2 ^ 64 = l := ⟨_, rfl⟩
  obtain ⟨b, hb⟩ : ∃ b, decide (N < 2 ^ 128) = b := ⟨_, rfl⟩
  rw [hh, hl, hb] at HN
  have hcase : (b = true ∧ h < 68719476736 ∧ num5 N = (h, l, true)) ∨ (b = true ∧ 68719476736 ≤ h ∧ num5 N = (0, 0, false)) ∨ (b = false ∧ num5 N = (0, 0, false)) := by
    by_cases h1 : N < 2 ^ 128
    · have e : N % 2 ^ 128 = N := Nat.mod_eq_of_lt h1
      rw [e] at hh
      have hbt : b = true := by rw [← hb]; exact decide_eq_true h1
      by_cases h2 : N < 2 ^ 100
      · refine .inl ⟨hbt, by omega, ?_⟩
        rw [num5_yes h2, hh, hl]
      · exact .inr (.inl ⟨hbt, by omega, num5_no h2⟩)
    · exact .inr (.inr ⟨by rw [← hb]; exact decide_eq_false h1, num5_no (by omega)⟩)
  clear hh hl hb hN
  generalize num5 N = R at *
  rcases hcase with ⟨rfl, hlt, rfl⟩ | ⟨rfl, hge, rfl⟩ | ⟨rfl, rfl⟩
  · have g : decide ((68719476736 : Int) ≤ (h : Int)) = false := by simp; omega
    clear hlt
    go_enter Try.func43, Try.ntmps43
    go_wp2_with (refine wpList_load_row rfl 38 (.tmp 1) rfl _ rfl _ _ (0, 0) _ F1 Try.underlying38 rfl (size_bits _) ?_)
    refine (HN.out _).mono ?_
    rintro e w2 ⟨rfl, h2⟩
    have K := F2.below h2 F2.lt
    have B := BF.trans (h2.mono BF.size)
    clear F1 F2 BF h2
    have x0 : w2.cell? ⟨w.heap.size + 1, 0, none⟩ = some (.int .u64 0) := K.cell 0
    have x1 : w2.cell? ⟨w.heap.size + 1, 1, none⟩ = some (.int .u64 0) := K.cell 1
    have f0 := K.frozen 0
    have f1 := K.frozen 1
    have kl := K.lt
    have HK := Lib.hid K
    have HB := Lib.hid B
    clear K B
    have HS := Lib.hid ((HK.out.set2 (x := .int .u64 (h : Int)) (y := .int .u64 (l : Int))).alloc (.cells #[.int .u64 (h : Int), .int .u64 (l : Int)] 24))
    have HT := Lib.hid (((HB.out.setCell (p := ⟨w.heap.size + 1, 0, none⟩) (by simp) (.int .u64 (h : Int))).setCell (p := ⟨w.heap.size + 1, 1, none⟩) (by simp) (.int .u64 (l : Int))).alloc (by have := HB.out.size; simp; omega) (.cells #[.int .u64 (h : Int), .int .u64 (l : Int)] 24))
    go_wp2_with fail
    exact bodyPost_ret (v := .tuple #[.agg #[.int .u64 (h : Int), .int .u64 (l : Int)], .bool true]) (results_cell_row_tmp Try.results43 _ _ _ _ _ _ rfl HS.out Try.underlying24 rfl (by kernel_rfl)) rfl ⟨rfl, HT.out⟩
  · have g : decide ((68719476736 : Int) ≤ (h : Int)) = true := by simp; omega
    clear hge
    go_enter Try.func43, Try.ntmps43
    go_wp2_with (refine wpList_load_row rfl 38 (.tmp 1) rfl _ rfl _ _ (0, 0) _ F1 Try.underlying38 rfl (size_bits _) ?_)
    refine (HN.out _).mono ?_
    rintro e w2 ⟨rfl, h2⟩
    have K := F2.below h2 F2.lt
    have B := BF.trans (h2.mono BF.size)
    clear F1 F2 BF h2
    have x0 : w2.cell? ⟨w.heap.size + 1, 0, none⟩ = some (.int .u64 0) := K.cell 0
    have x1 : w2.cell? ⟨w.heap.size + 1, 1, none⟩ = some (.int .u64 0) := K.cell 1
    have f0 := K.frozen 0
    have f1 := K.frozen 1
    have kl := K.lt
    have HK := Lib.hid K
    have HB := Lib.hid B
    clear K B
    have HS := Lib.hid ((HK.out.set2 (x := .int .u64 0) (y := .int .u64 0)).alloc (.cells #[.int .u64 (h : Int), .int .u64 (l : Int)] 24))
    have HT := Lib.hid (((HB.out.setCell (p := ⟨w.heap.size + 1, 0, none⟩) (by simp) (.int .u64 0)).setCell (p := ⟨w.heap.size + 1, 1, none⟩) (by simp) (.int .u64 0)).alloc (by have := HB.out.size; simp; omega) (.cells #[.int .u64 (h : Int), .int .u64 (l : Int)] 24))
    go_wp2_with fail
    exact bodyPost_ret (v := .tuple #[.agg #[.int .u64 0, .int .u64 0], .bool false]) (results_cell_row_tmp Try.results43 _ _ _ _ _ _ rfl HS.out Try.underlying24 rfl (by kernel_rfl)) rfl ⟨rfl, HT.out⟩
  · skip
    go_enter Try.func43, Try.ntmps43
    go_wp2_with (refine wpList_load_row rfl 38 (.tmp 1) rfl _ rfl _ _ (0, 0) _ F1 Try.underlying38 rfl (size_bits _) ?_)
    refine (HN.out _).mono ?_
    rintro e w2 ⟨rfl, h2⟩
    have K := F2.below h2 F2.lt
    have B := BF.trans (h2.mono BF.size)
    clear F1 F2 BF h2
    have x0 : w2.cell? ⟨w.heap.size + 1, 0, none⟩ = some (.int .u64 0) := K.cell 0
    have x1 : w2.cell? ⟨w.heap.size + 1, 1, none⟩ = some (.int .u64 0) := K.cell 1
    have f0 := K.frozen 0
    have f1 := K.frozen 1
    have kl := K.lt
    have HK := Lib.hid K
    have HB := Lib.hid B
    clear K B
    have HS := Lib.hid ((HK.out.set2 (x := .int .u64 0) (y := .int .u64 0)).alloc (.cells #[.int .u64 (h : Int), .int .u64 (l : Int)] 24))
    have HT := Lib.hid (((HB.out.setCell (p := ⟨w.heap.size + 1, 0, none⟩) (by simp) (.int .u64 0)).setCell (p := ⟨w.heap.size + 1, 1, none⟩) (by simp) (.int .u64 0)).alloc (by have := HB.out.size; simp; omega) (.cells #[.int .u64 (h : Int), .int .u64 (l : Int)] 24))
    go_wp2_with fail
    exact bodyPost_ret (v := .tuple #[.agg #[.int .u64 0, .int .u64 0], .bool false]) (results_cell_row_tmp Try.results43 _ _ _ _ _ _ rfl HS.out Try.underlying24 rfl (by kernel_rfl)) rfl ⟨rfl, HT.out⟩

end Go.Proofs.Ytodhkdaipmeblaa
