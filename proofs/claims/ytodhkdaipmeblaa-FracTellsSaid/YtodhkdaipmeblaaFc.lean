/-
  The contracts of the document's Add and Less of fractions. No statement is proved here.
-/
import Derived.Test.YtodhkdaipmeblaaFb
namespace Go.Proofs.Ytodhkdaipmeblaa
open Go.RowKit

set_option maxRecDepth 100000 in
set_option maxHeartbeats 2000000 in
theorem radd_any (h l x n : Nat) (w : World) (hh : h < 2 ^ 64) (hl : l < 2 ^ 64) (hn : n < 2 ^ 64) :
    Calls Try.prog 23 #[.agg (fr h l x), .int .u64 (n : Int)] w (Said (wv (num5 (h * 2 ^ 64 + l + n)).1 (num5 (h * 2 ^ 64 + l + n)).2.1 (num5 (h * 2 ^ 64 + l + n)).2.2) w) := by
  obtain ⟨A, hA⟩ : ∃ A, h * 2 ^ 64 + l = A := ⟨_, rfl⟩
  have hAb : A < 2 ^ 128 := by omega
  have HO := Lib.hid (fun u => of_c h l u hh hl)
  rw [hA] at HO ⊢
  have HB := Lib.hid (fun u => rbits_any n u hn)
  have HS := Lib.hid (fun u => sum_c A n u)
  have HN := Lib.hid (fun u => rnum_any (A + n) u (by omega))
  obtain ⟨F1, F2, BF⟩ := blks2 w 26 24 (fr h l x) #[.int .u64 0, .int .u64 0]
  generalize num5 (A + n) = R at *
  obtain ⟨rh, rl, rb⟩ := R
  have HN : Hid (∀ u, Calls Try.prog 43 #[.agg (cellsOf (A + n).testBit)] u (Said (wv rh rl rb) u)) := HN
  show Calls Try.prog 23 #[.agg (fr h l x), .int .u64 (n : Int)] w (Said (wv rh rl rb) w)
  unfold wv at *
  unfold fr at *
  clear hA hAb hh hl hn
  go_enter Try.func23, Try.ntmps23
  go_wp2_with fail
  refine (HO.out _).mono ?_
  rintro e w2 ⟨rfl, h2⟩
  have K2 := F2.below h2 F2.lt
  have B2 := BF.trans (h2.mono BF.size)
  clear F1 F2 BF h2
  go_wp2_with fail
  refine (HB.out _).mono ?_
  rintro e w3 ⟨rfl, h3⟩
  have K3 := K2.below h3 K2.lt
  have B3 := B2.trans (h3.mono B2.size)
  clear K2 B2 h3
  go_wp2_with fail
  refine (HS.out _).mono ?_
  rintro e w4 ⟨rfl, h4⟩
  have K4 := K3.below h4 K3.lt
  have B4 := B3.trans (h4.mono B3.size)
  clear K3 B3 h4
  go_wp2_with fail
  refine (HN.out _).mono ?_
  rintro e w5 ⟨rfl, h5⟩
  have K5 := K4.below h5 K4.lt
  have B5 := B4.trans (h5.mono B4.size)
  clear K4 B4 h5
  have x0 : w5.cell? ⟨w.heap.size + 1, 0, none⟩ = some (.int .u64 0) := K5.cell 0
  have x1 : w5.cell? ⟨w.heap.size + 1, 1, none⟩ = some (.int .u64 0) := K5.cell 1
  have f0 := K5.frozen 0
  have f1 := K5.frozen 1
  have kl := K5.lt
  have HS := Lib.hid (K5.set2 (x := .int .u64 (rh : Int)) (y := .int .u64 (rl : Int)))
  have HT := Lib.hid ((B5.setCell (p := ⟨w.heap.size + 1, 0, none⟩) (by simp) (.int .u64 (rh : Int))).setCell (p := ⟨w.heap.size + 1, 1, none⟩) (by simp) (.int .u64 (rl : Int)))
  clear K5 B5
  go_wp2_with fail
  exact bodyPost_ret (v := .tuple #[.agg #[.int .u64 (rh : Int), .int .u64 (rl : Int)], .bool rb]) (results_cell_row_tmp Try.results23 _ _ _ _ _ _ rfl HS.out Try.underlying24 rfl (by kernel_rfl)) rfl ⟨rfl, HT.out⟩

/-- a wide number as a value -/
def wd (h l : Nat) : Value := .agg #[.int .u64 (h : Int), .int .u64 (l : Int)]

set_option maxRecDepth 100000 in
set_option maxHeartbeats 2000000 in
theorem rless_any (a b : Nat) (w : World) (ha : a < 2 ^ 128) (hb : b < 2 ^ 256) :
    Calls Try.prog 24 #[.agg (cellsOf a.testBit), .agg (cellsOf b.testBit)] w (Said (wd ((a - b) / 2 ^ 64) ((a - b) % 2 ^ 64)) w) := by
  have hz := zero_bits
  have HL := Lib.hid (fun u => less_c a b u (by omega) hb)
  obtain ⟨F1, F2, F3, BF⟩ := blks3 w 38 38 24 (cellsOf a.testBit) (cellsOf b.testBit) #[.int .u64 0, .int .u64 0]
  by_cases h : a < b
  · have h1 : (a - b) / 2 ^ 64 = 0 := by rw [Nat.sub_eq_zero_of_le (by omega)]
    have h2 : (a - b) % 2 ^ 64 = 0 := by rw [Nat.sub_eq_zero_of_le (by omega)]
    rw [h1, h2]
    rw [decide_eq_true h] at HL
    clear h h1 h2 ha hb
    unfold wd
    go_enter Try.func24, Try.ntmps24
    go_wp2_with (first
      | (refine wpList_load_row rfl 38 (.tmp 2) rfl _ rfl _ _ (0, 0) _ F1 Try.underlying38 rfl (size_bits _) ?_)
      | (refine wpList_load_row rfl 38 (.tmp 3) rfl _ rfl _ _ (0, 0) _ F2 Try.underlying38 rfl (size_bits _) ?_))
    refine (HL.out _).mono ?_
    rintro e w2 ⟨rfl, h2⟩
    have K := F3.below h2 F3.lt
    have B := BF.trans (h2.mono BF.size)
    clear F1 F2 F3 BF h2
    have x0 : w2.cell? ⟨w.heap.size + 1 + 1, 0, none⟩ = some (.int .u64 0) := K.cell 0
    have x1 : w2.cell? ⟨w.heap.size + 1 + 1, 1, none⟩ = some (.int .u64 0) := K.cell 1
    have f0 := K.frozen 0
    have f1 := K.frozen 1
    have kl := K.lt
    have HS := Lib.hid (K.set2 (x := .int .u64 0) (y := .int .u64 0))
    have HT := Lib.hid ((B.setCell (p := ⟨w.heap.size + 1 + 1, 0, none⟩) (by simp; omega) (.int .u64 0)).setCell (p := ⟨w.heap.size + 1 + 1, 1, none⟩) (by simp; omega) (.int .u64 0))
    clear K B
    go_wp2_with fail
    exact bodyPost_ret (v := .agg #[.int .u64 0, .int .u64 0]) (results_cell_row Try.results24 _ _ _ _ _ _ _ rfl HS.out Try.underlying24 rfl (by kernel_rfl)) rfl ⟨rfl, HT.out⟩
  · have HT := Lib.hid (fun u => take_c a b u (by omega) (by omega))
    have HN := Lib.hid (fun u => number_c (a - b) u (by omega))
    have e1 : (a - b) % 2 ^ 128 = a - b := Nat.mod_eq_of_lt (by omega)
    rw [e1, decide_eq_true (show a - b < 2 ^ 128 by omega)] at HN
    rw [decide_eq_false h] at HL
    generalize (a - b) / 2 ^ 64 = rh at *
    generalize (a - b) % 2 ^ 64 = rl at *
    clear h e1 ha hb
    unfold wd
    go_enter Try.func24, Try.ntmps24
    go_wp2_with (first
      | (refine wpList_load_row rfl 38 (.tmp 2) rfl _ rfl _ _ (0, 0) _ F1 Try.underlying38 rfl (size_bits _) ?_)
      | (refine wpList_load_row rfl 38 (.tmp 3) rfl _ rfl _ _ (0, 0) _ F2 Try.underlying38 rfl (size_bits _) ?_))
    refine (HL.out _).mono ?_
    rintro e w2 ⟨rfl, h2⟩
    have G1 := F1.below h2 F1.lt
    have G2 := F2.below h2 F2.lt
    have G3 := F3.below h2 F3.lt
    have B2 := BF.trans (h2.mono BF.size)
    clear F1 F2 F3 BF h2
    go_wp2_with (first
      | (refine wpList_load_row rfl 38 (.tmp 2) rfl _ rfl _ _ (0, 0) _ G1 Try.underlying38 rfl (size_bits _) ?_)
      | (refine wpList_load_row rfl 38 (.tmp 3) rfl _ rfl _ _ (0, 0) _ G2 Try.underlying38 rfl (size_bits _) ?_))
    refine (HT.out _).mono ?_
    rintro e w3 ⟨rfl, h3⟩
    have K3 := G3.below h3 G3.lt
    have B3 := B2.trans (h3.mono B2.size)
    clear G1 G2 G3 B2 h3
    go_wp2_with fail
    refine (HN.out _).mono ?_
    rintro e w4 ⟨rfl, h4⟩
    have K4 := K3.below h4 K3.lt
    have B4 := B3.trans (h4.mono B3.size)
    clear K3 B3 h4
    have x0 : w4.cell? ⟨w.heap.size + 1 + 1, 0, none⟩ = some (.int .u64 0) := K4.cell 0
    have x1 : w4.cell? ⟨w.heap.size + 1 + 1, 1, none⟩ = some (.int .u64 0) := K4.cell 1
    have f0 := K4.frozen 0
    have f1 := K4.frozen 1
    have kl := K4.lt
    have HS := Lib.hid ((K4.set2 (x := .int .u64 (rh : Int)) (y := .int .u64 (rl : Int))).alloc (.cells #[.int .u64 (rh : Int), .int .u64 (rl : Int)] 24))
    have HT2 := Lib.hid (((B4.setCell (p := ⟨w.heap.size + 1 + 1, 0, none⟩) (by simp; omega) (.int .u64 (rh : Int))).setCell (p := ⟨w.heap.size + 1 + 1, 1, none⟩) (by simp; omega) (.int .u64 (rl : Int))).alloc (by have := B4.size; simp; omega) (.cells #[.int .u64 (rh : Int), .int .u64 (rl : Int)] 24))
    clear K4 B4
    go_wp2_with fail
    exact bodyPost_ret (v := .agg #[.int .u64 (rh : Int), .int .u64 (rl : Int)]) (results_cell_row Try.results24 _ _ _ _ _ _ _ rfl HS.out Try.underlying24 rfl (by kernel_rfl)) rfl ⟨rfl, HT2.out⟩

end Go.Proofs.Ytodhkdaipmeblaa
