/-
  The contract of the document's Scaled. No statement is proved here.
-/
import Derived.Test.YteglkhljenjplaaBe
namespace Go.Proofs.Yteglkhljenjplaa
open Go.RowKit

theorem of_c (hi lo : Nat) (w : World) (hh : hi < 2 ^ 64) (hl : lo < 2 ^ 64) : Calls Try.prog 10 #[.agg #[.int .u64 (hi : Int), .int .u64 (lo : Int)]] w (Row (cellsOf (hi * 2 ^ 64 + lo).testBit) w) := of_any hi lo w hh hl
theorem of_low (lo : Nat) (w : World) (hl : lo < 2 ^ 64) : Calls Try.prog 10 #[.agg #[.int .u64 0, .int .u64 (lo : Int)]] w (Row (cellsOf lo.testBit) w) := by
  have := of_any 0 lo w (by omega) hl
  rw [Nat.zero_mul, Nat.zero_add] at this
  exact this
theorem of_one (w : World) : Calls Try.prog 10 #[.agg #[.int .u64 0, .int .u64 1]] w (Row (cellsOf (1 : Nat).testBit) w) := of_low 1 w (by omega)
theorem product_c (a m : Nat) (w : World) (hm : m < 2 ^ 64) : Calls Try.prog 12 #[.agg (cellsOf a.testBit), .int .u64 (m : Int)] w (Row (cellsOf (a * m).testBit) w) := product_any a m w hm
theorem quotient_c (a d : Nat) (w : World) (ha : a < 2 ^ 256) (hd0 : 0 < d) (hd : d ≤ 2 ^ 255) : Calls Try.prog 23 #[.agg (cellsOf a.testBit), .agg (cellsOf d.testBit)] w fun e w' =>
    e = .returned (.tuple #[.agg (cellsOf (a / d).testBit), .agg (cellsOf (a % d).testBit)]) ∧ Below w.heap.size w w' := quotient_any a d w ha hd0 hd
theorem number_c (N : Nat) (w : World) (hN : N < 2 ^ 256) : Calls Try.prog 11 #[.agg (cellsOf N.testBit)] w fun e w' =>
    e = .returned (.tuple #[.agg #[.int .u64 ((N % 2 ^ 128 / 2 ^ 64 : Nat) : Int), .int .u64 ((N % 2 ^ 64 : Nat) : Int)], .bool (decide (N < 2 ^ 128))]) ∧ Below w.heap.size w w' := number_any N w hN

theorem results_cell_row_tmp {P : Program} {fn : Func} {p q : Tmp} {ty : TypeId} (h : fn.results = #[.cell p ty, .tmp q]) (tmps : Array Value) (w : World) (g : Nat) (t : TypeId) (cs : Array Value) (d : TypeDesc)
    (hp : tmps.getD p undef = .pointer (some ⟨g, 0, none⟩)) (hg : w.heap[g]? = some (.cells cs t (0, 0)))
    (hu : P.underlying ty = some d) (hd : (match d with | .struct _ | .array _ _ => true | _ => false) = true) (hi : (P.info? ty).map (·.size) = some cs.size) :
    (results fn tmps).run P w = .ok (.tuple #[.agg cs, tmps.getD q undef]) w := by
  have hp' : tmps[p]?.getD undef = .pointer (some ⟨g, 0, none⟩) := by simpa using hp
  simp [results, h, hp', asAddr, run_loadVar_row w g t ty cs (0, 0) d hg hu hd hi]

theorem bits_none {r : Nat} (hr : r = 0) : true = true ↔ ∀ i, i < 256 → r.testBit i = none_ i := by simp [hr, none_]
theorem bits_some {r : Nat} (hb : r < 2 ^ 64) (hr : r ≠ 0) : false = true ↔ ∀ i, i < 256 → r.testBit i = none_ i := by
  constructor
  · intro h; cases h
  · intro h
    exfalso
    apply hr
    apply Nat.eq_of_testBit_eq
    intro i
    rw [Nat.zero_testBit]
    by_cases hi : i < 256
    · exact h i hi
    · exact Nat.testBit_lt_two_pow (Nat.lt_of_lt_of_le hb (Nat.pow_le_pow_right (by omega) (by omega)))
/-- the document's scaled number: a * m / d, rounded down, or up -/
def scaledN (a m d : Nat) (up : Bool) : Nat := a * m / d + (if up = true ∧ a * m % d ≠ 0 then 1 else 0)

set_option maxHeartbeats 2000000 in
set_option maxRecDepth 100000 in
theorem scaled_any (hi lo m d : Nat) (up : Bool) (w : World) (hh : hi < 2 ^ 64) (hl : lo < 2 ^ 64) (hm : m < 2 ^ 64) (hd0 : 0 < d) (hd : d < 2 ^ 64) :
    Calls Try.prog 24 #[.agg #[.int .u64 (hi : Int), .int .u64 (lo : Int)], .int .u64 (m : Int), .int .u64 (d : Int), .bool up] w fun e w' =>
      e = .returned (.tuple #[.agg #[.int .u64 ((scaledN (hi * 2 ^ 64 + lo) m d up % 2 ^ 128 / 2 ^ 64 : Nat) : Int), .int .u64 ((scaledN (hi * 2 ^ 64 + lo) m d up % 2 ^ 64 : Nat) : Int)], .bool (decide (scaledN (hi * 2 ^ 64 + lo) m d up < 2 ^ 128))]) ∧
        Below w.heap.size w w' := by
  have hz := zero_bits
  obtain ⟨A, hA⟩ : ∃ A, hi * 2 ^ 64 + lo = A := ⟨_, rfl⟩
  have hAb : A < 2 ^ 128 := by omega
  have hAM : A * m < 2 ^ 192 := by
    calc A * m ≤ A * 2 ^ 64 := Nat.mul_le_mul_left _ (by omega)
      _ < 2 ^ 192 := by omega
  have HO := Lib.hid (fun u => of_c hi lo u hh hl)
  rw [hA] at HO ⊢
  have HO2 := Lib.hid (fun u => of_low d u hd)
  have HO3 := Lib.hid (fun u => of_one u)
  have HP := Lib.hid (fun u => product_c A m u hm)
  obtain ⟨M, hM⟩ : ∃ M, A * m = M := ⟨_, rfl⟩
  rw [hM] at HP hAM
  have HQ := Lib.hid (fun u => quotient_c M d u (by omega) hd0 (by omega))
  have hq : M / d < 2 ^ 192 := Nat.lt_of_le_of_lt (Nat.div_le_self _ _) hAM
  obtain ⟨q, hqe⟩ : ∃ q, M / d = q := ⟨_, rfl⟩
  obtain ⟨r, hre⟩ : ∃ r, M % d = r := ⟨_, rfl⟩
  have hrb : r < d := by rw [← hre]; exact Nat.mod_lt _ hd0
  rw [hqe, hre] at HQ
  rw [hqe] at hq
  obtain ⟨S, hS⟩ : ∃ S, scaledN A m d up = S := ⟨_, rfl⟩
  have hSe : S = q + (if up = true ∧ r ≠ 0 then 1 else 0) := by rw [← hS, scaledN, hM, hqe, hre]
  rw [hS]
  have hSb : S < 2 ^ 256 := by rw [hSe]; split <;> omega
  obtain ⟨N1, hN1⟩ : ∃ N1, S % 2 ^ 128 / 2 ^ 64 = N1 := ⟨_, rfl⟩
  obtain ⟨N2, hN2⟩ : ∃ N2, S % 2 ^ 64 = N2 := ⟨_, rfl⟩
  obtain ⟨bb, hbb⟩ : ∃ bb, decide (S < 2 ^ 128) = bb := ⟨_, rfl⟩
  have HN := Lib.hid (fun u => number_c S u hSb)
  rw [hN1, hN2, hbb] at HN ⊢
  have HSU := Lib.hid (fun u => sum_c q 1 u)
  have HSE := Lib.hid hSe
  have HRB := Lib.hid (And.intro hrb (And.intro hd hq))
  clear hN1 hN2 hbb hh hl hm hd0 hd hA hAb hAM hM hq hqe hre hrb hS hSe hSb
  go_enter Try.func24, Try.ntmps24
  go_wp2_with fail
  have b0 := blks2 w 24 24 #[.int .u64 (hi : Int), .int .u64 (lo : Int)] #[.int .u64 0, .int .u64 0]
  refine (HO.out _).mono ?_
  rintro e w2 ⟨rfl, h2⟩
  have X2 := b0.2.1.below h2 b0.2.1.lt
  have B2 := b0.2.2.trans (h2.mono b0.2.2.size)
  clear b0 h2
  go_wp2_with fail
  refine (HP.out _).mono ?_
  rintro e w3 ⟨rfl, h3⟩
  have X3 := X2.below h3 X2.lt
  have B3 := B2.trans (h3.mono B2.size)
  clear X2 B2 h3
  go_wp2_with fail
  refine (HO2.out _).mono ?_
  rintro e w4 ⟨rfl, h4⟩
  have X4 := X3.below h4 X3.lt
  have B4 := B3.trans (h4.mono B3.size)
  clear X3 B3 h4
  go_wp2_with fail
  refine (HQ.out _).mono ?_
  rintro e w5 ⟨rfl, h5⟩
  have X5 := X4.below h5 X4.lt
  have B5 := B4.trans (h5.mono B4.size)
  clear X4 B4 h5
  obtain ⟨Y1, Y2, BY⟩ := blks2 w5 27 27 (cellsOf none_) (cellsOf none_)
  have hl8 := X5.lt
  have hsz := B5.size
  have E1 := Y2.other (g' := w5.heap.size) (cs' := cellsOf q.testBit) (by omega)
  have F1 := (Y1.row (cs' := cellsOf q.testBit)).other (g' := w5.heap.size + 1) (cs' := cellsOf r.testBit) (by omega)
  have F2 := E1.row (cs' := cellsOf r.testBit)
  have F8 := ((((X5.alloc (.cells (cellsOf none_) 27)).alloc (.cells (cellsOf none_) 27)).other (g' := w5.heap.size) (cs' := cellsOf q.testBit) (by omega)).other (g' := w5.heap.size + 1) (cs' := cellsOf r.testBit) (by omega))
  have FB := below_row (g' := w5.heap.size + 1) (cs' := cellsOf r.testBit) (below_row (g' := w5.heap.size) (cs' := cellsOf q.testBit) (B5.trans (BY.mono hsz)) hsz) (by omega)
  clear B5 X5 BY
  have HF := Lib.hid (And.intro F8 FB)
  clear F8 FB
  by_cases hr : r = 0
  · have HR := Lib.hid hr
    clear hr
    cases up
    · skip
      obtain rfl : S = q := by rw [HSE.out, if_neg (fun h => by simp at h), Nat.add_zero]
      have F8 := HF.out.1
      have FB := HF.out.2
      go_wp2_with (first
        | (refine wpList_store_row rfl 27 (.tmp 10) (.tmp 21) rfl _ _ rfl rfl _ _ Y1 (size_bits _) (by rw [cellsOf_size, cellsOf_size]) (cellsOf_one _) ?_)
        | (refine wpList_store_row rfl 27 (.tmp 11) (.tmp 22) rfl _ _ rfl rfl _ _ E1 (size_bits _) (by rw [cellsOf_size, cellsOf_size]) (cellsOf_one _) ?_)
        | (refine wpList_load_row rfl 27 (.tmp 10) rfl _ rfl _ _ (0, 0) _ F1 Try.underlying27 rfl (size_bits _) ?_))
      refine (HN.out _).mono ?_
      rintro e w9 ⟨rfl, h9⟩
      have K8 := F8.below h9 F8.lt
      have KB := FB.trans (h9.mono FB.size)
      clear h9
      have x0 := K8.cell 0
      have x1 := K8.cell 1
      have f0 := K8.frozen 0
      have f1 := K8.frozen 1
      have x0' : w9.cell? ⟨w.heap.size + 1, 0, none⟩ = some (.int .u64 0) := x0
      have x1' : w9.cell? ⟨w.heap.size + 1, 1, none⟩ = some (.int .u64 0) := x1
      clear x0 x1
      have hl9 := K8.lt
      have HK := Lib.hid (And.intro (K8.set2 (x := .int .u64 (N1 : Int)) (y := .int .u64 (N2 : Int))) ((KB.setCell (p := ⟨w.heap.size + 1, 0, none⟩) (by simp) (.int .u64 (N1 : Int))).setCell (p := ⟨w.heap.size + 1, 1, none⟩) (by simp) (.int .u64 (N2 : Int))))
      clear K8 KB
      go_wp2_with fail
      exact bodyPost_ret (v := .tuple #[.agg #[.int .u64 (N1 : Int), .int .u64 (N2 : Int)], .bool bb]) (results_cell_row_tmp Try.results24 _ _ _ _ _ _ rfl HK.out.1 Try.underlying24 rfl (by kernel_rfl)) rfl ⟨rfl, HK.out.2⟩
    · skip
      obtain rfl : S = q := by rw [HSE.out, if_neg (fun h => h.2 HR.out), Nat.add_zero]
      have F8 := HF.out.1
      have FB := HF.out.2
      go_wp2_with (first
        | (refine wpList_store_row rfl 27 (.tmp 10) (.tmp 21) rfl _ _ rfl rfl _ _ Y1 (size_bits _) (by rw [cellsOf_size, cellsOf_size]) (cellsOf_one _) ?_)
        | (refine wpList_store_row rfl 27 (.tmp 11) (.tmp 22) rfl _ _ rfl rfl _ _ E1 (size_bits _) (by rw [cellsOf_size, cellsOf_size]) (cellsOf_one _) ?_)
        | (refine BigFrame.wpList_want rfl (fun K hK => wp_load_row 27 (.tmp 11) rfl _ rfl _ _ (0, 0) _ F2 Try.underlying27 rfl (size_bits _) (hK _ _ ?_)))
        | (refine BigFrame.wpList_want rfl (fun K hK => wp_neq_row (.tmp 25) (.tmp 26) 27 rfl _ _ rfl rfl (bits_none HR.out) (hK _ _ ?_)))
        | (refine wpList_load_row rfl 27 (.tmp 10) rfl _ rfl _ _ (0, 0) _ F1 Try.underlying27 rfl (size_bits _) ?_))
      refine (HN.out _).mono ?_
      rintro e w9 ⟨rfl, h9⟩
      have K8 := F8.below h9 F8.lt
      have KB := FB.trans (h9.mono FB.size)
      clear h9
      have x0 := K8.cell 0
      have x1 := K8.cell 1
      have f0 := K8.frozen 0
      have f1 := K8.frozen 1
      have x0' : w9.cell? ⟨w.heap.size + 1, 0, none⟩ = some (.int .u64 0) := x0
      have x1' : w9.cell? ⟨w.heap.size + 1, 1, none⟩ = some (.int .u64 0) := x1
      clear x0 x1
      have hl9 := K8.lt
      have HK := Lib.hid (And.intro (K8.set2 (x := .int .u64 (N1 : Int)) (y := .int .u64 (N2 : Int))) ((KB.setCell (p := ⟨w.heap.size + 1, 0, none⟩) (by simp) (.int .u64 (N1 : Int))).setCell (p := ⟨w.heap.size + 1, 1, none⟩) (by simp) (.int .u64 (N2 : Int))))
      clear K8 KB
      go_wp2_with fail
      exact bodyPost_ret (v := .tuple #[.agg #[.int .u64 (N1 : Int), .int .u64 (N2 : Int)], .bool bb]) (results_cell_row_tmp Try.results24 _ _ _ _ _ _ rfl HK.out.1 Try.underlying24 rfl (by kernel_rfl)) rfl ⟨rfl, HK.out.2⟩
  · have HR := Lib.hid hr
    clear hr
    cases up
    · skip
      obtain rfl : S = q := by rw [HSE.out, if_neg (fun h => by simp at h), Nat.add_zero]
      have F8 := HF.out.1
      have FB := HF.out.2
      go_wp2_with (first
        | (refine wpList_store_row rfl 27 (.tmp 10) (.tmp 21) rfl _ _ rfl rfl _ _ Y1 (size_bits _) (by rw [cellsOf_size, cellsOf_size]) (cellsOf_one _) ?_)
        | (refine wpList_store_row rfl 27 (.tmp 11) (.tmp 22) rfl _ _ rfl rfl _ _ E1 (size_bits _) (by rw [cellsOf_size, cellsOf_size]) (cellsOf_one _) ?_)
        | (refine wpList_load_row rfl 27 (.tmp 10) rfl _ rfl _ _ (0, 0) _ F1 Try.underlying27 rfl (size_bits _) ?_))
      refine (HN.out _).mono ?_
      rintro e w9 ⟨rfl, h9⟩
      have K8 := F8.below h9 F8.lt
      have KB := FB.trans (h9.mono FB.size)
      clear h9
      have x0 := K8.cell 0
      have x1 := K8.cell 1
      have f0 := K8.frozen 0
      have f1 := K8.frozen 1
      have x0' : w9.cell? ⟨w.heap.size + 1, 0, none⟩ = some (.int .u64 0) := x0
      have x1' : w9.cell? ⟨w.heap.size + 1, 1, none⟩ = some (.int .u64 0) := x1
      clear x0 x1
      have hl9 := K8.lt
      have HK := Lib.hid (And.intro (K8.set2 (x := .int .u64 (N1 : Int)) (y := .int .u64 (N2 : Int))) ((KB.setCell (p := ⟨w.heap.size + 1, 0, none⟩) (by simp) (.int .u64 (N1 : Int))).setCell (p := ⟨w.heap.size + 1, 1, none⟩) (by simp) (.int .u64 (N2 : Int))))
      clear K8 KB
      go_wp2_with fail
      exact bodyPost_ret (v := .tuple #[.agg #[.int .u64 (N1 : Int), .int .u64 (N2 : Int)], .bool bb]) (results_cell_row_tmp Try.results24 _ _ _ _ _ _ rfl HK.out.1 Try.underlying24 rfl (by kernel_rfl)) rfl ⟨rfl, HK.out.2⟩
    · have hS : q + 1 = S := by rw [HSE.out, if_pos ⟨rfl, HR.out⟩]
      rw [hS] at HSU
      clear hS
      go_wp2_with (first
        | (refine wpList_store_row rfl 27 (.tmp 10) (.tmp 21) rfl _ _ rfl rfl _ _ Y1 (size_bits _) (by rw [cellsOf_size, cellsOf_size]) (cellsOf_one _) ?_)
        | (refine wpList_store_row rfl 27 (.tmp 11) (.tmp 22) rfl _ _ rfl rfl _ _ E1 (size_bits _) (by rw [cellsOf_size, cellsOf_size]) (cellsOf_one _) ?_)
        | (refine BigFrame.wpList_want rfl (fun K hK => wp_load_row 27 (.tmp 11) rfl _ rfl _ _ (0, 0) _ F2 Try.underlying27 rfl (size_bits _) (hK _ _ ?_)))
        | (refine BigFrame.wpList_want rfl (fun K hK => wp_neq_row (.tmp 25) (.tmp 26) 27 rfl _ _ rfl rfl (bits_some (Nat.lt_trans HRB.out.1 HRB.out.2.1) HR.out) (hK _ _ ?_))))
      refine wp_region_any (by kernel_rfl) ?_
      change wpAny _ _ _ _ _ _ _ ((((w5.alloc (.cells (cellsOf none_) 27)).alloc (.cells (cellsOf none_) 27)).setRow w5.heap.size (cellsOf q.testBit)).setRow (w5.heap.size + 1) (cellsOf r.testBit)).drew
      have G1 : Blk ((((w5.alloc (.cells (cellsOf none_) 27)).alloc (.cells (cellsOf none_) 27)).setRow w5.heap.size (cellsOf q.testBit)).setRow (w5.heap.size + 1) (cellsOf r.testBit)).drew _ _ _ := F1
      have G8 : Blk ((((w5.alloc (.cells (cellsOf none_) 27)).alloc (.cells (cellsOf none_) 27)).setRow w5.heap.size (cellsOf q.testBit)).setRow (w5.heap.size + 1) (cellsOf r.testBit)).drew _ _ _ := HF.out.1
      have GB : Below w.heap.size w ((((w5.alloc (.cells (cellsOf none_) 27)).alloc (.cells (cellsOf none_) 27)).setRow w5.heap.size (cellsOf q.testBit)).setRow (w5.heap.size + 1) (cellsOf r.testBit)).drew := HF.out.2.trans ⟨rfl, rfl, rfl, Nat.le_refl _, fun _ _ => rfl⟩
      clear F1 F2 Y1 Y2 E1 HF
      generalize ((((w5.alloc (.cells (cellsOf none_) 27)).alloc (.cells (cellsOf none_) 27)).setRow w5.heap.size (cellsOf q.testBit)).setRow (w5.heap.size + 1) (cellsOf r.testBit)).drew = V at G1 G8 GB ⊢
      have hl1 := G1.lt
      have hlv := G8.lt
      refine wpAny_ready (rs := [0, 1]) (by kernel_rfl) (by simp) ?_
      refine AllReady.cons rfl (fun K hK => ?_) (AllReady.cons rfl (fun K hK => ?_) AllReady.nil)
      · skip
        refine step_load_row rfl 27 (.tmp 10) rfl _ rfl _ _ (0, 0) _ G1 Try.underlying27 rfl (size_bits _) (hK _ _ ?_)
        clear hK K
        refine wpAny_ready (rs := [1]) (by kernel_rfl) (by simp) ?_
        refine AllReady.cons rfl (fun K hK => ?_) AllReady.nil
        go_simp
        refine hK _ _ ?_
        clear hK K
        refine wpAny_ready (rs := [2]) (by kernel_rfl) (by simp) ?_
        refine AllReady.cons rfl (fun K hK => ?_) AllReady.nil
        go_simp
        refine (HO3.out _).mono ?_
        rintro e w6 ⟨rfl, h6⟩
        refine hK _ _ ?_
        clear hK K
        replace GB := GB.trans (h6.mono GB.size)
        replace G1 := G1.below h6 G1.lt
        replace G8 := G8.below h6 G8.lt
        clear h6
        refine wpAny_ready (rs := [3]) (by kernel_rfl) (by simp) ?_
        refine AllReady.cons rfl (fun K hK => ?_) AllReady.nil
        go_simp
        refine (HSU.out _).mono ?_
        rintro e w7 ⟨rfl, h7⟩
        refine hK _ _ ?_
        clear hK K
        replace GB := GB.trans (h7.mono GB.size)
        replace G1 := G1.below h7 G1.lt
        replace G8 := G8.below h7 G8.lt
        clear h7
        refine wpAny_ready (rs := [4]) (by kernel_rfl) (by simp) ?_
        refine AllReady.cons rfl (fun K hK => ?_) AllReady.nil
        refine step_store_row rfl 27 (.tmp 10) (.tmp 32) rfl _ _ rfl rfl _ _ G1 (size_bits _) (by rw [cellsOf_size, cellsOf_size]) (cellsOf_one _) (hK _ _ ?_)
        clear hK K
        refine wpAny_done (by kernel_rfl) ?_ _
        have G1' := G1.row (cs' := cellsOf S.testBit)
        have G8' := G8.other (g' := w5.heap.size) (cs' := cellsOf S.testBit) (by omega)
        have GB' := below_row (g' := w5.heap.size) (cs' := cellsOf S.testBit) GB hsz
        clear G1 G8 GB
        go_wp2_with (first
          | (refine wpList_load_row rfl 27 (.tmp 10) rfl _ rfl _ _ (0, 0) _ G1' Try.underlying27 rfl (size_bits _) ?_))
        refine (HN.out _).mono ?_
        rintro e w9 ⟨rfl, h9⟩
        have K8 := G8'.below h9 G8'.lt
        have KB := GB'.trans (h9.mono GB'.size)
        clear h9
        have x0 := K8.cell 0
        have x1 := K8.cell 1
        have f0 := K8.frozen 0
        have f1 := K8.frozen 1
        have x0' : w9.cell? ⟨w.heap.size + 1, 0, none⟩ = some (.int .u64 0) := x0
        have x1' : w9.cell? ⟨w.heap.size + 1, 1, none⟩ = some (.int .u64 0) := x1
        clear x0 x1
        have hl9 := K8.lt
        have HK := Lib.hid (And.intro (K8.set2 (x := .int .u64 (N1 : Int)) (y := .int .u64 (N2 : Int))) ((KB.setCell (p := ⟨w.heap.size + 1, 0, none⟩) (by simp) (.int .u64 (N1 : Int))).setCell (p := ⟨w.heap.size + 1, 1, none⟩) (by simp) (.int .u64 (N2 : Int))))
        clear K8 KB
        go_wp2_with fail
        exact bodyPost_ret (v := .tuple #[.agg #[.int .u64 (N1 : Int), .int .u64 (N2 : Int)], .bool bb]) (results_cell_row_tmp Try.results24 _ _ _ _ _ _ rfl HK.out.1 Try.underlying24 rfl (by kernel_rfl)) rfl ⟨rfl, HK.out.2⟩
      · skip
        go_simp
        refine hK _ _ ?_
        clear hK K
        refine wpAny_ready (rs := [0, 2]) (by kernel_rfl) (by simp) ?_
        refine AllReady.cons rfl (fun K hK => ?_) (AllReady.cons rfl (fun K hK => ?_) AllReady.nil)
        · skip
          refine step_load_row rfl 27 (.tmp 10) rfl _ rfl _ _ (0, 0) _ G1 Try.underlying27 rfl (size_bits _) (hK _ _ ?_)
          clear hK K
          refine wpAny_ready (rs := [2]) (by kernel_rfl) (by simp) ?_
          refine AllReady.cons rfl (fun K hK => ?_) AllReady.nil
          go_simp
          refine (HO3.out _).mono ?_
          rintro e w6 ⟨rfl, h6⟩
          refine hK _ _ ?_
          clear hK K
          replace GB := GB.trans (h6.mono GB.size)
          replace G1 := G1.below h6 G1.lt
          replace G8 := G8.below h6 G8.lt
          clear h6
          refine wpAny_ready (rs := [3]) (by kernel_rfl) (by simp) ?_
          refine AllReady.cons rfl (fun K hK => ?_) AllReady.nil
          go_simp
          refine (HSU.out _).mono ?_
          rintro e w7 ⟨rfl, h7⟩
          refine hK _ _ ?_
          clear hK K
          replace GB := GB.trans (h7.mono GB.size)
          replace G1 := G1.below h7 G1.lt
          replace G8 := G8.below h7 G8.lt
          clear h7
          refine wpAny_ready (rs := [4]) (by kernel_rfl) (by simp) ?_
          refine AllReady.cons rfl (fun K hK => ?_) AllReady.nil
          refine step_store_row rfl 27 (.tmp 10) (.tmp 32) rfl _ _ rfl rfl _ _ G1 (size_bits _) (by rw [cellsOf_size, cellsOf_size]) (cellsOf_one _) (hK _ _ ?_)
          clear hK K
          refine wpAny_done (by kernel_rfl) ?_ _
          have G1' := G1.row (cs' := cellsOf S.testBit)
          have G8' := G8.other (g' := w5.heap.size) (cs' := cellsOf S.testBit) (by omega)
          have GB' := below_row (g' := w5.heap.size) (cs' := cellsOf S.testBit) GB hsz
          clear G1 G8 GB
          go_wp2_with (first
            | (refine wpList_load_row rfl 27 (.tmp 10) rfl _ rfl _ _ (0, 0) _ G1' Try.underlying27 rfl (size_bits _) ?_))
          refine (HN.out _).mono ?_
          rintro e w9 ⟨rfl, h9⟩
          have K8 := G8'.below h9 G8'.lt
          have KB := GB'.trans (h9.mono GB'.size)
          clear h9
          have x0 := K8.cell 0
          have x1 := K8.cell 1
          have f0 := K8.frozen 0
          have f1 := K8.frozen 1
          have x0' : w9.cell? ⟨w.heap.size + 1, 0, none⟩ = some (.int .u64 0) := x0
          have x1' : w9.cell? ⟨w.heap.size + 1, 1, none⟩ = some (.int .u64 0) := x1
          clear x0 x1
          have hl9 := K8.lt
          have HK := Lib.hid (And.intro (K8.set2 (x := .int .u64 (N1 : Int)) (y := .int .u64 (N2 : Int))) ((KB.setCell (p := ⟨w.heap.size + 1, 0, none⟩) (by simp) (.int .u64 (N1 : Int))).setCell (p := ⟨w.heap.size + 1, 1, none⟩) (by simp) (.int .u64 (N2 : Int))))
          clear K8 KB
          go_wp2_with fail
          exact bodyPost_ret (v := .tuple #[.agg #[.int .u64 (N1 : Int), .int .u64 (N2 : Int)], .bool bb]) (results_cell_row_tmp Try.results24 _ _ _ _ _ _ rfl HK.out.1 Try.underlying24 rfl (by kernel_rfl)) rfl ⟨rfl, HK.out.2⟩
        · skip
          go_simp
          refine (HO3.out _).mono ?_
          rintro e w6 ⟨rfl, h6⟩
          refine hK _ _ ?_
          clear hK K
          replace GB := GB.trans (h6.mono GB.size)
          replace G1 := G1.below h6 G1.lt
          replace G8 := G8.below h6 G8.lt
          clear h6
          refine wpAny_ready (rs := [0]) (by kernel_rfl) (by simp) ?_
          refine AllReady.cons rfl (fun K hK => ?_) AllReady.nil
          refine step_load_row rfl 27 (.tmp 10) rfl _ rfl _ _ (0, 0) _ G1 Try.underlying27 rfl (size_bits _) (hK _ _ ?_)
          clear hK K
          refine wpAny_ready (rs := [3]) (by kernel_rfl) (by simp) ?_
          refine AllReady.cons rfl (fun K hK => ?_) AllReady.nil
          go_simp
          refine (HSU.out _).mono ?_
          rintro e w7 ⟨rfl, h7⟩
          refine hK _ _ ?_
          clear hK K
          replace GB := GB.trans (h7.mono GB.size)
          replace G1 := G1.below h7 G1.lt
          replace G8 := G8.below h7 G8.lt
          clear h7
          refine wpAny_ready (rs := [4]) (by kernel_rfl) (by simp) ?_
          refine AllReady.cons rfl (fun K hK => ?_) AllReady.nil
          refine step_store_row rfl 27 (.tmp 10) (.tmp 32) rfl _ _ rfl rfl _ _ G1 (size_bits _) (by rw [cellsOf_size, cellsOf_size]) (cellsOf_one _) (hK _ _ ?_)
          clear hK K
          refine wpAny_done (by kernel_rfl) ?_ _
          have G1' := G1.row (cs' := cellsOf S.testBit)
          have G8' := G8.other (g' := w5.heap.size) (cs' := cellsOf S.testBit) (by omega)
          have GB' := below_row (g' := w5.heap.size) (cs' := cellsOf S.testBit) GB hsz
          clear G1 G8 GB
          go_wp2_with (first
            | (refine wpList_load_row rfl 27 (.tmp 10) rfl _ rfl _ _ (0, 0) _ G1' Try.underlying27 rfl (size_bits _) ?_))
          refine (HN.out _).mono ?_
          rintro e w9 ⟨rfl, h9⟩
          have K8 := G8'.below h9 G8'.lt
          have KB := GB'.trans (h9.mono GB'.size)
          clear h9
          have x0 := K8.cell 0
          have x1 := K8.cell 1
          have f0 := K8.frozen 0
          have f1 := K8.frozen 1
          have x0' : w9.cell? ⟨w.heap.size + 1, 0, none⟩ = some (.int .u64 0) := x0
          have x1' : w9.cell? ⟨w.heap.size + 1, 1, none⟩ = some (.int .u64 0) := x1
          clear x0 x1
          have hl9 := K8.lt
          have HK := Lib.hid (And.intro (K8.set2 (x := .int .u64 (N1 : Int)) (y := .int .u64 (N2 : Int))) ((KB.setCell (p := ⟨w.heap.size + 1, 0, none⟩) (by simp) (.int .u64 (N1 : Int))).setCell (p := ⟨w.heap.size + 1, 1, none⟩) (by simp) (.int .u64 (N2 : Int))))
          clear K8 KB
          go_wp2_with fail
          exact bodyPost_ret (v := .tuple #[.agg #[.int .u64 (N1 : Int), .int .u64 (N2 : Int)], .bool bb]) (results_cell_row_tmp Try.results24 _ _ _ _ _ _ rfl HK.out.1 Try.underlying24 rfl (by kernel_rfl)) rfl ⟨rfl, HK.out.2⟩

end Go.Proofs.Yteglkhljenjplaa
