/-
  WheelSlots' walk. No statement is proved here.
-/
import Derived.Test.YtbhcpkmofnfjgaaSm
import Derived.Deep.DeepCutAuto
namespace Go.Proofs.Ytbhcpkmofnfjgaa
open Go.RowKit Go.Maps

theorem ids_wf {now : Int} {ts : List Tm} (hc : chkW now ts = true) {p : Tm → Bool} {x : Int} (hx : x ∈ idsL p ts) : (Lit.int .i64 x).wf = true := by
  obtain ⟨t, ht, _, e⟩ := mem_ids.1 hx
  rw [← e]
  exact tid_wf hc ht
theorem min_if (S f : Int) : min S f = if f < S then f else S := by rw [Int.min_def]; split <;> split <;> omega
theorem meas64 {s : Nat} (h : s < 64) : 64 - (intOf (.int .i64 (wrap64 ((s : Int) + 1)))).toNat < 64 - (intOf (.int .i64 (s : Int))).toNat := by
  have h7 : wrap64 ((s : Int) + 1) = (s : Int) + 1 := by unfold wrap64; omega
  rw [h7]
  show 64 - ((s : Int) + 1).toNat < 64 - (s : Int).toNat
  omega
theorem meas9 {s : Nat} (h : s < 9) : 9 - (intOf (.int .i64 (wrap64 ((s : Int) + 1)))).toNat < 9 - (intOf (.int .i64 (s : Int))).toNat := by
  have h7 : wrap64 ((s : Int) + 1) = (s : Int) + 1 := by unfold wrap64; omega
  rw [h7]
  show 9 - ((s : Int) + 1).toNat < 9 - (s : Int).toNat
  omega
theorem shift_digit (now : Int) (a : Nat) (_ : 0 ≤ now) : now / 2 ^ (6 * (a : Int)).toNat % 64 = dgT now a := by
  unfold dgT
  rw [show (6 * (a : Int)).toNat = 6 * a by omega, Int.pow_mul]
  rfl
set_option maxRecDepth 100000 in
set_option maxHeartbeats 32000000 in
theorem slots_walk (now : Int) (A : Option Addr) (n c : Nat) (ts : List Tm) (w : World) (hR : Reads w w.heap.size 2 A n (flat tv ts)) (hn : n ≤ maxLen) : Calls Try.prog 6 #[.agg #[.int .i64 now, .slice A n c]] w (Said (.bool true) w) := by
  obtain ⟨K0, GB⟩ := box1 w 24 #[.int .i64 now, .slice A n c]
  have HWk := Lib.hid (fun (u : World) => wakes_any u)
  unfold maxLen at hn
  by_cases h100 : 100 < n
  · have e1 : decide ((100 : Int) < (n : Int)) = true := decide_eq_true (by omega)
    have e2 : (100 : Int) < (n : Int) := by omega
    clear hR h100
    go_enter Try.func6, Try.ntmps6
    go_wp2_with fail
    refine (HWk.out _).mono ?_
    rintro e u1 ⟨rfl, h9⟩
    replace K0 := K0.below h9 K0.lt
    replace GB := GB.trans (h9.mono GB.size)
    clear h9
    have zK00 := K0.cell 0
    have zK01 := K0.cell 1
    go_wp2
    go_ret
    exact ⟨rfl, GB⟩
  have e1 : decide ((100 : Int) < (n : Int)) = false := decide_eq_false (by omega)
  have e2 : ¬ (100 : Int) < (n : Int) := by omega
  have hG : WR w A n ts := ⟨hR, by omega⟩
  have HN9 : Hid (n ≤ 100) := Lib.hid (by omega)
  have HCk := Lib.hid (fun (u : World) (h : Below w.heap.size w u) => check_any now A n c ts u (hG.below h))
  have HNx := Lib.hid (fun (u : World) (h : Below w.heap.size w u) => next_any now A n c ts u (hG.below h))
  have HL := Lib.hid hG.len
  have n9 : n ≤ 100 := by omega
  clear hR h100 hn
  cases hc : chkW now ts with
  | false =>
    rw [hc, show errW false = 250 from rfl] at HCk
    clear hc
    go_enter Try.func6, Try.ntmps6
    go_wp2_with fail
    refine (HWk.out _).mono ?_
    rintro e u1 ⟨rfl, h9⟩
    replace K0 := K0.below h9 K0.lt
    replace GB := GB.trans (h9.mono GB.size)
    clear h9
    have zK00 := K0.cell 0
    have zK01 := K0.cell 1
    go_wp2_with fail
    refine (HCk.out _ GB).mono ?_
    rintro e u2 ⟨rfl, h9⟩
    replace K0 := K0.below h9 K0.lt
    replace GB := GB.trans (h9.mono GB.size)
    clear h9 zK00 zK01
    go_wp2
    go_ret
    exact ⟨rfl, GB⟩
  | true =>
    rw [hc, show errW true = 0 from rfl] at HCk
    have HPl : Hid (∀ (k : Nat) (a b : Int) (u : World), ts[k]? = some (a, b) → Below w.heap.size w u → Calls Try.prog 25 #[.agg #[.int .i64 now, .slice A n c], .int .i64 a] u (Said (.tuple #[.int .i64 (spotT now b).1, .int .i64 (spotT now b).2, .bool true]) u)) := Lib.hid (fun k a b u hx h => by
      have z := place_any now A n c ts a u (hG.below h)
      rw [place_at hc hx] at z
      exact z)
    have HSl : Hid (∀ (a s : Nat) (_ : s < 64) (u : World), Below w.heap.size w u → Calls Try.prog 26 #[.agg #[.int .i64 now, .slice A n c], .int .i64 (a : Int), .int .i64 (s : Int)] u (IRow (idsL (byS now (64 * a + s)) ts) u)) := Lib.hid (fun a s hs u h => by
      have z := slot_any now A n c ts a s u (hG.below h)
      rwa [slot_is hc a s hs] at z)
    obtain ⟨nx, hnx⟩ : ∃ nx, leastD ts = nx := ⟨_, rfl⟩
    obtain ⟨ay, hay⟩ : ∃ ay, decide ((0 : Int) < (n : Int)) = ay := ⟨_, rfl⟩
    have hay2 : decide (0 < ts.length) = ay := by rw [← hay, HL.out]; exact decide_eq_decide.2 (by omega)
    rw [next_len hc, hnx, hay2] at HNx
    obtain ⟨mn, hmn⟩ : ∃ mn, minS now ts = mn := ⟨_, rfl⟩
    have HNX := Lib.hid hnx
    have HMS := Lib.hid hmn
    have HAY := Lib.hid hay
    have HC := Lib.hid hc
    have h0N : Hid (0 ≤ now ∧ now ≤ 1125899906842624) := Lib.hid ⟨(chkW_iff.1 hc).1, (chkW_iff.1 hc).2.1⟩
    obtain ⟨T, hT⟩ : ∃ T : Nat, T = 576 := ⟨_, rfl⟩
    have HT := Lib.hid hT
    clear hc hnx hay hay2 hmn hT
    go_enter Try.func6, Try.ntmps6
    go_wp2_with fail
    refine (HWk.out _).mono ?_
    rintro e u1 ⟨rfl, h9⟩
    replace K0 := K0.below h9 K0.lt
    replace GB := GB.trans (h9.mono GB.size)
    clear h9
    have zK00 := K0.cell 0
    have zK01 := K0.cell 1
    go_wp2_with fail
    refine (HCk.out _ GB).mono ?_
    rintro e u2 ⟨rfl, h9⟩
    replace K0 := K0.below h9 K0.lt
    replace GB := GB.trans (h9.mono GB.size)
    clear h9 zK00 zK01
    have hmm := @run_makeMap Try.prog
    have M1 := MC.made u2
    have L0 := Lib.hid GB.size
    replace K0 := K0.alloc (.map #[] 0)
    replace GB := GB.alloc GB.size (.map #[] 0)
    go_upto_region 6 with fail
    obtain ⟨m1, hm1⟩ : ∃ b, u2.heap.size = b := ⟨_, rfl⟩
    obtain ⟨Y, hY⟩ : ∃ Y, u2.alloc (.map #[] 0) = Y := ⟨_, rfl⟩
    rw [hY] at K0 GB M1 ⊢
    rw [hm1] at M1 L0 ⊢
    clear hY hm1 hmm
    go_wp2_with fail
    go_loopw [36] (fun iv wr => ∃ a : Nat, a ≤ 9 ∧ iv = .int .i64 (a : Int) ∧ Blk wr w.heap.size 24 #[.int .i64 now, .slice A n c] ∧ MC wr m1 (partsK (byS now) ts (64 * a)) ∧ Below w.heap.size w wr) (fun iv _ => 9 - (intOf iv).toNat)
    case atStart => exact ⟨0, by omega, rfl, K0, by rw [Nat.mul_zero]; exact M1, GB⟩
    case round =>
      clear K0 M1 GB
      obtain ⟨a, ha9, rfl, K0, M1, GB⟩ := hrel
      by_cases ha : a < 9
      · have l1 : decide ((a : Int) < 9) = true := decide_eq_true (by omega)
        have HA := Lib.hid ha
        clear ha ha9
        go_wp2_with fail
        go_loopw [39] (fun iv wr => ∃ s : Nat, s ≤ 64 ∧ iv = .int .i64 (s : Int) ∧ Blk wr w.heap.size 24 #[.int .i64 now, .slice A n c] ∧ MC wr m1 (partsK (byS now) ts (64 * a + s)) ∧ Below w.heap.size w wr) (fun iv _ => 64 - (intOf iv).toNat)
        case atStart => exact ⟨0, by omega, rfl, K0, by rw [Nat.add_zero]; exact M1, GB⟩
        case round =>
          clear K0 M1 GB
          obtain ⟨s, hs64, rfl, K0, M1, GB⟩ := hrel
          by_cases hs : s < 64
          · have l2 : decide ((s : Int) < 64) = true := decide_eq_true (by omega)
            have HS := Lib.hid hs
            clear hs hs64
            have zK00 := K0.cell 0
            have zK01 := K0.cell 1
            have HSx := Lib.hid (HSl.out a s HS.out)
            go_wp2_with fail
            refine (HSx.out _ GB).mono ?_
            rintro e v1 ⟨A9, q, c9, rfl, hl9, O9, h9⟩
            replace K0 := K0.below h9 K0.lt
            replace M1 := M1.below h9
            have RO : NR v1 A9 q (idsL (byS now (64 * a + s)) ts) := ⟨Reads.of_own O9⟩
            replace GB := GB.trans (h9.mono GB.size)
            have HQL := Lib.hid hl9
            have HQS : Hid (q ≤ 1000) := Lib.hid (by
              have h1 : (idsL (byS now (64 * a + s)) ts).length ≤ ts.length := by unfold idsL; rw [List.length_map]; exact List.length_filter_le _ _
              have := HL.out; have := HN9.out; omega)
            clear h9 hl9 O9 zK00 zK01 HSx
            have zK00 := K0.cell 0
            have zK01 := K0.cell 1
            by_cases hq0 : q = 0
            · as_aux_lemma =>
                have g0 : decide ((0 : Int) < (q : Int)) = false := decide_eq_false (by omega)
                have g0n : decide (0 < q) = false := decide_eq_false (by omega)
                have g0p : ¬ 0 < q := by omega
                clear hq0
                go_wp2_with fail
                clear g0p g0n
                go_loopw [61] (fun iv wr => ∃ j : Nat, j ≤ q ∧ iv = .int .i64 (j : Int) ∧ Blk wr w.heap.size 24 #[.int .i64 now, .slice A n c] ∧ NR wr A9 q (idsL (byS now (64 * a + s)) ts) ∧ MC wr m1 (partsK (byS now) ts (64 * a + s) ++ (idsL (byS now (64 * a + s)) ts).take j) ∧ Below w.heap.size w wr) (fun iv _ => q - (intOf iv).toNat)
                case atStart => exact ⟨0, Nat.zero_le _, rfl, K0, RO, by simpa using M1, GB⟩
                case round =>
                  clear K0 RO M1 GB
                  obtain ⟨j, hj, rfl, K0, RO, M1, GB⟩ := hrel
                  by_cases hjq : j < q
                  · obtain ⟨v, hv⟩ := elem_at (l := idsL (byS now (64 * a + s)) ts) (k := j) (by rw [HQL.out]; exact hjq)
                    obtain ⟨ao, rfl, b0⟩ := RO.at_ hv
                    have hvm : v ∈ idsL (byS now (64 * a + s)) ts := List.mem_of_getElem? hv
                    have hkey : keyOf Try.prog 3 (.int .i64 v) = some (.int .i64 v) := keyOf_int_mk Try.underlying3 (ids_wf HC.out hvm)
                    have HNV := Lib.hid (And.intro (parts_take (slots_rise HC.out) (byS_one now) (64 * a + s) hv) (show (idsL (byS now (64 * a + s)) ts).take (j + 1) = (idsL (byS now (64 * a + s)) ts).take j ++ [v] by rw [List.take_add_one, hv]; rfl))
                    have HM := Lib.hid (And.intro M1 (And.intro RO (And.intro K0 GB)))
                    have hML := Lib.hid (show (partsK (byS now) ts (64 * a + s) ++ (idsL (byS now (64 * a + s)) ts).take j).length < maxLen by
                      have h1 := len_le (us := ts) (byS_one now) (64 * a + s)
                      have h2 := HL.out
                      have h3 := HN9.out
                      have h4 := List.length_take_le j (idsL (byS now (64 * a + s)) ts)
                      have h5 := HQS.out
                      rw [List.length_append]; unfold maxLen; omega)
                    have HJ := Lib.hid (show j + 1 ≤ q by omega)
                    have j2 : (0 : Int) ≤ (j : Int) := by omega
                    have j3 : (j : Int) < (q : Int) := by omega
                    have l3 : decide ((j : Int) < (q : Int)) = true := decide_eq_true j3
                    have q9 : q ≤ 1000 := HQS.out
                    clear hvm hv M1 RO K0 GB
                    go_wp2_with (first
                      | (at_lookup; refine wpList_lookup_own_int _ rfl _ _ 58 rfl 3 3 .i64 (int_keyed Try.underlying3) Try.underlying58 Try.underlying3 (by kernel_rfl) m1 _ _ rfl HM.out.1.own _ _ rfl hkey ?_; intro cc hat hwc)
                      | (at_mapUpdate; refine wpList_mapUpdate_own _ rfl _ _ _ 58 rfl 3 3 (int_keyed Try.underlying3) Try.underlying58 _ m1 _ _ rfl HM.out.1.own hML.out _ _ _ rfl rfl hkey _ [] (plainElem_int Try.underlying3 (wrap64_wf _)) ?_; intro w6 hown1 hgrow1)
                      | fail)
                    obtain ⟨M1, RO, K0, GB⟩ := HM.out
                    have hsz := hgrow1.size
                    replace K0 := K0.ofMap M1 hgrow1
                    replace RO := RO.grown M1 hgrow1 hsz
                    replace GB := GB.grown hgrow1 GB.size (fun g hg => by cases hg; exact L0.out)
                    replace M1 := MC.step HNV.out.1 hat hown1
                    rw [List.append_assoc, ← HNV.out.2] at M1
                    clear HM hown1 hgrow1 hat hwc hsz
                    exact ⟨⟨j + 1, HJ.out, by go_num, K0, RO, M1, GB⟩, by have := HJ.out; clear M1 RO K0 GB; simp [intOf]; omega⟩
                  · obtain rfl : q = j := by omega
                    have l3 : decide ((q : Int) < (q : Int)) = false := decide_eq_false (by omega)
                    rw [show (idsL (byS now (64 * a + s)) ts).take q = idsL (byS now (64 * a + s)) ts by rw [← HQL.out]; exact List.take_length] at M1
                    rw [parts_succ, Nat.add_assoc] at M1
                    have M3 := M1
                    clear M1 RO hjq
                    go_wp2_with fail
                    go_roundw
                    case rel => exact ⟨s + 1, HS.out, by rw [show wrap64 ((s : Int) + 1) = ((s + 1 : Nat) : Int) by have := HS.out; unfold wrap64; omega], K0, M3, GB⟩
                    case measure => exact meas64 HS.out
            · as_aux_lemma =>
                have g0 : decide ((0 : Int) < (q : Int)) = true := decide_eq_true (by omega)
                have g0n : decide (0 < q) = true := decide_eq_true (by omega)
                have g0p : 0 < q := by omega
                have hab : dgT now a < (s : Int) := by
                  obtain ⟨x, hx⟩ := elem_at (l := idsL (byS now (64 * a + s)) ts) (k := 0) (by rw [HQL.out]; omega)
                  exact slot_above HC.out HS.out (List.mem_of_getElem? hx)
                have hsh := shift_digit now a h0N.out.1
                have w6 : wrap64 (6 * (a : Int)) = 6 * (a : Int) := by have := HA.out; unfold wrap64; omega
                have w60 : (0 : Int) ≤ 6 * (a : Int) := by omega
                have w61 : 6 * (a : Int) ≤ 64 := by have := HA.out; omega
                obtain ⟨D, hD⟩ : ∃ D, now / 2 ^ (6 * (a : Int)).toNat = D := ⟨_, rfl⟩
                rw [hD] at hsh
                have hd0 : 0 ≤ D := by rw [← hD]; exact Int.ediv_nonneg h0N.out.1 (Int.le_of_lt (Int.pow_pos (by decide)))
                have g5 : decide ((s : Int) ≤ D % 64) = false := decide_eq_false (by rw [hsh]; omega)
                have g6 : ¬ (s : Int) ≤ D % 64 := by rw [hsh]; omega
                clear hq0 hab hsh
                go_wp2_with fail
                clear g0p g0n w6 w60 w61 hD hd0 g5 g6
                go_loopw [61] (fun iv wr => ∃ j : Nat, j ≤ q ∧ iv = .int .i64 (j : Int) ∧ Blk wr w.heap.size 24 #[.int .i64 now, .slice A n c] ∧ NR wr A9 q (idsL (byS now (64 * a + s)) ts) ∧ MC wr m1 (partsK (byS now) ts (64 * a + s) ++ (idsL (byS now (64 * a + s)) ts).take j) ∧ Below w.heap.size w wr) (fun iv _ => q - (intOf iv).toNat)
                case atStart => exact ⟨0, Nat.zero_le _, rfl, K0, RO, by simpa using M1, GB⟩
                case round =>
                  clear K0 RO M1 GB
                  obtain ⟨j, hj, rfl, K0, RO, M1, GB⟩ := hrel
                  by_cases hjq : j < q
                  · obtain ⟨v, hv⟩ := elem_at (l := idsL (byS now (64 * a + s)) ts) (k := j) (by rw [HQL.out]; exact hjq)
                    obtain ⟨ao, rfl, b0⟩ := RO.at_ hv
                    have hvm : v ∈ idsL (byS now (64 * a + s)) ts := List.mem_of_getElem? hv
                    have hkey : keyOf Try.prog 3 (.int .i64 v) = some (.int .i64 v) := keyOf_int_mk Try.underlying3 (ids_wf HC.out hvm)
                    have HNV := Lib.hid (And.intro (parts_take (slots_rise HC.out) (byS_one now) (64 * a + s) hv) (show (idsL (byS now (64 * a + s)) ts).take (j + 1) = (idsL (byS now (64 * a + s)) ts).take j ++ [v] by rw [List.take_add_one, hv]; rfl))
                    have HM := Lib.hid (And.intro M1 (And.intro RO (And.intro K0 GB)))
                    have hML := Lib.hid (show (partsK (byS now) ts (64 * a + s) ++ (idsL (byS now (64 * a + s)) ts).take j).length < maxLen by
                      have h1 := len_le (us := ts) (byS_one now) (64 * a + s)
                      have h2 := HL.out
                      have h3 := HN9.out
                      have h4 := List.length_take_le j (idsL (byS now (64 * a + s)) ts)
                      have h5 := HQS.out
                      rw [List.length_append]; unfold maxLen; omega)
                    have HJ := Lib.hid (show j + 1 ≤ q by omega)
                    have j2 : (0 : Int) ≤ (j : Int) := by omega
                    have j3 : (j : Int) < (q : Int) := by omega
                    have l3 : decide ((j : Int) < (q : Int)) = true := decide_eq_true j3
                    have q9 : q ≤ 1000 := HQS.out
                    clear hvm hv M1 RO K0 GB
                    go_wp2_with (first
                      | (at_lookup; refine wpList_lookup_own_int _ rfl _ _ 58 rfl 3 3 .i64 (int_keyed Try.underlying3) Try.underlying58 Try.underlying3 (by kernel_rfl) m1 _ _ rfl HM.out.1.own _ _ rfl hkey ?_; intro cc hat hwc)
                      | (at_mapUpdate; refine wpList_mapUpdate_own _ rfl _ _ _ 58 rfl 3 3 (int_keyed Try.underlying3) Try.underlying58 _ m1 _ _ rfl HM.out.1.own hML.out _ _ _ rfl rfl hkey _ [] (plainElem_int Try.underlying3 (wrap64_wf _)) ?_; intro w6 hown1 hgrow1)
                      | fail)
                    obtain ⟨M1, RO, K0, GB⟩ := HM.out
                    have hsz := hgrow1.size
                    replace K0 := K0.ofMap M1 hgrow1
                    replace RO := RO.grown M1 hgrow1 hsz
                    replace GB := GB.grown hgrow1 GB.size (fun g hg => by cases hg; exact L0.out)
                    replace M1 := MC.step HNV.out.1 hat hown1
                    rw [List.append_assoc, ← HNV.out.2] at M1
                    clear HM hown1 hgrow1 hat hwc hsz
                    exact ⟨⟨j + 1, HJ.out, by go_num, K0, RO, M1, GB⟩, by have := HJ.out; clear M1 RO K0 GB; simp [intOf]; omega⟩
                  · obtain rfl : q = j := by omega
                    have l3 : decide ((q : Int) < (q : Int)) = false := decide_eq_false (by omega)
                    rw [show (idsL (byS now (64 * a + s)) ts).take q = idsL (byS now (64 * a + s)) ts by rw [← HQL.out]; exact List.take_length] at M1
                    rw [parts_succ, Nat.add_assoc] at M1
                    have M3 := M1
                    clear M1 RO hjq
                    go_wp2_with fail
                    go_roundw
                    case rel => exact ⟨s + 1, HS.out, by rw [show wrap64 ((s : Int) + 1) = ((s + 1 : Nat) : Int) by have := HS.out; unfold wrap64; omega], K0, M3, GB⟩
                    case measure => exact meas64 HS.out
          · have hs4 : s = 64 := by omega
            have l2 : decide ((s : Int) < 64) = false := decide_eq_false (by omega)
            have l2p : ¬ (s : Int) < 64 := by omega
            rw [show 64 * a + s = 64 * (a + 1) by omega] at M1
            have M3 := M1
            clear hs hs64 hs4 M1
            go_wp2_with fail
            go_roundw
            case rel => exact ⟨a + 1, HA.out, by rw [show wrap64 ((a : Int) + 1) = ((a + 1 : Nat) : Int) by have := HA.out; unfold wrap64; omega], K0, M3, GB⟩
            case measure => exact meas9 HA.out
      · have ha4 : a = 9 := by omega
        have l1 : decide ((a : Int) < 9) = false := decide_eq_false (by omega)
        have l1p : ¬ (a : Int) < 9 := by omega
        rw [show 64 * a = T by have := HT.out; omega] at M1
        clear ha ha9 ha4
        as_aux_lemma =>
          have zK00 := K0.cell 0
          have zK01 := K0.cell 1
          go_wp2_with fail
          clear zK00 zK01
          go_loopw [75] (fun iv wr => ∃ k : Nat, k ≤ n ∧ iv = .int .i64 (k : Int) ∧ Blk wr w.heap.size 24 #[.int .i64 now, .slice A n c] ∧ MC wr m1 (partsK (byS now) ts T) ∧ Below w.heap.size w wr) (fun iv _ => n - (intOf iv).toNat)
          case atStart => exact ⟨0, Nat.zero_le _, rfl, K0, M1, GB⟩
          case round =>
            clear K0 M1 GB
            obtain ⟨k, hk, rfl, K0, M1, GB⟩ := hrel
            by_cases hlt : k < n
            · obtain ⟨⟨a, b⟩, hx⟩ := elem_at (l := ts) (k := k) (by rw [HL.out]; exact hlt)
              obtain ⟨ad, rfl, hb, q0, q1⟩ := tm_at (hG.below GB).row hx
              have j0 : (0 : Int) ≤ (k : Int) := by omega
              have j1 : (k : Int) < (n : Int) := by omega
              have l1 : decide ((k : Int) < (n : Int)) = true := decide_eq_true j1
              have hxm := List.mem_of_getElem? hx
              have HR1 := Lib.hid (slots_in HC.out HT.out hxm)
              have hkey : keyOf Try.prog 3 (.int .i64 a) = some (.int .i64 a) := keyOf_int_mk Try.underlying3 (tid_wf HC.out hxm)
              have KB := Blk.new wr 44 #[.int .i64 a, .int .i64 b]
              replace K0 := K0.alloc (.cells #[.int .i64 a, .int .i64 b] 44)
              replace M1 := M1.alloc (.cells #[.int .i64 a, .int .i64 b] 44)
              replace GB := GB.alloc GB.size (.cells #[.int .i64 a, .int .i64 b] 44)
              have y0 := KB.cell 0
              have y1 := KB.cell 1
              have HM := Lib.hid (And.intro M1 (And.intro K0 GB))
              clear hx hxm hb M1 K0 GB
              go_wp2_with (first
                | (at_lookup; refine wpList_lookup_own_int _ rfl _ _ 58 rfl 3 3 .i64 (int_keyed Try.underlying3) Try.underlying58 Try.underlying3 (by kernel_rfl) m1 _ _ rfl HM.out.1.own _ _ rfl hkey ?_; intro cc hat hwc; obtain rfl := cnt_one _ _ HR1.out hat; clear hat hwc)
                | fail)
              obtain ⟨M1, K0, GB⟩ := HM.out
              clear HM KB y0 y1 HR1 hkey
              go_roundw
              case rel => exact ⟨k + 1, by omega, by go_num, K0, M1, GB⟩
              case measure => simp [intOf] <;> omega
            · obtain rfl : n = k := by omega
              have l1 : decide ((n : Int) < (n : Int)) = false := decide_eq_false (by omega)
              clear hlt
              as_aux_lemma =>
                have zK00 := K0.cell 0
                have zK01 := K0.cell 1
                go_wp2_with fail
                refine (HNx.out _ GB).mono ?_
                rintro e u5 ⟨rfl, h9⟩
                replace K0 := K0.below h9 K0.lt
                replace M1 := M1.below h9
                replace GB := GB.trans (h9.mono GB.size)
                clear h9 zK00 zK01
                have zK00 := K0.cell 0
                have zK01 := K0.cell 1
                go_wp2_with fail
                clear zK00 zK01
                go_loopw [13, 93] (fun sv iv wr => ∃ k : Nat, k ≤ n ∧ sv = .int .i64 (minS now (ts.take k)) ∧ iv = .int .i64 (k : Int) ∧ Blk wr w.heap.size 24 #[.int .i64 now, .slice A n c] ∧ MC wr m1 (partsK (byS now) ts T) ∧ Below w.heap.size w wr) (fun _ iv _ => n - (intOf iv).toNat)
                case atStart => exact ⟨0, Nat.zero_le _, rfl, rfl, K0, M1, GB⟩
                case round =>
                  clear K0 M1 GB
                  obtain ⟨k, hk, rfl, rfl, K0, M1, GB⟩ := hrel
                  by_cases hlt : k < n
                  · obtain ⟨⟨a, b⟩, hx⟩ := elem_at (l := ts) (k := k) (by rw [HL.out]; exact hlt)
                    obtain ⟨ad, rfl, hb, q0, q1⟩ := tm_at (hG.below GB).row hx
                    have j0 : (0 : Int) ≤ (k : Int) := by omega
                    have j1 : (k : Int) < (n : Int) := by omega
                    have l1 : decide ((k : Int) < (n : Int)) = true := decide_eq_true j1
                    have hxm := List.mem_of_getElem? hx
                    have HPx := Lib.hid (fun (u : World) (h : Below w.heap.size w u) => HPl.out k a b u hx h)
                    have HST := Lib.hid (minS_step now hx)
                    obtain ⟨f1, f2, hf⟩ : ∃ x y, spotT now b = (x, y) := ⟨_, _, rfl⟩
                    obtain ⟨S, hS⟩ : ∃ S, minS now (ts.take k) = S := ⟨_, rfl⟩
                    rw [hS] at HST ⊢
                    dsimp only at HST
                    rw [hf] at HPx HST
                    dsimp only at HPx HST
                    have KB := Blk.new wr 44 #[.int .i64 a, .int .i64 b]
                    replace K0 := K0.alloc (.cells #[.int .i64 a, .int .i64 b] 44)
                    replace M1 := M1.alloc (.cells #[.int .i64 a, .int .i64 b] 44)
                    replace GB := GB.alloc GB.size (.cells #[.int .i64 a, .int .i64 b] 44)
                    have y0 := KB.cell 0
                    have y1 := KB.cell 1
                    have z0 := K0.cell 0
                    have z1 := K0.cell 1
                    clear hx hxm hb hf hS
                    go_wp2_with fail
                    refine (HPx.out _ GB).mono ?_
                    rintro e v1 ⟨rfl, h9⟩
                    replace K0 := K0.below h9 K0.lt
                    replace M1 := M1.below h9
                    replace GB := GB.trans (h9.mono GB.size)
                    clear h9 HPx y0 y1 z0 z1 q0 q1 KB
                    go_wp2_with fail
                    go_roundw
                    case rel => exact ⟨k + 1, by omega, by rw [HST.out, min_if], by go_num, K0, M1, GB⟩
                    case measure => simp [intOf] <;> omega
                  · obtain rfl : n = k := by omega
                    have l1 : decide ((n : Int) < (n : Int)) = false := decide_eq_false (by omega)
                    have e1t : ts.take n = ts := by rw [← HL.out]; exact List.take_length
                    rw [e1t, HMS.out]
                    clear e1t hlt
                    as_aux_lemma =>
                      have zK00 := K0.cell 0
                      have zK01 := K0.cell 1
                      go_wp2_with fail
                      clear zK00 zK01
                      go_loopw [114] (fun iv wr => ∃ k : Nat, k ≤ n ∧ iv = .int .i64 (k : Int) ∧ Blk wr w.heap.size 24 #[.int .i64 now, .slice A n c] ∧ MC wr m1 (partsK (byS now) ts T) ∧ Below w.heap.size w wr) (fun iv _ => n - (intOf iv).toNat)
                      case atStart => exact ⟨0, Nat.zero_le _, rfl, K0, M1, GB⟩
                      case round =>
                        clear K0 M1 GB
                        obtain ⟨k, hk, rfl, K0, M1, GB⟩ := hrel
                        by_cases hlt : k < n
                        · obtain ⟨⟨a, b⟩, hx⟩ := elem_at (l := ts) (k := k) (by rw [HL.out]; exact hlt)
                          obtain ⟨ad, rfl, hb, q0, q1⟩ := tm_at (hG.below GB).row hx
                          have j0 : (0 : Int) ≤ (k : Int) := by omega
                          have j1 : (k : Int) < (n : Int) := by omega
                          have l1 : decide ((k : Int) < (n : Int)) = true := decide_eq_true j1
                          have hxm := List.mem_of_getElem? hx
                          have HPx := Lib.hid (fun (u : World) (h : Below w.heap.size w u) => HPl.out k a b u hx h)
                          have HLV := Lib.hid (fun (e : b = nx) => least_level HC.out hxm (e.trans HNX.out.symm))
                          rw [HMS.out] at HLV
                          obtain ⟨f1, f2, hf⟩ : ∃ x y, spotT now b = (x, y) := ⟨_, _, rfl⟩
                          rw [hf] at HPx HLV
                          dsimp only at HPx HLV
                          have KB := Blk.new wr 44 #[.int .i64 a, .int .i64 b]
                          replace K0 := K0.alloc (.cells #[.int .i64 a, .int .i64 b] 44)
                          replace M1 := M1.alloc (.cells #[.int .i64 a, .int .i64 b] 44)
                          replace GB := GB.alloc GB.size (.cells #[.int .i64 a, .int .i64 b] 44)
                          have y0 := KB.cell 0
                          have y1 := KB.cell 1
                          have z0 := K0.cell 0
                          have z1 := K0.cell 1
                          clear hx hxm hb hf
                          go_wp2_with fail
                          refine (HPx.out _ GB).mono ?_
                          rintro e v1 ⟨rfl, h9⟩
                          replace K0 := K0.below h9 K0.lt
                          replace M1 := M1.below h9
                          replace KB := KB.below h9 KB.lt
                          replace GB := GB.trans (h9.mono GB.size)
                          clear h9 HPx y0 y1 z0 z1 q0 q1
                          have y0 := KB.cell 0
                          have y1 := KB.cell 1
                          by_cases hbn : b = nx
                          · have g1 : (b == nx) = true := by simpa using hbn
                            have hfe := HLV.out hbn
                            have g2 : (f1 != mn) = false := by simp [hfe]
                            clear HLV hbn hfe
                            go_wp2_with fail
                            clear KB y0 y1
                            go_roundw
                            case rel => exact ⟨k + 1, by omega, by go_num, K0, M1, GB⟩
                            case measure => simp [intOf] <;> omega
                          · have g1 : (b == nx) = false := by simpa using hbn
                            clear HLV hbn
                            go_wp2_with fail
                            clear KB y0 y1
                            go_roundw
                            case rel => exact ⟨k + 1, by omega, by go_num, K0, M1, GB⟩
                            case measure => simp [intOf] <;> omega
                        · obtain rfl : k = n := by omega
                          have l1 : decide ((k : Int) < (k : Int)) = false := decide_eq_false (by omega)
                          have HSZ : Hid (size (cnt (H := Unit) (partsK (byS now) ts T)) = k) := Lib.hid (by rw [slots_size HC.out HT.out, HL.out])
                          have z0 := K0.cell 0
                          have z1 := K0.cell 1
                          have g3 : ((k : Int) == (k : Int)) = true := by simp
                          have HM := Lib.hid (And.intro M1 GB)
                          clear M1 GB K0
                          cases ay with
                          | true =>
                            have p1 : (0 : Int) < (k : Int) := of_decide_eq_true HAY.out
                            have p2 : 0 < k := by omega
                            have p3 : decide ((0 : Int) < (k : Int)) = true := decide_eq_true p1
                            have p4 : decide (0 < k) = true := decide_eq_true p2
                            go_wp2_with (first
                              | (at_len; refine wpList_len_wanted (by kernel_rfl) (.tmp 143) 58 rfl 3 3 Try.underlying58 _ m1 _ _ rfl HM.out.1.own k HSZ.out ?_)
                              | fail)
                            go_ret
                            exact ⟨rfl, HM.out.2⟩
                          | false =>
                            have p1 : ¬ (0 : Int) < (k : Int) := of_decide_eq_false HAY.out
                            have p2 : ¬ 0 < k := by omega
                            have p3 : decide ((0 : Int) < (k : Int)) = false := decide_eq_false p1
                            have p4 : decide (0 < k) = false := decide_eq_false p2
                            go_wp2_with (first
                              | (at_len; refine wpList_len_wanted (by kernel_rfl) (.tmp 143) 58 rfl 3 3 Try.underlying58 _ m1 _ _ rfl HM.out.1.own k HSZ.out ?_)
                              | fail)
                            go_ret
                            exact ⟨rfl, HM.out.2⟩

end Go.Proofs.Ytbhcpkmofnfjgaa
