/-
  DomainParts' walk. No statement is proved here.
-/
import Derived.Test.YtknimnopopnbhaaFk
import Derived.Deep.DeepCutAuto
namespace Go.Proofs.Ytknimnopopnbhaa
open Go.RowKit Go.Maps

set_option maxRecDepth 100000 in
set_option maxHeartbeats 32000000 in
theorem parts_no (A : Option Addr) (n c : Nat) (ds : List Dom) (B : Option Addr) (m d : Nat) (us : List Vc) (w : World) (hd : Reads w w.heap.size 4 A n (flat dv ds)) (hv : Reads w w.heap.size 4 B m (flat cv us)) (hnc : n ≤ c) (hmd : m ≤ d) (hU : UV us)
    (hno : (decide (100 < n) || decide (100 < m)) = true ∨ rightG ds us = false) :
    Calls Try.prog 6 #[.agg #[.slice A n c, .slice B m d]] w (Said (.bool true) w) := by
  have HWk := Lib.hid (fun (u : World) => wakes_any u)
  have HOv := Lib.hid (fun (u : World) => over_any A n c B m d u)
  obtain ⟨K0, GB⟩ := box1 w 25 #[.slice A n c, .slice B m d]
  by_cases ho : (decide (100 < n) || decide (100 < m)) = true
  · rw [ho] at HOv
    clear ho hno hd hv hnc hmd hU
    go_enter Try.func6, Try.ntmps6
    go_wp2_with fail
    refine (HWk.out _).mono ?_
    rintro e w1 ⟨rfl, h9⟩
    replace K0 := K0.below h9 K0.lt
    replace GB := GB.trans (h9.mono GB.size)
    clear h9
    have zK00 := K0.cell 0
    have zK01 := K0.cell 1
    go_wp2_with fail
    refine (HOv.out _).mono ?_
    rintro e w2 ⟨rfl, h9⟩
    replace K0 := K0.below h9 K0.lt
    replace GB := GB.trans (h9.mono GB.size)
    clear h9
    clear zK00 zK01
    go_wp2
    go_ret
    exact ⟨rfl, GB⟩
  · have hr : rightG ds us = false := hno.resolve_left ho
    have ho2 : (decide (100 < n) || decide (100 < m)) = false := by simpa using ho
    rw [ho2] at HOv
    have hn : n ≤ 100 ∧ m ≤ 100 := by simp at ho; omega
    have hGR : GR w A n c ds B m d us := ⟨hd, hv, hnc, hmd, by omega, by omega, hU⟩
    have HG := Lib.hid hGR
    clear ho ho2 hno hd hv hnc hmd hU hGR hn
    have HCk := Lib.hid (fun (u : World) (h : Below w.heap.size w u) => gcheck_any A n c ds B m d us u (HG.out.below h))
    rw [show chkG ds us = 190 from if_neg (by rw [hr]; simp)] at HCk
    clear hr
    go_enter Try.func6, Try.ntmps6
    go_wp2_with fail
    refine (HWk.out _).mono ?_
    rintro e w1 ⟨rfl, h9⟩
    replace K0 := K0.below h9 K0.lt
    replace GB := GB.trans (h9.mono GB.size)
    clear h9
    have zK00 := K0.cell 0
    have zK01 := K0.cell 1
    go_wp2_with fail
    refine (HOv.out _).mono ?_
    rintro e w2 ⟨rfl, h9⟩
    replace K0 := K0.below h9 K0.lt
    replace GB := GB.trans (h9.mono GB.size)
    clear h9
    clear zK00 zK01
    have zK00 := K0.cell 0
    have zK01 := K0.cell 1
    go_wp2_with fail
    refine (HCk.out _ GB).mono ?_
    rintro e w3 ⟨rfl, h9⟩
    replace K0 := K0.below h9 K0.lt
    replace GB := GB.trans (h9.mono GB.size)
    clear h9
    clear zK00 zK01
    go_wp2
    go_ret
    exact ⟨rfl, GB⟩
set_option maxRecDepth 100000 in
set_option maxHeartbeats 32000000 in
theorem parts_yes (A : Option Addr) (n c : Nat) (ds : List Dom) (B : Option Addr) (m d : Nat) (us : List Vc) (w : World) (hG : GR w A n c ds B m d us) (hr : rightG ds us = true) (ho : (decide (100 < n) || decide (100 < m)) = false) :
    Calls Try.prog 6 #[.agg #[.slice A n c, .slice B m d]] w (Said (.bool true) w) := by
  have HWk := Lib.hid (fun (u : World) => wakes_any u)
  have HOv := Lib.hid (fun (u : World) => over_any A n c B m d u)
  have HK := Lib.hid (box1 w 25 #[.slice A n c, .slice B m d])
  have HG := Lib.hid hG
  have HP := Lib.hid (rightG_iff.1 hr)
  have HL := Lib.hid hG.len
  rw [ho] at HOv
  have HCk := Lib.hid (fun (u : World) (h : Below w.heap.size w u) => gcheck_any A n c ds B m d us u (HG.out.below h))
  rw [show chkG ds us = 0 from if_pos hr] at HCk
  have HOf := Lib.hid (fun (x : Int) (u : World) (h : Below w.heap.size w u) => (show idsQ (fun v => v.2.1 == x) ds us = ofL us x from if_pos hr) ▸ gof_any A n c ds B m d us x u (HG.out.below h))
  have HIn := Lib.hid (fun (x : Int) (u : World) (h : Below w.heap.size w u) => (show idsQ (fun v => (domV ds v.2.1).1.2.2.2 == x) ds us = inL ds us x from if_pos hr) ▸ gin_any A n c ds B m d us x u (HG.out.below h))
  have HRt := Lib.hid (fun (x : Dom) (hx : x ∈ ds) (v : Int) (hv : v ∈ ofL us x.1) (u : World) (h : Below w.heap.size w u) => (show Calls Try.prog 36 #[.agg #[.slice A n c, .slice B m d], .int .i64 v] u (Said (.tuple #[.int .i64 x.2.1, .int .i64 ((ofL us x.1).length : Nat), .bool true]) u) from by
    have q := grate_any A n c ds B m d us v u (HG.out.below h)
    rw [rate_of HP.out hx hv] at q
    exact q))
  have HWq := Lib.hid (fun (x : Int) (u : World) (h : Below w.heap.size w u) => (show weighQ ds us x = weighK ds us x ds.length from if_pos hr) ▸ gweights_any A n c ds B m d us x u (HG.out.below h))
  have HN : Hid (n ≤ 8 ∧ m ≤ 16) := Lib.hid (by have := (rightG_iff.1 hr).dn; have := (rightG_iff.1 hr).vn; have := hG.len; omega)
  clear ho hr hG
  have hmm := @run_makeMap Try.prog
  obtain ⟨K0, GB⟩ := HK.out
  go_enter Try.func6, Try.ntmps6
  go_wp2_with fail
  refine (HWk.out _).mono ?_
  rintro e w1 ⟨rfl, h9⟩
  replace K0 := K0.below h9 K0.lt
  replace GB := GB.trans (h9.mono GB.size)
  clear h9
  have zK00 := K0.cell 0
  have zK01 := K0.cell 1
  go_wp2_with fail
  refine (HOv.out _).mono ?_
  rintro e w2 ⟨rfl, h9⟩
  replace K0 := K0.below h9 K0.lt
  replace GB := GB.trans (h9.mono GB.size)
  clear h9
  clear zK00 zK01
  have zK00 := K0.cell 0
  have zK01 := K0.cell 1
  go_wp2_with fail
  refine (HCk.out _ GB).mono ?_
  rintro e w3 ⟨rfl, h9⟩
  replace K0 := K0.below h9 K0.lt
  replace GB := GB.trans (h9.mono GB.size)
  clear h9
  clear zK00 zK01
  have L0 := GB.size
  have M1 := MC.made w3
  replace K0 := K0.alloc (.map #[] 0)
  replace GB := GB.alloc GB.size (.map #[] 0)
  replace M1 := M1.alloc (.map #[] 0)
  have M2 := MC.made (w3.alloc (.map #[] 0))
  replace K0 := K0.alloc (.map #[] 0)
  replace GB := GB.alloc GB.size (.map #[] 0)
  go_upto_region 7 with fail
  rw [show (w3.alloc (.map #[] 0)).heap.size = w3.heap.size + 1 from by simp] at M2
  obtain ⟨m1, hm1⟩ : ∃ b, w3.heap.size = b := ⟨_, rfl⟩
  obtain ⟨Y, hY⟩ : ∃ Y, (w3.alloc (.map #[] 0)).alloc (.map #[] 0) = Y := ⟨_, rfl⟩
  rw [hY] at K0 GB M1 M2 ⊢
  rw [hm1] at M1 M2 L0 ⊢
  clear hY hm1 hmm HK
  have zK00 := K0.cell 0
  have zK01 := K0.cell 1
  go_wp2_with fail
  go_loopw [5, 35] (fun s i wr => ∃ k : Nat, k ≤ n ∧ s = .int .i64 (wsK ds us k) ∧ i = .int .i64 (k : Int) ∧ Blk wr w.heap.size 25 #[.slice A n c, .slice B m d] ∧ MC wr m1 (partsK (byDom ds) us k) ∧ MC wr (m1 + 1) [] ∧ Below w.heap.size w wr) (fun _ i _ => n - (intOf i).toNat)
  case atStart => exact ⟨0, Nat.zero_le _, rfl, rfl, K0, M1, M2, GB⟩
  case round =>
    clear K0 M1 M2 GB zK00 zK01
    obtain ⟨k, hk, rfl, rfl, K0, M1, M2, GB⟩ := hrel
    by_cases hlt : k < n
    · obtain ⟨⟨x1, x2, x3, x4⟩, hx⟩ := elem_at (l := ds) (k := k) (by have := HL.out; omega)
      obtain ⟨ad, rfl, hb, c0, c1, c2, c3⟩ := dom_at (HG.out.below GB).doms hx
      have HX := Lib.hid hx
      have HR := Lib.hid (rightD_iff.1 (HP.out.od _ (List.mem_of_getElem? hx)))
      have j0 : (0 : Int) ≤ (k : Int) := by omega
      have j1 : (k : Int) < (n : Int) := by omega
      have KD := Blk.new wr 27 #[.int .i64 x1, .int .i64 x2, .int .i64 x3, .int .i64 x4]
      have K0' := K0.alloc (.cells #[.int .i64 x1, .int .i64 x2, .int .i64 x3, .int .i64 x4] 27)
      have M1' := M1.alloc (.cells #[.int .i64 x1, .int .i64 x2, .int .i64 x3, .int .i64 x4] 27)
      have M2' := M2.alloc (.cells #[.int .i64 x1, .int .i64 x2, .int .i64 x3, .int .i64 x4] 27)
      have GB' := GB.alloc GB.size (.cells #[.int .i64 x1, .int .i64 x2, .int .i64 x3, .int .i64 x4] 27)
      have HM := Lib.hid (And.intro K0' (And.intro M1' (And.intro M2' GB')))
      clear K0' M1' M2' GB' K0 M1 M2 GB hx
      go_upto_region 10 with fail
      obtain ⟨Y2, hY2⟩ : ∃ Y, wr.alloc (.cells #[.int .i64 x1, .int .i64 x2, .int .i64 x3, .int .i64 x4] 27) = Y := ⟨_, rfl⟩
      obtain ⟨gd, hgd⟩ : ∃ g, wr.heap.size = g := ⟨_, rfl⟩
      obtain ⟨K0, M1, M2, GB⟩ := HM.out
      rw [hY2] at K0 M1 M2 GB KD ⊢
      rw [hgd] at KD ⊢
      clear HM hY2 hgd c0 c1 c2 c3
      have a0 := K0.cell 0
      have a1 := K0.cell 1
      have a2 := KD.cell 0
      go_wp2_with fail
      refine (HOf.out _ _ GB).mono ?_
      rintro e w5 ⟨Ao, co, rfl, qo, oo, h9⟩
      have RO : NR w5 Ao (ofL us x1).length (ofL us x1) := ⟨Reads.of_own oo⟩
      replace K0 := K0.below h9 K0.lt
      replace KD := KD.below h9 KD.lt
      replace M1 := M1.below h9
      replace M2 := M2.below h9
      replace GB := GB.trans (h9.mono GB.size)
      clear h9 qo oo a0 a1 a2
      have hq : (ofL us x1).length ≤ 16 := by have := ofL_le us x1; have := HN.out; have := HL.out; omega
      obtain ⟨q, hqq⟩ : ∃ q, (ofL us x1).length = q := ⟨_, rfl⟩
      rw [hqq] at RO hq ⊢
      go_wp2_with fail
      go_loopw [9, 45] (fun s i wr => ∃ j : Nat, j ≤ q ∧ s = .int .i64 (tms x2 j) ∧ i = .int .i64 (j : Int) ∧ Blk wr w.heap.size 25 #[.slice (some ad) n c, .slice B m d] ∧ Blk wr gd 27 #[.int .i64 x1, .int .i64 x2, .int .i64 x3, .int .i64 x4] ∧ NR wr Ao q (ofL us x1) ∧ MC wr m1 (partsK (byDom ds) us k ++ (ofL us x1).take j) ∧ MC wr (m1 + 1) [] ∧ Below w.heap.size w wr) (fun _ i _ => q - (intOf i).toNat)
      case atStart => exact ⟨0, Nat.zero_le _, rfl, rfl, K0, KD, RO, by simpa using M1, M2, GB⟩
      case round =>
        clear K0 KD RO M1 M2 GB
        obtain ⟨j, hj, rfl, rfl, K0, KD, RO, M1, M2, GB⟩ := hrel
        by_cases hjq : j < q
        · obtain ⟨v, hv⟩ := elem_at (l := ofL us x1) (k := j) (by omega)
          obtain ⟨ao, rfl, b0⟩ := RO.at_ hv
          have hnew := parts_take HP.out HX.out hv
          have hvm : v ∈ ofL us x1 := List.mem_of_getElem? hv
          have HRv := Lib.hid (fun (u : World) (h : Below w.heap.size w u) => (hqq ▸ HRt.out _ (List.mem_of_getElem? HX.out) v hvm u h : Calls Try.prog 36 #[.agg #[.slice (some ad) n c, .slice B m d], .int .i64 v] u (Said (.tuple #[.int .i64 x2, .int .i64 (q : Int), .bool true]) u)))
          have hkey : keyOf Try.prog 3 (.int .i64 v) = some (.int .i64 v) := keyOf_int_mk Try.underlying3 (id_wf HP.out (idsL_of us x1 ▸ hvm))
          have HNV := Lib.hid (And.intro hnew (show (ofL us x1).take (j + 1) = (ofL us x1).take j ++ [v] by rw [List.take_add_one, hv]; rfl))
          have HM := Lib.hid (And.intro M1 (And.intro M2 (And.intro RO (And.intro K0 (And.intro KD GB)))))
          have hML := Lib.hid (show (partsK (byDom ds) us k ++ (ofL us x1).take j).length < maxLen by have := parts_len HP.out k; rw [List.length_append, List.length_take]; unfold maxLen; omega)
          have j2 : (0 : Int) ≤ (j : Int) := by omega
          have j3 : (j : Int) < (q : Int) := by omega
          clear hnew hvm hv M1 M2 RO K0 KD GB
          go_wp2_with (first
            | (at_lookup; refine wpList_lookup_own_int _ rfl _ _ 66 rfl 3 3 .i64 (int_keyed Try.underlying3) Try.underlying66 Try.underlying3 (by kernel_rfl) m1 _ _ rfl HM.out.1.own _ _ rfl hkey ?_; intro cc hat hwc)
            | (at_mapUpdate; refine wpList_mapUpdate_own _ rfl _ _ _ 66 rfl 3 3 (int_keyed Try.underlying3) Try.underlying66 _ m1 _ _ rfl HM.out.1.own hML.out _ _ _ rfl rfl hkey _ [] (plainElem_int Try.underlying3 (wrap64_wf _)) ?_; intro w6 hown1 hgrow1; have K6 := HM.out.2.2.2.1.ofMap HM.out.1 hgrow1; have z0 := K6.cell 0; have z1 := K6.cell 1)
            | fail)
          obtain ⟨M1, M2, RO, K0, KD, GB⟩ := HM.out
          have hsz := hgrow1.size
          replace K0 := K0.ofMap M1 hgrow1
          replace KD := KD.ofMap M1 hgrow1
          replace RO := RO.grown M1 hgrow1 hsz
          replace M2 := M2.other hgrow1 (by omega)
          replace GB := GB.grown hgrow1 GB.size (fun g hg => by cases hg; exact L0)
          replace M1 := MC.step HNV.out.1 hat hown1
          rw [List.append_assoc, ← HNV.out.2] at M1
          clear HM hown1 hgrow1 hat hwc z0 z1 K6 hsz
          refine (HRv.out _ GB).mono ?_
          rintro e w7 ⟨rfl, h9⟩
          replace K0 := K0.below h9 K0.lt
          replace KD := KD.below h9 KD.lt
          replace RO := RO.below h9
          replace M1 := M1.below h9
          replace M2 := M2.below h9
          replace GB := GB.trans (h9.mono GB.size)
          have hst := tms_step (x := x2) (j := j) (by have := HR.out; omega) (by have := HR.out; omega) (by omega)
          have HST := Lib.hid (And.intro hst (show j + 1 ≤ q by omega))
          clear hst
          have HZ := Lib.hid (And.intro M1 (And.intro M2 (And.intro RO (And.intro K0 (And.intro KD GB)))))
          have z0 := KD.cell 1
          clear h9 M1 M2 RO K0 KD GB
          go_wp2_with fail
          obtain ⟨M1, M2, RO, K0, KD, GB⟩ := HZ.out
          exact ⟨⟨j + 1, HST.out.2, congrArg (Value.int .i64) HST.out.1, by go_num, K0, KD, RO, M1, M2, GB⟩, by have := HST.out.2; clear M1 M2 RO K0 KD GB; simp [intOf]; omega⟩
        · obtain rfl : q = j := by omega
          have HQ := Lib.hid (show (ofL us x1).take q = ofL us x1 by rw [← hqq]; exact List.take_length)
          rw [HQ.out] at M1
          have HZ := Lib.hid (And.intro M1 (And.intro M2 (And.intro K0 GB)))
          have hHR := HR.out
          have hmul := tms_wrap (x := x2) (j := q) (by omega) (by omega) (by omega)
          have hb := ws_bound HP.out k (by have := HL.out; omega)
          have HE : Hid (partsK (byDom ds) us (k + 1) = partsK (byDom ds) us k ++ ofL us x1) := Lib.hid (by rw [← byDom_of HX.out]; rfl)
          have hE1 : wsK ds us (k + 1) = wsK ds us k + (if 0 < (ofL us x1).length then x2 else 0) := by
            show wsK ds us k + _ = _
            rw [dgetD HX.out]
          rw [hqq] at hE1
          have hws : 0 < q → wrap64 (wsK ds us k + x2) = wsK ds us (k + 1) := fun h => by
            rw [hE1, if_pos h]
            unfold wrap64
            have := HN.out
            omega
          have hws0 : q = 0 → wsK ds us k = wsK ds us (k + 1) := fun h => by rw [hE1, if_neg (by omega)]; omega
          have HW := Lib.hid (And.intro hws hws0)
          have z0 := KD.cell 1
          have hk1 : k + 1 ≤ n := by omega
          have hn8 : n ≤ 8 := HN.out.1
          clear hb hws hws0 hE1 M1 M2 RO K0 KD GB hHR hjq
          by_cases hq0 : 0 < q
          · have e1 : decide ((0 : Int) < (q : Int)) = true := decide_eq_true (by omega)
            have e2 := HW.out.1 hq0
            go_wp2_with fail
            obtain ⟨M1, M2, K0, GB⟩ := HZ.out
            exact ⟨⟨k + 1, hk1, by rw [e2], by go_num, K0, by rw [HE.out]; exact M1, M2, GB⟩, by simp [intOf]; omega⟩
          · have e1 : decide ((0 : Int) < (q : Int)) = false := decide_eq_false (by omega)
            have e2 := HW.out.2 (by omega)
            go_wp2_with fail
            obtain ⟨M1, M2, K0, GB⟩ := HZ.out
            exact ⟨⟨k + 1, hk1, by rw [e2], by go_num, K0, by rw [HE.out]; exact M1, M2, GB⟩, by simp [intOf]; omega⟩
    · obtain rfl : n = k := by omega
      clear hlt
      go_wp2_with fail
      go_loopw [15, 93] (fun s i wr => ∃ p : Nat, p ≤ 4 ∧ s = .int .i64 (wpK ds us p) ∧ i = .int .i64 (p : Int) ∧ Blk wr w.heap.size 25 #[.slice A n c, .slice B m d] ∧ MC wr m1 (partsK (byDom ds) us n) ∧ MC wr (m1 + 1) (partsK (byPool ds) us p) ∧ Below w.heap.size w wr) (fun _ i _ => 4 - (intOf i).toNat)
      case atStart => exact ⟨0, by omega, rfl, rfl, K0, M1, M2, GB⟩
      case round =>
        clear K0 M1 M2 GB
        obtain ⟨p, hp, rfl, rfl, K0, M1, M2, GB⟩ := hrel
        by_cases hlt : p < 4
        · have j0 : (0 : Int) ≤ (p : Int) := by omega
          have j1 : (p : Int) < 4 := by omega
          have z0 := K0.cell 0
          have z1 := K0.cell 1
          go_wp2_with fail
          refine (HIn.out _ _ GB).mono ?_
          rintro e w5 ⟨Ao, co, rfl, qo, oo, h9⟩
          have RO : NR w5 Ao (inL ds us (p : Int)).length (inL ds us (p : Int)) := ⟨Reads.of_own oo⟩
          replace K0 := K0.below h9 K0.lt
          replace M1 := M1.below h9
          replace M2 := M2.below h9
          replace GB := GB.trans (h9.mono GB.size)
          clear h9 qo oo z0 z1
          have hq : (inL ds us (p : Int)).length ≤ 16 := in_le HP.out p
          obtain ⟨q, hqq⟩ : ∃ q, (inL ds us (p : Int)).length = q := ⟨_, rfl⟩
          rw [hqq] at RO hq ⊢
          go_wp2_with fail
          go_loopw [100] (fun i wr => ∃ j : Nat, j ≤ q ∧ i = .int .i64 (j : Int) ∧ Blk wr w.heap.size 25 #[.slice A n c, .slice B m d] ∧ NR wr Ao q (inL ds us (p : Int)) ∧ MC wr m1 (partsK (byDom ds) us n) ∧ MC wr (m1 + 1) (partsK (byPool ds) us p ++ (inL ds us (p : Int)).take j) ∧ Below w.heap.size w wr) (fun i _ => q - (intOf i).toNat)
          case atStart => exact ⟨0, Nat.zero_le _, rfl, K0, RO, M1, by simpa using M2, GB⟩
          case round =>
            clear K0 RO M1 M2 GB
            obtain ⟨j, hj, rfl, K0, RO, M1, M2, GB⟩ := hrel
            by_cases hjq : j < q
            · obtain ⟨v, hv⟩ := elem_at (l := inL ds us (p : Int)) (k := j) (by omega)
              obtain ⟨ao, rfl, b0⟩ := RO.at_ hv
              have hnew := pool_take HP.out p hv
              have hvm : v ∈ inL ds us (p : Int) := List.mem_of_getElem? hv
              have hkey : keyOf Try.prog 3 (.int .i64 v) = some (.int .i64 v) := keyOf_int_mk Try.underlying3 (id_wf HP.out (byPool_of ds us p ▸ hvm))
              have HNV := Lib.hid (And.intro hnew (show (inL ds us (p : Int)).take (j + 1) = (inL ds us (p : Int)).take j ++ [v] by rw [List.take_add_one, hv]; rfl))
              have HM := Lib.hid (And.intro M2 (And.intro M1 (And.intro RO (And.intro K0 GB))))
              have hML := Lib.hid (show (partsK (byPool ds) us p ++ (inL ds us (p : Int)).take j).length < maxLen by have := pool_len HP.out p; rw [List.length_append, List.length_take]; unfold maxLen; omega)
              have HJ := Lib.hid (show j + 1 ≤ q by omega)
              have j2 : (0 : Int) ≤ (j : Int) := by omega
              have j3 : (j : Int) < (q : Int) := by omega
              clear hnew hvm hv M1 M2 RO K0 GB
              go_wp2_with (first
                | (at_lookup; refine wpList_lookup_own_int _ rfl _ _ 66 rfl 3 3 .i64 (int_keyed Try.underlying3) Try.underlying66 Try.underlying3 (by kernel_rfl) (m1 + 1) _ _ rfl HM.out.1.own _ _ rfl hkey ?_; intro cc hat hwc)
                | (at_mapUpdate; refine wpList_mapUpdate_own _ rfl _ _ _ 66 rfl 3 3 (int_keyed Try.underlying3) Try.underlying66 _ (m1 + 1) _ _ rfl HM.out.1.own hML.out _ _ _ rfl rfl hkey _ [] (plainElem_int Try.underlying3 (wrap64_wf _)) ?_; intro w6 hown1 hgrow1)
                | fail)
              obtain ⟨M2, M1, RO, K0, GB⟩ := HM.out
              have hsz := hgrow1.size
              replace K0 := K0.ofMap M2 hgrow1
              replace RO := RO.grown M2 hgrow1 hsz
              replace M1 := M1.other hgrow1 (by omega)
              replace GB := GB.grown hgrow1 GB.size (fun g hg => by cases hg; exact Nat.le_succ_of_le L0)
              replace M2 := MC.step HNV.out.1 hat hown1
              rw [List.append_assoc, ← HNV.out.2] at M2
              clear HM hown1 hgrow1 hat hwc hsz
              exact ⟨⟨j + 1, HJ.out, by go_num, K0, RO, M1, M2, GB⟩, by have := HJ.out; clear M1 M2 RO K0 GB; simp [intOf]; omega⟩
            · obtain rfl : q = j := by omega
              have HQ := Lib.hid (show (inL ds us (p : Int)).take q = inL ds us (p : Int) by rw [← hqq]; exact List.take_length)
              rw [HQ.out] at M2
              rw [← byPool_of] at M2
              have M3 : MC wr (m1 + 1) (partsK (byPool ds) us (p + 1)) := M2
              clear M2
              have z0 := K0.cell 0
              have z1 := K0.cell 1
              have hp1 : p + 1 ≤ 4 := by omega
              have hst := wpK_step HP.out (p := p) (by omega)
              have HST := Lib.hid hst
              have HB := wpK_bound HP.out p
              clear hst hjq hlt
              go_wp2_with fail
              refine (HWq.out _ _ GB).mono ?_
              rintro e w7 ⟨rfl, h9⟩
              replace K0 := K0.below h9 K0.lt
              replace M1 := M1.below h9
              replace M3 := M3.below h9
              replace GB := GB.trans (h9.mono GB.size)
              clear h9 z0 z1 RO
              go_wp2_with fail
              exact ⟨⟨p + 1, hp1, congrArg (Value.int .i64) HST.out, by go_num, K0, M1, M3, GB⟩, by simp [intOf]; omega⟩
        · obtain rfl : p = 4 := by omega
          clear hlt
          have hall : wpK ds us 4 = wsK ds us n := by rw [wpK_all HP.out, HL.out.1]
          rw [hall]
          have z0 := K0.cell 0
          have z1 := K0.cell 1
          go_wp2_with fail
          clear z0 z1
          go_loopw [118] (fun i wr => ∃ k : Nat, k ≤ m ∧ i = .int .i64 (k : Int) ∧ Blk wr w.heap.size 25 #[.slice A n c, .slice B m d] ∧ MC wr m1 (partsK (byDom ds) us n) ∧ MC wr (m1 + 1) (partsK (byPool ds) us 4) ∧ Below w.heap.size w wr) (fun i _ => m - (intOf i).toNat)
          case atStart => exact ⟨0, Nat.zero_le _, rfl, K0, M1, M2, GB⟩
          case round =>
            clear K0 M1 M2 GB
            obtain ⟨k, hk, rfl, K0, M1, M2, GB⟩ := hrel
            by_cases hlt : k < m
            · obtain ⟨⟨a, b, h, s⟩, hx⟩ := elem_at (l := us) (k := k) (by have := HL.out; omega)
              obtain ⟨ad, rfl, hb, c0, c1, c2, c3⟩ := vc_at (HG.out.below GB).vcs hx
              have hmem := List.mem_of_getElem? hx
              have hr1 := dom_in HP.out hmem
              rw [HL.out.1] at hr1
              have HR1 := Lib.hid hr1
              have HR2 := Lib.hid (pool_in HP.out hmem)
              have hkey : keyOf Try.prog 3 (.int .i64 a) = some (.int .i64 a) := keyOf_int_mk Try.underlying3 (vid_wf HP.out hmem)
              have j0 : (0 : Int) ≤ (k : Int) := by omega
              have j1 : (k : Int) < (m : Int) := by omega
              have m16 : m ≤ 16 := HN.out.2
              have KD := Blk.new wr 50 #[.int .i64 a, .int .i64 b, .int .u32 (h : Int), .int .u32 (s : Int)]
              have K0' := K0.alloc (.cells #[.int .i64 a, .int .i64 b, .int .u32 (h : Int), .int .u32 (s : Int)] 50)
              have M1' := M1.alloc (.cells #[.int .i64 a, .int .i64 b, .int .u32 (h : Int), .int .u32 (s : Int)] 50)
              have M2' := M2.alloc (.cells #[.int .i64 a, .int .i64 b, .int .u32 (h : Int), .int .u32 (s : Int)] 50)
              have GB' := GB.alloc GB.size (.cells #[.int .i64 a, .int .i64 b, .int .u32 (h : Int), .int .u32 (s : Int)] 50)
              have HM := Lib.hid (And.intro M1' (And.intro M2' (And.intro K0' GB')))
              have zz := KD.cell 0
              clear M1' M2' K0' GB' M1 M2 K0 GB hr1 hmem hx KD
              go_wp2_with (first
                | (at_lookup; first
                  | (refine wpList_lookup_own_int _ rfl _ _ 66 rfl 3 3 .i64 (int_keyed Try.underlying3) Try.underlying66 Try.underlying3 (by kernel_rfl) m1 _ _ rfl HM.out.1.own _ _ rfl hkey ?_; intro cc hat hwc; obtain rfl := cnt_one _ _ HR1.out hat; clear hat hwc)
                  | (refine wpList_lookup_wanted (by kernel_rfl) _ _ 66 rfl 3 3 .i64 (int_keyed Try.underlying3) Try.underlying66 Try.underlying3 (by kernel_rfl) (m1 + 1) _ _ rfl HM.out.2.1.own _ _ rfl hkey ?_; intro cc hat hwc; obtain rfl := cnt_one _ _ HR2.out hat; clear hat hwc))
                | fail)
              obtain ⟨M1, M2, K0, GB⟩ := HM.out
              exact ⟨⟨_, _, .int .i64 ((k + 1 : Nat) : Int), ⟨k + 1, by omega, rfl, K0, M1, M2, GB⟩, rfl, rfl, by go_num⟩, by clear M1 M2 K0 GB; simp [intOf]; omega⟩
            · obtain rfl : m = k := by omega
              have HS1 : Hid (size (cnt (H := Unit) (partsK (byDom ds) us n)) = m) := Lib.hid (by rw [← HL.out.1, dom_size HP.out, HL.out.2])
              have HS2 : Hid (size (cnt (H := Unit) (partsK (byPool ds) us 4)) = m) := Lib.hid (by rw [pool_size HP.out, HL.out.2])
              have HM := Lib.hid (And.intro M1 (And.intro M2 GB))
              have z0 := K0.cell 0
              have z1 := K0.cell 1
              clear M1 M2 GB K0 hlt
              go_wp2_with (first
                | (at_len; first
                  | refine wpList_len_wanted (by kernel_rfl) (.tmp 135) 66 rfl 3 3 Try.underlying66 _ m1 _ _ rfl HM.out.1.own m HS1.out ?_
                  | refine wpList_len_wanted (by kernel_rfl) (.tmp 142) 66 rfl 3 3 Try.underlying66 _ (m1 + 1) _ _ rfl HM.out.2.1.own m HS2.out ?_)
                | fail)
              go_ret
              exact ⟨rfl, HM.out.2.2⟩

/-- for every guests that may be written -/
theorem parts_walk (A : Option Addr) (n c : Nat) (ds : List Dom) (B : Option Addr) (m d : Nat) (us : List Vc) (w : World) (hd : Reads w w.heap.size 4 A n (flat dv ds)) (hv : Reads w w.heap.size 4 B m (flat cv us)) (hnc : n ≤ c) (hmd : m ≤ d) (hU : UV us) :
    Calls Try.prog 6 #[.agg #[.slice A n c, .slice B m d]] w (Said (.bool true) w) := by
  by_cases ho : (decide (100 < n) || decide (100 < m)) = true
  · exact parts_no A n c ds B m d us w hd hv hnc hmd hU (.inl ho)
  · cases hr : rightG ds us with
    | false => exact parts_no A n c ds B m d us w hd hv hnc hmd hU (.inr hr)
    | true =>
      have hn : n ≤ 100 ∧ m ≤ 100 := by simp at ho; omega
      exact parts_yes A n c ds B m d us w ⟨hd, hv, hnc, hmd, by omega, by omega, hU⟩ hr (by simpa using ho)

end Go.Proofs.Ytknimnopopnbhaa
