/-
  GangBack, walked. No statement is proved here.
-/
import Derived.Test.YtpfkpeofohkdfaaKh
namespace Go.Proofs.Ytpfkpeofohkdfaa
open Go.RowKit Go.Maps

set_option maxRecDepth 100000 in
set_option maxHeartbeats 32000000 in
theorem back_walk (A : Option Addr) (n c : Nat) (xs : List Gn) (A1 : Option Addr) (n1 c1 : Nat) (ms0 : List Int) (v : Int) (w : World) (hA : NA w A n xs) (hM : Reads w w.heap.size 1 A1 n1 (vs ms0)) (hc1 : n1 ≤ c1) :
    Calls Try.prog 7 #[.agg #[.slice A n c], .slice A1 n1 c1, .int .i64 v] w (Said (.bool true) w) := by
  obtain ⟨K0, GB⟩ := box1 w 24 #[.slice A n c]
  have HW := Lib.hid (wakes_any (w.alloc (.cells #[.slice A n c] 24)))
  have HSh := Lib.hid (fun (u : World) (hu : Below w.heap.size w u) => short_any A n c xs u (hA.below hu))
  have HIn := Lib.hid (fun (u : World) (hu : Below w.heap.size w u) => ints_any A1 n1 c1 ms0 u ((hM.below hu).more hu.size) hc1)
  obtain ⟨ms, hms⟩ : ∃ ms, intsL ms0 = ms := ⟨_, rfl⟩
  have HMS := Lib.hid hms
  obtain ⟨l, hl⟩ : ∃ l, shortL (gsM xs) = l := ⟨_, rfl⟩
  have HLl := Lib.hid hl
  have HGB := Lib.hid GB
  have HK0 := Lib.hid K0
  clear hA hM K0 GB hms hl
  go_enter Try.func7, Try.ntmps7
  go_wp2_with fail
  refine HW.out.mono ?_
  rintro e w0 ⟨rfl, h0⟩
  have k0 := (HK0.out.below h0 HK0.out.lt).cell 0
  have HB0 := Lib.hid (HGB.out.trans (h0.mono HGB.out.size))
  clear h0
  go_wp2_with fail
  refine (HSh.out w0 HB0.out).mono ?_
  rintro e w1 ⟨A5, n5, c5, G5, rfl, N5, E5, h59, M5, h1⟩
  rw [HLl.out] at E5
  have HE5 := Lib.hid E5
  have hc5 : n5 ≤ c5 := N5.nc
  have D1 := (Below.refl w1.heap.size w1).alloc (Nat.le_refl _) (.cells #[.slice A5 n5 c5] 24)
  have HN2 := Lib.hid ((N5.nw (by omega) (fun g hg => by have := M5 g hg; omega)).below D1)
  have HG2 := Lib.hid (Blk.new w1 24 #[.slice A5 n5 c5])
  have hb1 := HB0.out.trans (h1.mono HB0.out.size)
  have HB2 := Lib.hid (hb1.trans (D1.mono hb1.size))
  clear N5 E5 M5 h1 hb1 D1 k0
  go_upto_region 4 with fail
  obtain ⟨gb, hgb⟩ : ∃ X, w1.heap.size = X := ⟨_, rfl⟩
  obtain ⟨w2, hw2⟩ : ∃ X, w1.alloc (.cells #[.slice A5 n5 c5] 24) = X := ⟨_, rfl⟩
  rw [hw2] at HN2 HG2 HB2 ⊢
  rw [hgb] at HG2 ⊢
  clear hw2 hgb
  obtain ⟨⟨E, idv, H⟩, hV⟩ : ∃ V : Int × Int × List Gm, (unfV l ms, (if unfV l ms = 0 then (gapG l : Int) + 1 else 0), if unfV l ms = 0 then formG l ms else []) = V := ⟨_, rfl⟩
  have HFo : Hid (∀ (u : World) (Ai : Option Addr) (ni ci : Nat), Below w2.heap.size w2 u → IR u Ai ni ms → Calls Try.prog 29 #[.agg #[.slice A5 n5 c5], .slice Ai ni ci] u (RunSaid (E, idv, H) u)) := Lib.hid (fun u Ai ni ci h1 h2 => by
    have := form_any A5 n5 c5 G5 Ai ni ci ms u (HN2.out.below h1) hc5 h2
    rw [HE5.out] at this
    rw [← hV]
    exact this)
  have HV := Lib.hid hV
  have HCk : Hid (∀ u, Below w2.heap.size w2 u → u.cell? ⟨gb, 0, none⟩ = some (.slice A5 n5 c5)) := Lib.hid (fun u hu => (HG2.out.below hu HG2.out.lt).cell 0)
  have HIn2 := Lib.hid (fun (u : World) (hu : Below w2.heap.size w2 u) => HIn.out u (HB2.out.trans (hu.mono HB2.out.size)))
  have D0 := (Below.refl w2.heap.size w2).drew
  have k0 := HCk.out _ D0
  have DA := D0.alloc D0.size (.cells #[.slice none 0 0] 24)
  have kA := HCk.out _ DA
  have BA : Blk (w2.drew.alloc (.cells #[.slice none 0 0] 24)) w2.heap.size 24 #[.slice none 0 0] := Blk.new w2.drew 24 #[.slice none 0 0]
  clear hV
  go_region_held3 (fun u => u.cell? ⟨gb, 0, none⟩ = some (.slice A5 n5 c5))
    (first | exact k5 | exact k4 | exact k3 | exact k2 | exact kA | exact k0)
    (first
      | (go_at_call 29; go_must (first
          | (refine (HFo.out _ Ai ni ci D2 ⟨Reads.of_own Oi, by omega⟩).mono ?_; rintro e w5 ⟨A7, n7, c7, G7, rfl, N7, E7, h5⟩; have D3 := D2.trans (h5.mono D2.size); have k3 := HCk.out _ D3; have D4 := D3.alloc D3.size (.cells #[.slice none 0 0] 24); have k4 := HCk.out _ D4; have hD5 := D3.alloc D3.size (.cells #[.slice A7 n7 c7] 24); have k5 := HCk.out _ hD5; have BX := Blk.new w5 24 #[.slice A7 n7 c7]; have hNN := N7.below ((Below.refl _ _).alloc (Nat.le_refl _) (.cells #[.slice A7 n7 c7] 24)); have HE7 := Lib.hid E7; obtain ⟨w6, hw6⟩ : ∃ w6, w5.alloc (.cells #[.slice A7 n7 c7] 24) = w6 := ⟨_, rfl⟩; obtain ⟨bx, hbx⟩ : ∃ bx, w5.heap.size = bx := ⟨_, rfl⟩; rw [hw6] at hD5 BX hNN; rw [hbx] at BX; have HNN : Hid (∃ B, NO w6 B A7 n7 c7 G7) := Lib.hid ⟨_, hNN⟩; have HBX := Lib.hid BX; have HD5 := Lib.hid hD5; have hq6 := Lib.hid hw6; have hqx := Lib.hid hbx; clear h5 hw6 hbx hNN BX hD5 N7 E7)
          | (refine (HFo.out _ Ai ni ci DA4 ⟨Reads.of_own (Oi.alloc _), by omega⟩).mono ?_; rintro e w5 ⟨A7, n7, c7, G7, rfl, N7, E7, h5⟩; have D3 := DA4.trans (h5.mono DA4.size); have k3 := HCk.out _ D3; have B5 := BA4.below h5 BA4.lt; have y0 := B5.cell 0; have y1 := B5.frozen 0; have HP := put1 (x := .slice A7 n7 c7) B5 D3 D2.size; have k5 := HCk.out _ HP.2; have BX := HP.1; have hD5 := HP.2; have hNN := N7.set BA4.lt 0 (.slice A7 n7 c7); have HE7 := Lib.hid E7; obtain ⟨w6, hw6⟩ : ∃ w6, w5.setCell ⟨w4.heap.size, 0, none⟩ (.slice A7 n7 c7) = w6 := ⟨_, rfl⟩; obtain ⟨bx, hbx⟩ : ∃ bx, w4.heap.size = bx := ⟨_, rfl⟩; rw [hw6] at hD5 BX hNN; rw [hbx] at BX; have HNN : Hid (∃ B, NO w6 B A7 n7 c7 G7) := Lib.hid ⟨_, hNN⟩; have HBX := Lib.hid BX; have HD5 := Lib.hid hD5; have hq6 := Lib.hid hw6; have hqx := Lib.hid hbx; clear h5 hw6 hbx hNN BX hD5 N7 E7)
          | (refine (HFo.out _ Ai ni ci D2c ⟨Reads.of_own Oi, by omega⟩).mono ?_; rintro e w5 ⟨A7, n7, c7, G7, rfl, N7, E7, h5⟩; have D3 := D2c.trans (h5.mono D2c.size); have k3 := HCk.out _ D3; have B5 := BAc.below h5 BAc.lt; have y0 := B5.cell 0; have y1 := B5.frozen 0; have HP := put1 (x := .slice A7 n7 c7) B5 D3 (Nat.le_refl _); have k5 := HCk.out _ HP.2; have BX := HP.1; have hD5 := HP.2; have hNN := N7.set BAc.lt 0 (.slice A7 n7 c7); have HE7 := Lib.hid E7; obtain ⟨w6, hw6⟩ : ∃ w6, w5.setCell ⟨w2.heap.size, 0, none⟩ (.slice A7 n7 c7) = w6 := ⟨_, rfl⟩; obtain ⟨bx, hbx⟩ : ∃ bx, w2.heap.size = bx := ⟨_, rfl⟩; rw [hw6] at hD5 BX hNN; rw [hbx] at BX; have HNN : Hid (∃ B, NO w6 B A7 n7 c7 G7) := Lib.hid ⟨_, hNN⟩; have HBX := Lib.hid BX; have HD5 := Lib.hid hD5; have hq6 := Lib.hid hw6; have hqx := Lib.hid hbx; clear h5 hw6 hbx hNN BX hD5 N7 E7)))
      | (go_at_call 30; go_must (first
          | (refine (HIn2.out w2.drew D0).mono ?_; rintro e w4 ⟨Ai, ni, ci, rfl, hi17, Oi, h9⟩; rw [HMS.out] at Oi; have D2 := D0.trans (h9.mono D0.size); have k2 := HCk.out _ D2; have DA4 := D2.alloc D2.size (.cells #[.slice none 0 0] 24); have k4 := HCk.out _ DA4; have BA4 := Blk.new w4 24 #[.slice none 0 0]; clear h9)
          | (refine (HIn2.out _ DA).mono ?_; rintro e w4 ⟨Ai, ni, ci, rfl, hi17, Oi, h9⟩; rw [HMS.out] at Oi; have D2c := DA.trans (h9.mono DA.size); have k2 := HCk.out _ D2c; have BAc := BA.below h9 BA.lt; clear h9))))
  all_goals (rw [hq6.out, hqx.out]; clear hq6 hqx)
  all_goals
    have E7 : gsM G7 = H := HE7.out
    have HBy := Lib.hid (HB2.out.trans (HD5.out.mono HB2.out.size))
    have HGy := Lib.hid (HG2.out.below HD5.out HG2.out.lt)
    have HNy := Lib.hid (HN2.out.below HD5.out)
    by_cases hE0 : E = 0
    · have hU : unfV l ms = 0 := by have := congrArg (·.1) HV.out; simp only at this; omega
      have hid : idv = (gapG l : Int) + 1 := by have := congrArg (·.2.1) HV.out; simp only [hU, if_pos] at this; exact this.symm
      have hH : H = formG l ms := by have := congrArg (·.2.2) HV.out; simp only [hU, if_pos] at this; exact this.symm
      rw [hH] at E7
      have hA7 := unf_all hU
      have hr7 : rightG (gsM G7) = true := by rw [E7]; exact all_right hA7
      obtain ⟨B7, N7⟩ := HNN.out
      have hnw7 := no_nw N7 hr7
      have hc7 : n7 ≤ c7 := N7.nc
      have HN7 := Lib.hid hnw7
      have hrl : rightG l = true := by
        cases hr : rightG l with
        | true => rfl
        | false => rw [unf_1 hr] at hU; cases hU
      have HRl := Lib.hid hrl
      have HPt := Lib.hid (part_any A7 n7 c7 G7 idv w6 hnw7 hc7)
      rw [E7, hid, form_am hU] at HPt
      have hpl : plV (isV ((gapG l : Int) + 1)) (formG l ms) = gapG l := by unfold plV; rw [form_am hU]; rfl
      rw [hpl] at HPt
      have HPt2 : Hid (Calls Try.prog 31 #[.agg #[.slice A7 n7 c7], .int .i64 idv] w6 (PartSaid 0 l w6)) := Lib.hid (by
        have := HPt.out
        rw [if_pos rfl, form_erase] at this
        rw [hid]
        exact this)
      have HMf : Hid (memV (formG l ms) idv = ms) := Lib.hid (by rw [hid]; exact form_members hU)
      have HOf : Hid (∀ n ∈ ms, ofV (formG l ms) n = (idv, true)) := Lib.hid (fun n hn => by rw [hid]; exact form_of hU hn)
      have HE7f := Lib.hid E7
      have HR7 := Lib.hid hr7
      have q1 : (E == 0) = true := by simpa using hE0
      have b6 := HBX.out.cell 0
      clear E7 hE0 hU hid hH hA7 hr7 N7 hnw7 hrl HPt hpl
      go_wp2_with fail
      refine HPt2.out.mono ?_
      rintro e w7 ⟨A8, n8, c8, G8, rfl, N8, E8, h7⟩
      have D8 := (Below.refl w7.heap.size w7).alloc (Nat.le_refl _) (.cells #[.slice A8 n8 c8] 24)
      have D78 := h7.trans (D8.mono h7.size)
      have HNW8 := Lib.hid ((no_nw N8 (by rw [E8]; exact HRl.out)).below D8)
      have HK8 := Lib.hid (Blk.new w7 24 #[.slice A8 n8 c8])
      have HD78 := Lib.hid D78
      have HSm := Lib.hid (gsame_any A8 n8 c8 G8 A5 n5 c5 G5 _ HNW8.out (HNy.out.below D78))
      rw [E8, HE5.out, decide_eq_true rfl] at HSm
      have y0 := HK8.out.cell 0
      have y1 := (HGy.out.below D78 HGy.out.lt).cell 0
      have y2 := (HBX.out.below D78 HBX.out.lt).cell 0
      clear b6 N8 E8 h7 D8 D78
      go_wp2_with fail
      refine HSm.out.mono ?_
      rintro e w9 ⟨rfl, h9⟩
      have HD9 := Lib.hid (HD78.out.trans (h9.mono HD78.out.size))
      have z2 := (HBX.out.below HD9.out HBX.out.lt).cell 0
      have HMe := Lib.hid (members2_any A7 n7 c7 G7 idv w9 (HN7.out.below HD9.out) hc7)
      rw [HE7f.out, HMf.out] at HMe
      clear y0 y1 y2 h9
      go_wp2_with fail
      refine HMe.out.mono ?_
      rintro e w10 ⟨Am, nm, cm, rfl, Om, h10⟩
      have HD10 := Lib.hid (HD9.out.trans (h10.mono HD9.out.size))
      have HIn3 := Lib.hid (HIn2.out w10 (HD5.out.trans (HD10.out.mono HD5.out.size)))
      have HOm := Lib.hid Om
      clear Om h10 z2
      go_wp2_with fail
      refine HIn3.out.mono ?_
      rintro e w11 ⟨Aj, nj, cj, rfl, hj17, Oj, h11⟩
      rw [HMS.out] at Oj
      have HD11 := Lib.hid (HD10.out.trans (h11.mono HD10.out.size))
      have hnm : nm ≤ 17 := by
        have h1 := HOm.out.1
        have h2 := Oj.1
        rw [length_vs] at h1 h2
        omega
      have HEq := Lib.hid (equal_any Am nm cm ms Aj nj cj ms w11 ⟨Reads.of_own (own_below HOm.out h11), by omega⟩ ⟨Reads.of_own Oj, by omega⟩)
      rw [decide_eq_true rfl] at HEq
      clear Oj h11
      go_wp2_with fail
      refine HEq.out.mono ?_
      rintro e w12 ⟨rfl, h12⟩
      have HD12 := Lib.hid (HD11.out.trans (h12.mono HD11.out.size))
      have HCh := Lib.hid (gcheck_any A7 n7 c7 G7 w12 (HN7.out.below HD12.out) hc7)
      rw [show chkG (gsM G7) = 0 from if_pos HR7.out] at HCh
      have y2 := (HBX.out.below HD12.out HBX.out.lt).cell 0
      clear h12
      go_wp2_with fail
      refine HCh.out.mono ?_
      rintro e w13 ⟨rfl, h13⟩
      have HD13 := Lib.hid (HD12.out.trans (h13.mono HD12.out.size))
      have HIn4 := Lib.hid (HIn2.out w13 (HD5.out.trans (HD13.out.mono HD5.out.size)))
      clear y2 h13
      go_wp2_with fail
      refine HIn4.out.mono ?_
      rintro e w14 ⟨Aq, nq, cq, rfl, hq17, Oq, h14⟩
      rw [HMS.out] at Oq
      have HD14 := Lib.hid (HD13.out.trans (h14.mono HD13.out.size))
      have HIq : Hid (IR w14 Aq nq ms) := Lib.hid ⟨Reads.of_own Oq, by omega⟩
      have HBX14 := Lib.hid (HBX.out.below HD14.out HBX.out.lt)
      have HN714 := Lib.hid (HN7.out.below HD14.out)
      clear Oq h14
      go_wp2_with fail
      go_loopw [74] (fun iv wr => ∃ i : Nat, i ≤ nq ∧ iv = .int .i64 (i : Int) ∧ Below w14.heap.size w14 wr) (fun iv _ => nq - (intOf iv).toNat)
      case atStart => exact ⟨0, by omega, rfl, Below.refl _ _⟩
      case round =>
        obtain ⟨i, hi, rfl, hB⟩ := hrel
        by_cases hli : i < nq
        · obtain ⟨x, hx⟩ := elem_at (l := ms) (k := i) (by rw [HIq.out.len]; exact hli)
          obtain ⟨ad9, rfl, _, f0⟩ := (HIq.out.below hB).at_ hx
          have HO := Lib.hid (of_any2 A7 n7 c7 G7 x wr (HN714.out.below hB) hc7)
          rw [HE7f.out, HOf.out x (List.mem_of_getElem? hx)] at HO
          have b0 := (HBX14.out.below hB HBX14.out.lt).cell 0
          have i1 : (0 : Int) ≤ (i : Int) := by omega
          have i2 : (i : Int) < (nq : Int) := by omega
          have HBr := Lib.hid hB
          clear hx hB
          go_wp2_with fail
          refine HO.out.mono ?_
          rintro e wa ⟨rfl, ha⟩
          clear f0 b0
          go_wp2_with fail
          go_roundw
          case rel => exact ⟨i + 1, by omega, by go_num, HBr.out.trans (ha.mono HBr.out.size)⟩
          case measure => simp [intOf]; omega
        · obtain rfl : i = nq := by omega
          have DZ := HD14.out.trans (hB.mono HD14.out.size)
          obtain ⟨wz, hwz⟩ : ∃ X, wr = X := ⟨_, rfl⟩
          have HBz := Lib.hid (HBy.out.trans (DZ.mono HBy.out.size))
          have HGz := Lib.hid (HGy.out.below DZ HGy.out.lt)
          have HNz := Lib.hid (HNy.out.below DZ)
          rw [hwz] at HBz HGz HNz ⊢
          clear hwz DZ hB
          have HBz0 := HBz
          have g0 := HGz.out.cell 0
          have HLv := Lib.hid (leave_any A5 n5 c5 G5 v wz HNz.out hc5)
          rw [HE5.out] at HLv
          rcases am_fnd (hasV v) l with ⟨e2, hx2, hne2, hno2, heq2⟩ | ⟨k, gk, hx2, hk2, hf2, hp2, hr2, hi2⟩
          · rw [hx2] at HLv
            have HNE := Lib.hid hne2
            have q2 : (e2 == 0) = false := by simpa using hne2
            clear hx2 hne2 hno2 heq2
            go_wp2_with fail
            refine HLv.out.mono ?_
            rintro e wq ⟨A9, n9, c9, G9, rfl, N9, E9, h9⟩
            have h90 : n9 = 0 := by
              have h1 := N9.len
              have h2 := congrArg List.length E9
              rw [gsM_len, h1, if_neg HNE.out] at h2
              exact h2
            subst h90
            have HBq := Lib.hid ((HBz0.out.trans (h9.mono HBz0.out.size)).alloc (HBz0.out.trans (h9.mono HBz0.out.size)).size (.cells #[.slice A9 0 c9] 24))
            have z0 := (Blk.new wq 24 #[.slice A9 0 c9]).cell 0
            clear N9 E9 h9 g0
            go_wp2_with fail
            go_ret
            exact ⟨rfl, HBq.out⟩
          · have hA2 := right_all hr2
            have hv2 := hasV_mem hp2
            have HLE : Hid (leaveL v l = leftG l k gk.1 v gk.2) := Lib.hid (leaveL_at hx2 rfl hk2)
            have hAL := all_left hA2 hk2 v
            have HAL := Lib.hid hAL
            have HLO := Lib.hid (fun n => left_of hA2 hk2 hv2 n)
            have HOv : Hid (ofV l v = (gk.1, true)) := Lib.hid (of_some (find_has hA2 (List.mem_of_getElem? hk2) hv2))
            have HMo : Hid (memV l gk.1 = gk.2) := Lib.hid (by unfold memV; rw [find_is hA2 (List.mem_of_getElem? hk2)])
            have HV2 := Lib.hid hv2
            have HMB := Lib.hid (right_members hr2 hk2)
            rw [hx2] at HLv
            clear hx2 hk2 hf2 hp2 hr2 hi2 hA2 hv2 hAL
            go_wp2_with fail
            refine HLv.out.mono ?_
            rintro e wq ⟨A9, n9, c9, G9, rfl, N9, E9, h9⟩
            have E9 : gsM G9 = leaveL v l := E9
            rw [HLE.out] at E9
            have hnw9 := no_nw N9 (by rw [E9]; exact all_right HAL.out)
            have hnc9 : n9 ≤ c9 := N9.nc
            have DQ := h9.alloc h9.size (.cells #[.slice A9 n9 c9] 24)
            have HGq := Lib.hid (HGz.out.below DQ HGz.out.lt)
            have hlq := Blk.new wq 24 #[.slice A9 n9 c9]
            have HLq := Lib.hid hlq
            have HBq := Lib.hid (HBz0.out.trans (DQ.mono HBz0.out.size))
            have HN5q := Lib.hid (HNz.out.below DQ)
            have HN9q := Lib.hid (hnw9.below ((Below.refl _ _).alloc (Nat.le_refl _) (.cells #[.slice A9 n9 c9] 24)))
            have HE9 := Lib.hid E9
            have gq := HGq.out.cell 0
            clear N9 E9 h9 g0 hnw9 DQ hlq
            go_upto_region 19 with fail
            obtain ⟨lq, hlqq⟩ : ∃ X, wq.heap.size = X := ⟨_, rfl⟩
            obtain ⟨wr1, hwr1⟩ : ∃ X, wq.alloc (.cells #[.slice A9 n9 c9] 24) = X := ⟨_, rfl⟩
            rw [hwr1] at HGq HLq HBq HN5q HN9q gq ⊢
            rw [hlqq] at HLq ⊢
            clear hwr1 hlqq
            have HO0 := Lib.hid (of_any2 A5 n5 c5 G5 v wr1 HN5q.out hc5)
            rw [HE5.out, HOv.out] at HO0
            go_wp2_with fail
            refine HO0.out.mono ?_
            rintro e wa ⟨rfl, ha⟩
            have HMe := Lib.hid (members2_any A5 n5 c5 G5 gk.1 wa (HN5q.out.below ha) hc5)
            rw [HE5.out, HMo.out] at HMe
            have ga := (HGq.out.below ha HGq.out.lt).cell 0
            have HDa := Lib.hid ha
            clear gq ha
            go_wp2_with fail
            refine HMe.out.mono ?_
            rintro e wb ⟨Am, nm, cm, rfl, Om, hb⟩
            have HDb := Lib.hid (HDa.out.trans (hb.mono HDa.out.size))
            have HOm := Lib.hid Om
            have HLm : Hid (gk.2.length = nm) := Lib.hid (by have := Om.1; rw [length_vs] at this; omega)
            have HO3 := Lib.hid (of_any2 A9 n9 c9 G9 v wb (HN9q.out.below HDb.out) hnc9)
            rw [HE9.out, (HLO.out v).1 rfl] at HO3
            have lb := (HLq.out.below HDb.out HLq.out.lt).cell 0
            clear Om hb ga
            go_wp2_with fail
            refine HO3.out.mono ?_
            rintro e wd ⟨rfl, hd⟩
            have HDd := Lib.hid (HDb.out.trans (hd.mono HDb.out.size))
            have HCk := Lib.hid (gcheck_any A9 n9 c9 G9 wd (HN9q.out.below HDd.out) hnc9)
            rw [show chkG (gsM G9) = 0 from by rw [HE9.out]; exact if_pos (all_right HAL.out)] at HCk
            have ld := (HLq.out.below HDd.out HLq.out.lt).cell 0
            have HOm2 := Lib.hid (own_below HOm.out hd)
            clear hd lb
            go_wp2_with fail
            refine HCk.out.mono ?_
            rintro e we ⟨rfl, he⟩
            have HDe := Lib.hid (HDd.out.trans (he.mono HDd.out.size))
            have HOm3 := Lib.hid (own_below HOm2.out he)
            have HGe := Lib.hid (HGq.out.below HDe.out HGq.out.lt)
            have HLe := Lib.hid (HLq.out.below HDe.out HLq.out.lt)
            have HBe := Lib.hid (HBq.out.trans (HDe.out.mono HBq.out.size))
            have HN5e := Lib.hid (HN5q.out.below HDe.out)
            have HN9e := Lib.hid (HN9q.out.below HDe.out)
            have hn100 : nm ≤ 100 := by
              have := (members_len (is := gk.2) HMB.out).2
              have := HLm.out
              omega
            have HIe : Hid (IR we Am nm gk.2) := Lib.hid ⟨Reads.of_own HOm3.out, by omega⟩
            clear he ld
            go_wp2_with fail
            go_loopw [23] (fun nv wr => ∃ j : Nat, 1 ≤ j ∧ j ≤ 17 ∧ nv = .int .i64 (j : Int) ∧ Below we.heap.size we wr) (fun nv _ => 17 - (intOf nv).toNat)
            case atStart => exact ⟨1, by omega, by omega, rfl, Below.refl _ _⟩
            case round =>
              obtain ⟨j, hj1, hj, rfl, hB⟩ := hrel
              have HBr := Lib.hid (HBe.out.trans (hB.mono HBe.out.size))
              by_cases hlj : j ≤ 16
              · have qj : decide ((j : Int) ≤ 16) = true := decide_eq_true (by omega)
                have HGr := Lib.hid (HGe.out.below hB HGe.out.lt)
                have HLr := Lib.hid (HLe.out.below hB HLe.out.lt)
                have g1 := HGr.out.cell 0
                have l1 := HLr.out.cell 0
                have HO1 := Lib.hid (of_any2 A5 n5 c5 G5 (j : Int) wr (HN5e.out.below hB) hc5)
                rw [HE5.out] at HO1
                have HO2 := Lib.hid (fun (u : World) (hu : Below wr.heap.size wr u) => of_any2 A9 n9 c9 G9 (j : Int) u ((HN9e.out.below hB).below hu) hnc9)
                rw [HE9.out] at HO2
                have HCo := Lib.hid (fun (u : World) (hu : Below wr.heap.size wr u) => contains_any Am nm cm gk.2 (j : Int) u ((HIe.out.below hB).below hu))
                have hL := HLO.out (j : Int)
                obtain ⟨⟨a, b⟩, hab0⟩ : ∃ x, ofV l (j : Int) = x := ⟨_, rfl⟩
                rw [hab0] at HO1 hL
                obtain ⟨⟨a2, b2⟩, hab2⟩ : ∃ x, ofV (leftG l k gk.1 v gk.2) (j : Int) = x := ⟨_, rfl⟩
                rw [hab2] at HO2 hL
                have HL := Lib.hid hL
                clear hab0 hab2 hL
                by_cases hin : (j : Int) ∈ gk.2
                · rw [decide_eq_true hin] at HCo
                  by_cases hl2 : nm = 2
                  · have h0 := HL.out.2.1 ⟨hin, by rw [HLm.out]; exact hl2⟩
                    injection h0 with h1 h2
                    subst h1 h2
                    have ql : ((nm : Int) == 2) = true := by simp; omega
                    clear hl2 hin
                    go_wp2_with fail
                    refine HO1.out.mono ?_
                    rintro e wa ⟨rfl, ha⟩
                    have ga1 := (HGr.out.below ha HGr.out.lt).cell 0
                    have la1 := (HLr.out.below ha HLr.out.lt).cell 0
                    clear g1 l1
                    go_wp2_with fail
                    refine (HO2.out wa ha).mono ?_
                    rintro e wb ⟨rfl, hb⟩
                    have hab := ha.trans (hb.mono ha.size)
                    clear ga1 la1
                    go_wp2_with fail
                    refine (HCo.out wb hab).mono ?_
                    rintro e wc ⟨rfl, hc9⟩
                    have HBc := Lib.hid (hB.trans ((hab.trans (hc9.mono hab.size)).mono hB.size))
                    clear ha hb hab hc9 hB
                    go_wp2_with fail
                    all_goals first
                      | exact absurd HJ.out (by assumption)
                      | (go_roundw
                         case rel => exact ⟨j + 1, by omega, by omega, by go_num, HBc.out⟩
                         case measure => simp [intOf]; omega)
                  · have ql : ((nm : Int) == 2) = false := by simp; omega
                    by_cases hjv : (j : Int) = v
                    · have h0 := HL.out.1 hjv
                      injection h0 with h1 h2
                      subst h1 h2
                      have HJ := Lib.hid hjv
                      clear hl2 hin hjv
                      go_wp2_with fail
                      refine HO1.out.mono ?_
                      rintro e wa ⟨rfl, ha⟩
                      have ga1 := (HGr.out.below ha HGr.out.lt).cell 0
                      have la1 := (HLr.out.below ha HLr.out.lt).cell 0
                      clear g1 l1
                      go_wp2_with fail
                      refine (HO2.out wa ha).mono ?_
                      rintro e wb ⟨rfl, hb⟩
                      have hab := ha.trans (hb.mono ha.size)
                      clear ga1 la1
                      go_wp2_with fail
                      refine (HCo.out wb hab).mono ?_
                      rintro e wc ⟨rfl, hc9⟩
                      have HBc := Lib.hid (hB.trans ((hab.trans (hc9.mono hab.size)).mono hB.size))
                      clear ha hb hab hc9 hB
                      go_wp2_with fail
                      all_goals first
                        | exact absurd HJ.out (by assumption)
                        | (go_roundw
                           case rel => exact ⟨j + 1, by omega, by omega, by go_num, HBc.out⟩
                           case measure => simp [intOf]; omega)
                    · have h0 := HL.out.2.2 hjv (fun h => hl2 (by rw [← HLm.out]; exact h.2))
                      injection h0 with h1 h2
                      subst h1 h2
                      clear hl2 hin
                      go_wp2_with fail
                      refine HO1.out.mono ?_
                      rintro e wa ⟨rfl, ha⟩
                      have ga1 := (HGr.out.below ha HGr.out.lt).cell 0
                      have la1 := (HLr.out.below ha HLr.out.lt).cell 0
                      clear g1 l1
                      go_wp2_with fail
                      refine (HO2.out wa ha).mono ?_
                      rintro e wb ⟨rfl, hb⟩
                      have hab := ha.trans (hb.mono ha.size)
                      clear ga1 la1
                      go_wp2_with fail
                      refine (HCo.out wb hab).mono ?_
                      rintro e wc ⟨rfl, hc9⟩
                      have HBc := Lib.hid (hB.trans ((hab.trans (hc9.mono hab.size)).mono hB.size))
                      clear ha hb hab hc9 hB
                      go_wp2_with fail
                      all_goals first
                        | exact absurd HJ.out (by assumption)
                        | (go_roundw
                           case rel => exact ⟨j + 1, by omega, by omega, by go_num, HBc.out⟩
                           case measure => simp [intOf]; omega)
                · rw [decide_eq_false hin] at HCo
                  have hjv : (j : Int) ≠ v := fun e => hin (by rw [e]; exact HV2.out)
                  have h0 := HL.out.2.2 hjv (fun h => hin h.1)
                  injection h0 with h1 h2
                  subst h1 h2
                  clear hin
                  go_wp2_with fail
                  refine HO1.out.mono ?_
                  rintro e wa ⟨rfl, ha⟩
                  have ga1 := (HGr.out.below ha HGr.out.lt).cell 0
                  have la1 := (HLr.out.below ha HLr.out.lt).cell 0
                  clear g1 l1
                  go_wp2_with fail
                  refine (HO2.out wa ha).mono ?_
                  rintro e wb ⟨rfl, hb⟩
                  have hab := ha.trans (hb.mono ha.size)
                  clear ga1 la1
                  go_wp2_with fail
                  refine (HCo.out wb hab).mono ?_
                  rintro e wc ⟨rfl, hc9⟩
                  have HBc := Lib.hid (hB.trans ((hab.trans (hc9.mono hab.size)).mono hB.size))
                  clear ha hb hab hc9 hB
                  go_wp2_with fail
                  all_goals first
                    | exact absurd HJ.out (by assumption)
                    | (go_roundw
                       case rel => exact ⟨j + 1, by omega, by omega, by go_num, HBc.out⟩
                       case measure => simp [intOf]; omega)
              · have qj : decide ((j : Int) ≤ 16) = false := decide_eq_false (by omega)
                go_wp2_with fail
                go_ret
                exact ⟨rfl, HBr.out⟩
    · have q1 : (E == 0) = false := by simpa using hE0
      obtain ⟨wz, hwz⟩ : ∃ X, w6 = X := ⟨_, rfl⟩
      have HBz := Lib.hid HBy.out
      have HGz := Lib.hid HGy.out
      have HNz := Lib.hid HNy.out
      rw [hwz] at HBz HGz HNz ⊢
      clear hwz hE0 E7
      have HBz0 := HBz
      have g0 := HGz.out.cell 0
      have HLv := Lib.hid (leave_any A5 n5 c5 G5 v wz HNz.out hc5)
      rw [HE5.out] at HLv
      rcases am_fnd (hasV v) l with ⟨e2, hx2, hne2, hno2, heq2⟩ | ⟨k, gk, hx2, hk2, hf2, hp2, hr2, hi2⟩
      · rw [hx2] at HLv
        have HNE := Lib.hid hne2
        have q2 : (e2 == 0) = false := by simpa using hne2
        clear hx2 hne2 hno2 heq2
        go_wp2_with fail
        refine HLv.out.mono ?_
        rintro e wq ⟨A9, n9, c9, G9, rfl, N9, E9, h9⟩
        have h90 : n9 = 0 := by
          have h1 := N9.len
          have h2 := congrArg List.length E9
          rw [gsM_len, h1, if_neg HNE.out] at h2
          exact h2
        subst h90
        have HBq := Lib.hid ((HBz0.out.trans (h9.mono HBz0.out.size)).alloc (HBz0.out.trans (h9.mono HBz0.out.size)).size (.cells #[.slice A9 0 c9] 24))
        have z0 := (Blk.new wq 24 #[.slice A9 0 c9]).cell 0
        clear N9 E9 h9 g0
        go_wp2_with fail
        go_ret
        exact ⟨rfl, HBq.out⟩
      · have hA2 := right_all hr2
        have hv2 := hasV_mem hp2
        have HLE : Hid (leaveL v l = leftG l k gk.1 v gk.2) := Lib.hid (leaveL_at hx2 rfl hk2)
        have hAL := all_left hA2 hk2 v
        have HAL := Lib.hid hAL
        have HLO := Lib.hid (fun n => left_of hA2 hk2 hv2 n)
        have HOv : Hid (ofV l v = (gk.1, true)) := Lib.hid (of_some (find_has hA2 (List.mem_of_getElem? hk2) hv2))
        have HMo : Hid (memV l gk.1 = gk.2) := Lib.hid (by unfold memV; rw [find_is hA2 (List.mem_of_getElem? hk2)])
        have HV2 := Lib.hid hv2
        have HMB := Lib.hid (right_members hr2 hk2)
        rw [hx2] at HLv
        clear hx2 hk2 hf2 hp2 hr2 hi2 hA2 hv2 hAL
        go_wp2_with fail
        refine HLv.out.mono ?_
        rintro e wq ⟨A9, n9, c9, G9, rfl, N9, E9, h9⟩
        have E9 : gsM G9 = leaveL v l := E9
        rw [HLE.out] at E9
        have hnw9 := no_nw N9 (by rw [E9]; exact all_right HAL.out)
        have hnc9 : n9 ≤ c9 := N9.nc
        have DQ := h9.alloc h9.size (.cells #[.slice A9 n9 c9] 24)
        have HGq := Lib.hid (HGz.out.below DQ HGz.out.lt)
        have hlq := Blk.new wq 24 #[.slice A9 n9 c9]
        have HLq := Lib.hid hlq
        have HBq := Lib.hid (HBz0.out.trans (DQ.mono HBz0.out.size))
        have HN5q := Lib.hid (HNz.out.below DQ)
        have HN9q := Lib.hid (hnw9.below ((Below.refl _ _).alloc (Nat.le_refl _) (.cells #[.slice A9 n9 c9] 24)))
        have HE9 := Lib.hid E9
        have gq := HGq.out.cell 0
        clear N9 E9 h9 g0 hnw9 DQ hlq
        go_upto_region 19 with fail
        obtain ⟨lq, hlqq⟩ : ∃ X, wq.heap.size = X := ⟨_, rfl⟩
        obtain ⟨wr1, hwr1⟩ : ∃ X, wq.alloc (.cells #[.slice A9 n9 c9] 24) = X := ⟨_, rfl⟩
        rw [hwr1] at HGq HLq HBq HN5q HN9q gq ⊢
        rw [hlqq] at HLq ⊢
        clear hwr1 hlqq
        have HO0 := Lib.hid (of_any2 A5 n5 c5 G5 v wr1 HN5q.out hc5)
        rw [HE5.out, HOv.out] at HO0
        go_wp2_with fail
        refine HO0.out.mono ?_
        rintro e wa ⟨rfl, ha⟩
        have HMe := Lib.hid (members2_any A5 n5 c5 G5 gk.1 wa (HN5q.out.below ha) hc5)
        rw [HE5.out, HMo.out] at HMe
        have ga := (HGq.out.below ha HGq.out.lt).cell 0
        have HDa := Lib.hid ha
        clear gq ha
        go_wp2_with fail
        refine HMe.out.mono ?_
        rintro e wb ⟨Am, nm, cm, rfl, Om, hb⟩
        have HDb := Lib.hid (HDa.out.trans (hb.mono HDa.out.size))
        have HOm := Lib.hid Om
        have HLm : Hid (gk.2.length = nm) := Lib.hid (by have := Om.1; rw [length_vs] at this; omega)
        have HO3 := Lib.hid (of_any2 A9 n9 c9 G9 v wb (HN9q.out.below HDb.out) hnc9)
        rw [HE9.out, (HLO.out v).1 rfl] at HO3
        have lb := (HLq.out.below HDb.out HLq.out.lt).cell 0
        clear Om hb ga
        go_wp2_with fail
        refine HO3.out.mono ?_
        rintro e wd ⟨rfl, hd⟩
        have HDd := Lib.hid (HDb.out.trans (hd.mono HDb.out.size))
        have HCk := Lib.hid (gcheck_any A9 n9 c9 G9 wd (HN9q.out.below HDd.out) hnc9)
        rw [show chkG (gsM G9) = 0 from by rw [HE9.out]; exact if_pos (all_right HAL.out)] at HCk
        have ld := (HLq.out.below HDd.out HLq.out.lt).cell 0
        have HOm2 := Lib.hid (own_below HOm.out hd)
        clear hd lb
        go_wp2_with fail
        refine HCk.out.mono ?_
        rintro e we ⟨rfl, he⟩
        have HDe := Lib.hid (HDd.out.trans (he.mono HDd.out.size))
        have HOm3 := Lib.hid (own_below HOm2.out he)
        have HGe := Lib.hid (HGq.out.below HDe.out HGq.out.lt)
        have HLe := Lib.hid (HLq.out.below HDe.out HLq.out.lt)
        have HBe := Lib.hid (HBq.out.trans (HDe.out.mono HBq.out.size))
        have HN5e := Lib.hid (HN5q.out.below HDe.out)
        have HN9e := Lib.hid (HN9q.out.below HDe.out)
        have hn100 : nm ≤ 100 := by
          have := (members_len (is := gk.2) HMB.out).2
          have := HLm.out
          omega
        have HIe : Hid (IR we Am nm gk.2) := Lib.hid ⟨Reads.of_own HOm3.out, by omega⟩
        clear he ld
        go_wp2_with fail
        go_loopw [23] (fun nv wr => ∃ j : Nat, 1 ≤ j ∧ j ≤ 17 ∧ nv = .int .i64 (j : Int) ∧ Below we.heap.size we wr) (fun nv _ => 17 - (intOf nv).toNat)
        case atStart => exact ⟨1, by omega, by omega, rfl, Below.refl _ _⟩
        case round =>
          obtain ⟨j, hj1, hj, rfl, hB⟩ := hrel
          have HBr := Lib.hid (HBe.out.trans (hB.mono HBe.out.size))
          by_cases hlj : j ≤ 16
          · have qj : decide ((j : Int) ≤ 16) = true := decide_eq_true (by omega)
            have HGr := Lib.hid (HGe.out.below hB HGe.out.lt)
            have HLr := Lib.hid (HLe.out.below hB HLe.out.lt)
            have g1 := HGr.out.cell 0
            have l1 := HLr.out.cell 0
            have HO1 := Lib.hid (of_any2 A5 n5 c5 G5 (j : Int) wr (HN5e.out.below hB) hc5)
            rw [HE5.out] at HO1
            have HO2 := Lib.hid (fun (u : World) (hu : Below wr.heap.size wr u) => of_any2 A9 n9 c9 G9 (j : Int) u ((HN9e.out.below hB).below hu) hnc9)
            rw [HE9.out] at HO2
            have HCo := Lib.hid (fun (u : World) (hu : Below wr.heap.size wr u) => contains_any Am nm cm gk.2 (j : Int) u ((HIe.out.below hB).below hu))
            have hL := HLO.out (j : Int)
            obtain ⟨⟨a, b⟩, hab0⟩ : ∃ x, ofV l (j : Int) = x := ⟨_, rfl⟩
            rw [hab0] at HO1 hL
            obtain ⟨⟨a2, b2⟩, hab2⟩ : ∃ x, ofV (leftG l k gk.1 v gk.2) (j : Int) = x := ⟨_, rfl⟩
            rw [hab2] at HO2 hL
            have HL := Lib.hid hL
            clear hab0 hab2 hL
            by_cases hin : (j : Int) ∈ gk.2
            · rw [decide_eq_true hin] at HCo
              by_cases hl2 : nm = 2
              · have h0 := HL.out.2.1 ⟨hin, by rw [HLm.out]; exact hl2⟩
                injection h0 with h1 h2
                subst h1 h2
                have ql : ((nm : Int) == 2) = true := by simp; omega
                clear hl2 hin
                go_wp2_with fail
                refine HO1.out.mono ?_
                rintro e wa ⟨rfl, ha⟩
                have ga1 := (HGr.out.below ha HGr.out.lt).cell 0
                have la1 := (HLr.out.below ha HLr.out.lt).cell 0
                clear g1 l1
                go_wp2_with fail
                refine (HO2.out wa ha).mono ?_
                rintro e wb ⟨rfl, hb⟩
                have hab := ha.trans (hb.mono ha.size)
                clear ga1 la1
                go_wp2_with fail
                refine (HCo.out wb hab).mono ?_
                rintro e wc ⟨rfl, hc9⟩
                have HBc := Lib.hid (hB.trans ((hab.trans (hc9.mono hab.size)).mono hB.size))
                clear ha hb hab hc9 hB
                go_wp2_with fail
                all_goals first
                  | exact absurd HJ.out (by assumption)
                  | (go_roundw
                     case rel => exact ⟨j + 1, by omega, by omega, by go_num, HBc.out⟩
                     case measure => simp [intOf]; omega)
              · have ql : ((nm : Int) == 2) = false := by simp; omega
                by_cases hjv : (j : Int) = v
                · have h0 := HL.out.1 hjv
                  injection h0 with h1 h2
                  subst h1 h2
                  have HJ := Lib.hid hjv
                  clear hl2 hin hjv
                  go_wp2_with fail
                  refine HO1.out.mono ?_
                  rintro e wa ⟨rfl, ha⟩
                  have ga1 := (HGr.out.below ha HGr.out.lt).cell 0
                  have la1 := (HLr.out.below ha HLr.out.lt).cell 0
                  clear g1 l1
                  go_wp2_with fail
                  refine (HO2.out wa ha).mono ?_
                  rintro e wb ⟨rfl, hb⟩
                  have hab := ha.trans (hb.mono ha.size)
                  clear ga1 la1
                  go_wp2_with fail
                  refine (HCo.out wb hab).mono ?_
                  rintro e wc ⟨rfl, hc9⟩
                  have HBc := Lib.hid (hB.trans ((hab.trans (hc9.mono hab.size)).mono hB.size))
                  clear ha hb hab hc9 hB
                  go_wp2_with fail
                  all_goals first
                    | exact absurd HJ.out (by assumption)
                    | (go_roundw
                       case rel => exact ⟨j + 1, by omega, by omega, by go_num, HBc.out⟩
                       case measure => simp [intOf]; omega)
                · have h0 := HL.out.2.2 hjv (fun h => hl2 (by rw [← HLm.out]; exact h.2))
                  injection h0 with h1 h2
                  subst h1 h2
                  clear hl2 hin
                  go_wp2_with fail
                  refine HO1.out.mono ?_
                  rintro e wa ⟨rfl, ha⟩
                  have ga1 := (HGr.out.below ha HGr.out.lt).cell 0
                  have la1 := (HLr.out.below ha HLr.out.lt).cell 0
                  clear g1 l1
                  go_wp2_with fail
                  refine (HO2.out wa ha).mono ?_
                  rintro e wb ⟨rfl, hb⟩
                  have hab := ha.trans (hb.mono ha.size)
                  clear ga1 la1
                  go_wp2_with fail
                  refine (HCo.out wb hab).mono ?_
                  rintro e wc ⟨rfl, hc9⟩
                  have HBc := Lib.hid (hB.trans ((hab.trans (hc9.mono hab.size)).mono hB.size))
                  clear ha hb hab hc9 hB
                  go_wp2_with fail
                  all_goals first
                    | exact absurd HJ.out (by assumption)
                    | (go_roundw
                       case rel => exact ⟨j + 1, by omega, by omega, by go_num, HBc.out⟩
                       case measure => simp [intOf]; omega)
            · rw [decide_eq_false hin] at HCo
              have hjv : (j : Int) ≠ v := fun e => hin (by rw [e]; exact HV2.out)
              have h0 := HL.out.2.2 hjv (fun h => hin h.1)
              injection h0 with h1 h2
              subst h1 h2
              clear hin
              go_wp2_with fail
              refine HO1.out.mono ?_
              rintro e wa ⟨rfl, ha⟩
              have ga1 := (HGr.out.below ha HGr.out.lt).cell 0
              have la1 := (HLr.out.below ha HLr.out.lt).cell 0
              clear g1 l1
              go_wp2_with fail
              refine (HO2.out wa ha).mono ?_
              rintro e wb ⟨rfl, hb⟩
              have hab := ha.trans (hb.mono ha.size)
              clear ga1 la1
              go_wp2_with fail
              refine (HCo.out wb hab).mono ?_
              rintro e wc ⟨rfl, hc9⟩
              have HBc := Lib.hid (hB.trans ((hab.trans (hc9.mono hab.size)).mono hB.size))
              clear ha hb hab hc9 hB
              go_wp2_with fail
              all_goals first
                | exact absurd HJ.out (by assumption)
                | (go_roundw
                   case rel => exact ⟨j + 1, by omega, by omega, by go_num, HBc.out⟩
                   case measure => simp [intOf]; omega)
          · have qj : decide ((j : Int) ≤ 16) = false := decide_eq_false (by omega)
            go_wp2_with fail
            go_ret
            exact ⟨rfl, HBr.out⟩

end Go.Proofs.Ytpfkpeofohkdfaa
