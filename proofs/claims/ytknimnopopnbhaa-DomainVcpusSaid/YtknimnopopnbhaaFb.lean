/-
  DomainVcpus' walk. No statement is proved here.
-/
import Derived.Test.YtknimnopopnbhaaFc
import Derived.Deep.DeepCutAuto
namespace Go.Proofs.Ytknimnopopnbhaa
open Go.RowKit

set_option maxRecDepth 100000 in
set_option maxHeartbeats 16000000 in
theorem vcpus_walk (A : Option Addr) (n c : Nat) (ds : List Dom) (B : Option Addr) (m d : Nat) (us : List Vc) (v1 v2 : Int) (v3 v4 : Nat) (w : World) (hd : Reads w w.heap.size 4 A n (flat dv ds)) (hv : Reads w w.heap.size 4 B m (flat cv us)) (hnc : n ≤ c) (hmd : m ≤ d) (hU : UV us) (h3 : v3 < 4294967296) (h4 : v4 < 4294967296) :
    Calls Try.prog 4 #[.agg #[.slice A n c, .slice B m d], .agg #[.int .i64 v1, .int .i64 v2, .int .u32 (v3 : Int), .int .u32 (v4 : Int)]] w (Said (.bool true) w) := by
  have HWk := Lib.hid (fun (u : World) => wakes_any u)
  have HOv := Lib.hid (fun (u : World) => over_any A n c B m d u)
  obtain ⟨K0, K1, GB⟩ := blks2 w 25 50 #[.slice A n c, .slice B m d] #[.int .i64 v1, .int .i64 v2, .int .u32 (v3 : Int), .int .u32 (v4 : Int)]
  by_cases ho : (decide (100 < n) || decide (100 < m)) = true
  · rw [ho] at HOv
    clear ho hd hv hnc hmd hU h3 h4
    go_enter Try.func4, Try.ntmps4
    go_wp2_with fail
    refine (HWk.out _).mono ?_
    rintro e w1 ⟨rfl, h9⟩
    replace K0 := K0.below h9 K0.lt
    replace K1 := K1.below h9 K1.lt
    replace GB := GB.trans (h9.mono GB.size)
    clear h9
    have zK00 := K0.cell 0
    have zK01 := K0.cell 1
    go_wp2_with fail
    refine (HOv.out _).mono ?_
    rintro e w2 ⟨rfl, h9⟩
    replace K0 := K0.below h9 K0.lt
    replace K1 := K1.below h9 K1.lt
    replace GB := GB.trans (h9.mono GB.size)
    clear h9
    clear zK00 zK01
    go_wp2
    go_ret
    exact ⟨rfl, GB⟩
  · have ho2 : (decide (100 < n) || decide (100 < m)) = false := by simpa using ho
    rw [ho2] at HOv
    have hn : n ≤ 100 ∧ m ≤ 100 := by simp at ho; omega
    have hGR : GR w A n c ds B m d us := ⟨hd, hv, hnc, hmd, by omega, by omega, hU⟩
    have HG := Lib.hid hGR
    have HL := Lib.hid hGR.len
    have HN := Lib.hid hn
    obtain ⟨r1, hr1⟩ : ∃ r, addQ ds us v2 v3 v4 = r := ⟨_, rfl⟩
    obtain ⟨r2, hr2⟩ : ∃ r, dropQ ds us v1 = r := ⟨_, rfl⟩
    obtain ⟨r3, hr3⟩ : ∃ r, remaskQ ds us v1 v3 v4 = r := ⟨_, rfl⟩
    obtain ⟨⟨y1, y2, y3, y4⟩, hy⟩ : ∃ y, (vcV us v1).1 = y := ⟨_, rfl⟩
    have HI1 := Lib.hid (hr1 ▸ add_is ds us v2 v3 v4)
    have HI2 := Lib.hid (hr2 ▸ drop_is ds us v1)
    have HI3 := Lib.hid (hr3 ▸ remask_is ds us v1 v3 v4)
    rw [hy] at HI3
    have HUz := Lib.hid (fun no => made_uv hU zeroV ⟨by decide, by decide⟩ no 16)
    have HUa := Lib.hid (fun (a b : Int) => made_uv hU (a, b, v3, v4) ⟨h3, h4⟩ 0 16)
    have HN1 := Lib.hid (q_len (r := (r1.1, r1.2.1, r1.2.2.2)) HI1.out (madeD_len ds zeroD 0 8) (madeV_len us (r1.2.2.1, v2, v3, v4) 0 16))
    have HN2 := Lib.hid (q_len HI2.out (madeD_len ds zeroD 0 8) (madeV_len us zeroV v1 16))
    have HN3 := Lib.hid (q_len HI3.out (madeD_len ds zeroD 0 8) (madeV_len us (y1, y2, v3, v4) 0 16))
    have HU1 := Lib.hid (q_uv (r := (r1.1, r1.2.1, r1.2.2.2)) HI1.out (HUa.out r1.2.2.1 v2))
    have HU2 := Lib.hid (q_uv HI2.out (HUz.out v1))
    have HU3 := Lib.hid (q_uv HI3.out (HUa.out y1 y2))
    have HCr := Lib.hid (fun (A : Option Addr) (c : Nat) (B : Option Addr) (d : Nat) (u : World) (h : GR u A n c ds B m d us) => hr1 ▸ gadd_any A n c ds B m d us v2 v3 v4 u h h3 h4)
    have HCg := Lib.hid (fun (A : Option Addr) (c : Nat) (B : Option Addr) (d : Nat) (u : World) (h : GR u A n c ds B m d us) => hr2 ▸ gdrop_any A n c ds B m d us v1 u h)
    have HDe := Lib.hid (fun (A : Option Addr) (c : Nat) (B : Option Addr) (d : Nat) (u : World) (h : GR u A n c ds B m d us) => hr3 ▸ gremask_any A n c ds B m d us v1 v3 v4 u h h3 h4)
    have HV := Lib.hid (And.intro hr1 (And.intro hr2 hr3))
    have HRm := Lib.hid (fun (u : World) => rrightM_any v3 v4 u)
    have HRg := Lib.hid (fun (u : World) (h : Below w.heap.size w u) => rrightG_any A n c ds B m d us u (HG.out.below h))
    have HDm := Lib.hid (fun (u : World) (h : Below w.heap.size w u) => rdom_any A n c ds B m d us v2 u (HG.out.below h))
    have HVc := Lib.hid (fun (u : World) (h : Below w.heap.size w u) => rvc_any A n c ds B m d us v1 u (HG.out.below h))
    have HOf := Lib.hid (fun (u : World) (h : Below w.heap.size w u) => rofG_any A n c ds B m d us v2 u (HG.out.below h))
    have HFr := Lib.hid (fun (u : World) (h : Below w.heap.size w u) => rfree_any A n c ds B m d us u (HG.out.below h))
    obtain ⟨F, hF⟩ : ∃ F : Int, ((freeK us 16 : Nat) : Int) = F := ⟨_, rfl⟩
    rw [hF] at HFr
    rw [hy] at HVc
    obtain ⟨Q, hQ⟩ : ∃ Q, (ofL us v2).length = Q := ⟨_, rfl⟩
    obtain ⟨mk, hmk⟩ : ∃ b, rightK v3 v4 = b := ⟨_, rfl⟩
    obtain ⟨th, hth⟩ : ∃ b, (domV ds v2).2 = b := ⟨_, rfl⟩
    obtain ⟨⟨p1, p2, p3, p4⟩, hp⟩ : ∃ y, (domV ds v2).1 = y := ⟨_, rfl⟩
    obtain ⟨vt, hvt⟩ : ∃ b, (vcV us v1).2 = b := ⟨_, rfl⟩
    obtain ⟨r, hr⟩ : ∃ b, rightG ds us = b := ⟨_, rfl⟩
    rw [hmk] at HRm
    rw [hth, hp] at HDm
    rw [hvt] at HVc
    rw [hr] at HRg
    have HQ := Lib.hid hQ
    have HVal := Lib.hid (vcpus_vals hr1 hr2 hr3 hmk hth hvt hr hF (m := m) (by rw [HL.out.2]) hQ)
    obtain ⟨D1, V1, id1, E1⟩ := r1
    obtain ⟨D2, V2, E2⟩ := r2
    obtain ⟨D3, V3, E3⟩ := r3
    clear hr1 hr2 hr3 hy hQ hmk hth hp hvt hr hF ho ho2 hd hv hnc hmd hn hGR hU h3 h4 HV
    go_enter Try.func4, Try.ntmps4
    go_wp2_with fail
    refine (HWk.out _).mono ?_
    rintro e w1 ⟨rfl, h9⟩
    replace K0 := K0.below h9 K0.lt
    replace K1 := K1.below h9 K1.lt
    replace GB := GB.trans (h9.mono GB.size)
    clear h9
    have zK00 := K0.cell 0
    have zK01 := K0.cell 1
    go_wp2_with fail
    refine (HOv.out _).mono ?_
    rintro e w2 ⟨rfl, h9⟩
    replace K0 := K0.below h9 K0.lt
    replace K1 := K1.below h9 K1.lt
    replace GB := GB.trans (h9.mono GB.size)
    clear h9
    clear zK00 zK01
    have zK00 := K0.cell 0
    have zK01 := K0.cell 1
    go_wp2_with fail
    refine (copied_any A n c ds B m d us _ (HG.out.below GB)).mono ?_
    rintro e w3 ⟨A5, c5, B5, d5, rfl, o1, o2, h9⟩
    rw [HL.out.1] at o1 ⊢
    rw [HL.out.2] at o2 ⊢
    replace K0 := K0.below h9 K0.lt
    replace K1 := K1.below h9 K1.lt
    replace GB := GB.trans (h9.mono GB.size)
    clear zK00 zK01
    have G5 := GR.of_own o1 o2 (by have := HN.out; omega) (by have := HN.out; omega) HG.out.u
    clear h9 o1 o2
    have K5 := Blk.new w3 25 #[.slice A5 n c5, .slice B5 m d5]
    replace K0 := K0.alloc (.cells #[.slice A5 n c5, .slice B5 m d5] 25)
    replace K1 := K1.alloc (.cells #[.slice A5 n c5, .slice B5 m d5] 25)
    replace G5 := G5.below ((Below.refl _ _).alloc (Nat.le_refl _) (.cells #[.slice A5 n c5, .slice B5 m d5] 25))
    replace GB := GB.alloc GB.size (.cells #[.slice A5 n c5, .slice B5 m d5] 25)
    have zK50 := K5.cell 0
    have zK51 := K5.cell 1
    have zK11 := K1.cell 1
    have zK12 := K1.cell 2
    have zK13 := K1.cell 3
    go_wp2_with fail
    refine (HCr.out _ _ _ _ _ G5).mono ?_
    rintro e w4 ⟨A6, n6, c6, B6, m6, d6, rfl, hl1, hl2, o1, o2, h9⟩
    replace K0 := K0.below h9 K0.lt
    replace K1 := K1.below h9 K1.lt
    replace K5 := K5.below h9 K5.lt
    replace G5 := G5.below h9
    replace GB := GB.trans (h9.mono GB.size)
    clear zK50 zK51 zK11 zK12 zK13
    have G6 := GR.of_own o1 o2 (by rw [← hl1]; exact HN1.out.1) (by rw [← hl2]; exact HN1.out.2) HU1.out
    clear h9 o1 o2 hl1 hl2
    have K6 := Blk.new w4 25 #[.slice A6 n6 c6, .slice B6 m6 d6]
    replace K0 := K0.alloc (.cells #[.slice A6 n6 c6, .slice B6 m6 d6] 25)
    replace K1 := K1.alloc (.cells #[.slice A6 n6 c6, .slice B6 m6 d6] 25)
    replace K5 := K5.alloc (.cells #[.slice A6 n6 c6, .slice B6 m6 d6] 25)
    replace G5 := G5.below ((Below.refl _ _).alloc (Nat.le_refl _) (.cells #[.slice A6 n6 c6, .slice B6 m6 d6] 25))
    replace G6 := G6.below ((Below.refl _ _).alloc (Nat.le_refl _) (.cells #[.slice A6 n6 c6, .slice B6 m6 d6] 25))
    replace GB := GB.alloc GB.size (.cells #[.slice A6 n6 c6, .slice B6 m6 d6] 25)
    have zK50 := K5.cell 0
    have zK51 := K5.cell 1
    have zK10 := K1.cell 0
    go_wp2_with fail
    refine (HCg.out _ _ _ _ _ G5).mono ?_
    rintro e w5 ⟨A9, n9, c9, B9, m9, d9, rfl, hl1, hl2, o1, o2, h9⟩
    replace K0 := K0.below h9 K0.lt
    replace K1 := K1.below h9 K1.lt
    replace K5 := K5.below h9 K5.lt
    replace K6 := K6.below h9 K6.lt
    replace G5 := G5.below h9
    replace G6 := G6.below h9
    replace GB := GB.trans (h9.mono GB.size)
    clear zK50 zK51 zK10
    have G9 := GR.of_own o1 o2 (by rw [← hl1]; exact HN2.out.1) (by rw [← hl2]; exact HN2.out.2) HU2.out
    clear h9 o1 o2 hl1 hl2
    have K9 := Blk.new w5 25 #[.slice A9 n9 c9, .slice B9 m9 d9]
    replace K0 := K0.alloc (.cells #[.slice A9 n9 c9, .slice B9 m9 d9] 25)
    replace K1 := K1.alloc (.cells #[.slice A9 n9 c9, .slice B9 m9 d9] 25)
    replace K5 := K5.alloc (.cells #[.slice A9 n9 c9, .slice B9 m9 d9] 25)
    replace K6 := K6.alloc (.cells #[.slice A9 n9 c9, .slice B9 m9 d9] 25)
    replace G5 := G5.below ((Below.refl _ _).alloc (Nat.le_refl _) (.cells #[.slice A9 n9 c9, .slice B9 m9 d9] 25))
    replace G6 := G6.below ((Below.refl _ _).alloc (Nat.le_refl _) (.cells #[.slice A9 n9 c9, .slice B9 m9 d9] 25))
    replace G9 := G9.below ((Below.refl _ _).alloc (Nat.le_refl _) (.cells #[.slice A9 n9 c9, .slice B9 m9 d9] 25))
    replace GB := GB.alloc GB.size (.cells #[.slice A9 n9 c9, .slice B9 m9 d9] 25)
    have zK50 := K5.cell 0
    have zK51 := K5.cell 1
    have zK10 := K1.cell 0
    have zK12 := K1.cell 2
    have zK13 := K1.cell 3
    go_wp2_with fail
    refine (HDe.out _ _ _ _ _ G5).mono ?_
    rintro e w6 ⟨A11, n11, c11, B11, m11, d11, rfl, hl1, hl2, o1, o2, h9⟩
    replace K0 := K0.below h9 K0.lt
    replace K1 := K1.below h9 K1.lt
    replace K5 := K5.below h9 K5.lt
    replace K6 := K6.below h9 K6.lt
    replace K9 := K9.below h9 K9.lt
    replace G5 := G5.below h9
    replace G6 := G6.below h9
    replace G9 := G9.below h9
    replace GB := GB.trans (h9.mono GB.size)
    clear zK50 zK51 zK10 zK12 zK13
    have G11 := GR.of_own o1 o2 (by rw [← hl1]; exact HN3.out.1) (by rw [← hl2]; exact HN3.out.2) HU3.out
    clear h9 o1 o2 hl1 hl2
    have K11 := Blk.new w6 25 #[.slice A11 n11 c11, .slice B11 m11 d11]
    replace K0 := K0.alloc (.cells #[.slice A11 n11 c11, .slice B11 m11 d11] 25)
    replace K1 := K1.alloc (.cells #[.slice A11 n11 c11, .slice B11 m11 d11] 25)
    replace K5 := K5.alloc (.cells #[.slice A11 n11 c11, .slice B11 m11 d11] 25)
    replace K6 := K6.alloc (.cells #[.slice A11 n11 c11, .slice B11 m11 d11] 25)
    replace K9 := K9.alloc (.cells #[.slice A11 n11 c11, .slice B11 m11 d11] 25)
    replace G5 := G5.below ((Below.refl _ _).alloc (Nat.le_refl _) (.cells #[.slice A11 n11 c11, .slice B11 m11 d11] 25))
    replace G6 := G6.below ((Below.refl _ _).alloc (Nat.le_refl _) (.cells #[.slice A11 n11 c11, .slice B11 m11 d11] 25))
    replace G9 := G9.below ((Below.refl _ _).alloc (Nat.le_refl _) (.cells #[.slice A11 n11 c11, .slice B11 m11 d11] 25))
    replace G11 := G11.below ((Below.refl _ _).alloc (Nat.le_refl _) (.cells #[.slice A11 n11 c11, .slice B11 m11 d11] 25))
    replace GB := GB.alloc GB.size (.cells #[.slice A11 n11 c11, .slice B11 m11 d11] 25)
    have zK00 := K0.cell 0
    have zK01 := K0.cell 1
    have zK50 := K5.cell 0
    have zK51 := K5.cell 1
    go_wp2_with fail
    refine ((sameG_self ds us ▸ rsameG_any A5 n c5 ds B5 m d5 us A n c ds B m d us _ G5 (HG.out.below GB) : Calls _ _ _ _ (Said (.bool true) _))).mono ?_
    rintro e w7 ⟨rfl, h9⟩
    replace K0 := K0.below h9 K0.lt
    replace K1 := K1.below h9 K1.lt
    replace K5 := K5.below h9 K5.lt
    replace K6 := K6.below h9 K6.lt
    replace K9 := K9.below h9 K9.lt
    replace K11 := K11.below h9 K11.lt
    replace G5 := G5.below h9
    replace G6 := G6.below h9
    replace G9 := G9.below h9
    replace G11 := G11.below h9
    replace GB := GB.trans (h9.mono GB.size)
    clear h9
    clear zK00 zK01 zK50 zK51
    clear HCr HCg HDe HWk HOv
    obtain ⟨full, hfull⟩ : ∃ b, (decide (16 ≤ m) || decide (8 ≤ Q)) = b := ⟨_, rfl⟩
    have HFu := Lib.hid hfull
    clear hfull
    go_upto_region 12 with fail
    go_cut [68] (fun s68 X => s68 = .bool full ∧ Below w7.heap.size w7 X)
    case first =>
      have z0 := K0.cell 0
      have z1 := K0.cell 1
      have z3 := K1.cell 1
      by_cases h16 : 16 ≤ m
      · have e1 : decide ((16 : Int) ≤ (m : Int)) = true := decide_eq_true (by omega)
        have HE : Hid (true = full) := Lib.hid (by rw [← HFu.out]; simp [h16])
        clear h16
        go_wp2_with fail
        go_meet
        exact ⟨by rw [HE.out], Below.refl _ _⟩
      · have e1 : decide ((16 : Int) ≤ (m : Int)) = false := decide_eq_false (by omega)
        by_cases h8 : 8 ≤ Q
        · have e2 : decide ((8 : Int) ≤ (Q : Int)) = true := decide_eq_true (by omega)
          have HE : Hid (true = full) := Lib.hid (by rw [← HFu.out]; simp [h8])
          clear h16 h8
          go_wp2_with fail
          refine (HOf.out _ GB).mono ?_
          rintro e wf ⟨Af, cf, rfl, q1, q2, h9⟩
          rw [HQ.out]
          clear q1 q2 z0 z1 z3
          go_wp2_with fail
          go_meet
          exact ⟨by rw [HE.out], h9⟩
        · have e2 : decide ((8 : Int) ≤ (Q : Int)) = false := decide_eq_false (by omega)
          have HE : Hid (false = full) := Lib.hid (by rw [← HFu.out]; simp [h8, h16])
          clear h16 h8
          go_wp2_with fail
          refine (HOf.out _ GB).mono ?_
          rintro e wf ⟨Af, cf, rfl, q1, q2, h9⟩
          rw [HQ.out]
          clear q1 q2 z0 z1 z3
          go_wp2_with fail
          go_meet
          exact ⟨by rw [HE.out], h9⟩
    case rest =>
      obtain ⟨rfl, h9⟩ := hcut
      rename World => X1
      replace K0 := K0.below h9 K0.lt
      replace K1 := K1.below h9 K1.lt
      replace K5 := K5.below h9 K5.lt
      replace K6 := K6.below h9 K6.lt
      replace K9 := K9.below h9 K9.lt
      replace K11 := K11.below h9 K11.lt
      replace G5 := G5.below h9
      replace G6 := G6.below h9
      replace G9 := G9.below h9
      replace G11 := G11.below h9
      replace GB := GB.trans (h9.mono GB.size)
      clear h9
      clear HOf HQ
      obtain ⟨ea, hea⟩ : ∃ e : Int, (if full = true then 6 else 0) = e := ⟨_, rfl⟩
      have Hea := Lib.hid hea
      clear hea
      go_upto_if 68 with fail
      go_cut [13] (fun s13 X => s13 = .int .i64 ea ∧ Below X1.heap.size X1 X)
      case first =>
        cases full with
        | true =>
          have Jea : Hid (6 = ea) := Lib.hid (by rw [← Hea.out]; simp)
          go_wp2_with fail
          go_meet
          exact ⟨by rw [Jea.out], Below.refl _ _⟩
        | false =>
          have Jea : Hid (0 = ea) := Lib.hid (by rw [← Hea.out]; simp)
          go_wp2_with fail
          go_meet
          exact ⟨by rw [Jea.out], Below.refl _ _⟩
      case rest =>
        obtain ⟨rfl, h9⟩ := hcut
        rename World => X2
        replace K0 := K0.below h9 K0.lt
        replace K1 := K1.below h9 K1.lt
        replace K5 := K5.below h9 K5.lt
        replace K6 := K6.below h9 K6.lt
        replace K9 := K9.below h9 K9.lt
        replace K11 := K11.below h9 K11.lt
        replace G5 := G5.below h9
        replace G6 := G6.below h9
        replace G9 := G9.below h9
        replace G11 := G11.below h9
        replace GB := GB.trans (h9.mono GB.size)
        clear h9
        have zK12 := K1.cell 2
        have zK13 := K1.cell 3
        go_wp2_with fail
        refine (HRm.out _).mono ?_
        rintro e w8 ⟨rfl, h9⟩
        replace K0 := K0.below h9 K0.lt
        replace K1 := K1.below h9 K1.lt
        replace K5 := K5.below h9 K5.lt
        replace K6 := K6.below h9 K6.lt
        replace K9 := K9.below h9 K9.lt
        replace K11 := K11.below h9 K11.lt
        replace G5 := G5.below h9
        replace G6 := G6.below h9
        replace G9 := G9.below h9
        replace G11 := G11.below h9
        replace GB := GB.trans (h9.mono GB.size)
        clear h9
        clear zK12 zK13
        obtain ⟨eb, heb⟩ : ∃ e : Int, (if mk = true then ea else 170) = e := ⟨_, rfl⟩
        have Heb := Lib.hid heb
        clear heb
        obtain ⟨ec, hec⟩ : ∃ e : Int, (if mk = true then 0 else 170) = e := ⟨_, rfl⟩
        have Hec := Lib.hid hec
        clear hec
        go_upto_if 72 with fail
        go_cut [13, 15] (fun s13 s15 X => s13 = .int .i64 eb ∧ s15 = .int .i64 ec ∧ Below w8.heap.size w8 X)
        case first =>
          cases mk with
          | true =>
            have Jeb : Hid (ea = eb) := Lib.hid (by rw [← Heb.out]; simp)
            have Jec : Hid (0 = ec) := Lib.hid (by rw [← Hec.out]; simp)
            go_wp2_with fail
            go_meet
            exact ⟨by rw [Jeb.out], by rw [Jec.out], Below.refl _ _⟩
          | false =>
            have Jeb : Hid (170 = eb) := Lib.hid (by rw [← Heb.out]; simp)
            have Jec : Hid (170 = ec) := Lib.hid (by rw [← Hec.out]; simp)
            go_wp2_with fail
            go_meet
            exact ⟨by rw [Jeb.out], by rw [Jec.out], Below.refl _ _⟩
        case rest =>
          obtain ⟨rfl, rfl, h9⟩ := hcut
          rename World => X3
          replace K0 := K0.below h9 K0.lt
          replace K1 := K1.below h9 K1.lt
          replace K5 := K5.below h9 K5.lt
          replace K6 := K6.below h9 K6.lt
          replace K9 := K9.below h9 K9.lt
          replace K11 := K11.below h9 K11.lt
          replace G5 := G5.below h9
          replace G6 := G6.below h9
          replace G9 := G9.below h9
          replace G11 := G11.below h9
          replace GB := GB.trans (h9.mono GB.size)
          clear h9
          have zK00 := K0.cell 0
          have zK01 := K0.cell 1
          have zK11 := K1.cell 1
          go_wp2_with fail
          refine (HDm.out _ GB).mono ?_
          rintro e w9 ⟨rfl, h9⟩
          replace K0 := K0.below h9 K0.lt
          replace K1 := K1.below h9 K1.lt
          replace K5 := K5.below h9 K5.lt
          replace K6 := K6.below h9 K6.lt
          replace K9 := K9.below h9 K9.lt
          replace K11 := K11.below h9 K11.lt
          replace G5 := G5.below h9
          replace G6 := G6.below h9
          replace G9 := G9.below h9
          replace G11 := G11.below h9
          replace GB := GB.trans (h9.mono GB.size)
          clear h9
          clear zK00 zK01 zK11
          have K16 := Blk.new w9 27 #[.int .i64 p1, .int .i64 p2, .int .i64 p3, .int .i64 p4]
          replace K0 := K0.alloc (.cells #[.int .i64 p1, .int .i64 p2, .int .i64 p3, .int .i64 p4] 27)
          replace K1 := K1.alloc (.cells #[.int .i64 p1, .int .i64 p2, .int .i64 p3, .int .i64 p4] 27)
          replace K5 := K5.alloc (.cells #[.int .i64 p1, .int .i64 p2, .int .i64 p3, .int .i64 p4] 27)
          replace K6 := K6.alloc (.cells #[.int .i64 p1, .int .i64 p2, .int .i64 p3, .int .i64 p4] 27)
          replace K9 := K9.alloc (.cells #[.int .i64 p1, .int .i64 p2, .int .i64 p3, .int .i64 p4] 27)
          replace K11 := K11.alloc (.cells #[.int .i64 p1, .int .i64 p2, .int .i64 p3, .int .i64 p4] 27)
          replace G5 := G5.below ((Below.refl _ _).alloc (Nat.le_refl _) (.cells #[.int .i64 p1, .int .i64 p2, .int .i64 p3, .int .i64 p4] 27))
          replace G6 := G6.below ((Below.refl _ _).alloc (Nat.le_refl _) (.cells #[.int .i64 p1, .int .i64 p2, .int .i64 p3, .int .i64 p4] 27))
          replace G9 := G9.below ((Below.refl _ _).alloc (Nat.le_refl _) (.cells #[.int .i64 p1, .int .i64 p2, .int .i64 p3, .int .i64 p4] 27))
          replace G11 := G11.below ((Below.refl _ _).alloc (Nat.le_refl _) (.cells #[.int .i64 p1, .int .i64 p2, .int .i64 p3, .int .i64 p4] 27))
          replace GB := GB.alloc GB.size (.cells #[.int .i64 p1, .int .i64 p2, .int .i64 p3, .int .i64 p4] 27)
          obtain ⟨Y1, hY1⟩ : ∃ Y, Y = w9.alloc (.cells #[.int .i64 p1, .int .i64 p2, .int .i64 p3, .int .i64 p4] 27) := ⟨_, rfl⟩
          rw [← hY1] at K0 K1 K5 K6 K9 K11 K16 G5 G6 G9 G11 GB
          have HY1 := Lib.hid hY1
          clear hY1 K16
          go_upto_if 81 with fail
          rw [← HY1.out]
          obtain ⟨ed, hed⟩ : ∃ e : Int, (if th = true then eb else 4) = e := ⟨_, rfl⟩
          have Hed := Lib.hid hed
          clear hed
          skip
          go_cut [13] (fun s13 X => s13 = .int .i64 ed ∧ Below Y1.heap.size Y1 X)
          case first =>
            cases th with
            | true =>
              have Jed : Hid (eb = ed) := Lib.hid (by rw [← Hed.out]; simp)
              go_wp2_with fail
              go_meet
              exact ⟨by rw [Jed.out], Below.refl _ _⟩
            | false =>
              have Jed : Hid (4 = ed) := Lib.hid (by rw [← Hed.out]; simp)
              go_wp2_with fail
              go_meet
              exact ⟨by rw [Jed.out], Below.refl _ _⟩
          case rest =>
            obtain ⟨rfl, h9⟩ := hcut
            rename World => X4
            replace K0 := K0.below h9 K0.lt
            replace K1 := K1.below h9 K1.lt
            replace K5 := K5.below h9 K5.lt
            replace K6 := K6.below h9 K6.lt
            replace K9 := K9.below h9 K9.lt
            replace K11 := K11.below h9 K11.lt
            replace G5 := G5.below h9
            replace G6 := G6.below h9
            replace G9 := G9.below h9
            replace G11 := G11.below h9
            replace GB := GB.trans (h9.mono GB.size)
            clear h9
            have zK00 := K0.cell 0
            have zK01 := K0.cell 1
            have zK10 := K1.cell 0
            go_wp2_with fail
            refine (HVc.out _ GB).mono ?_
            rintro e w10 ⟨rfl, h9⟩
            replace K0 := K0.below h9 K0.lt
            replace K1 := K1.below h9 K1.lt
            replace K5 := K5.below h9 K5.lt
            replace K6 := K6.below h9 K6.lt
            replace K9 := K9.below h9 K9.lt
            replace K11 := K11.below h9 K11.lt
            replace G5 := G5.below h9
            replace G6 := G6.below h9
            replace G9 := G9.below h9
            replace G11 := G11.below h9
            replace GB := GB.trans (h9.mono GB.size)
            clear h9
            clear zK00 zK01 zK10
            have HKy := Lib.hid (fun (u : World) (h : Below w10.heap.size w10 u) => And.intro (K0.below h K0.lt) (And.intro (K1.below h K1.lt) (And.intro (K6.below h K6.lt) (And.intro (K9.below h K9.lt) (K11.below h K11.lt)))))
            have HGy := Lib.hid (fun (u : World) (h : Below w10.heap.size w10 u) => And.intro (G6.below h) (And.intro (G9.below h) (G11.below h)))
            have HBy := Lib.hid (fun (u : World) (h : Below w10.heap.size w10 u) => GB.trans (h.mono GB.size))
            have DY := Below.refl w10.heap.size w10
            clear K5 K6 K9 K11 G5 G6 G9 G11
            have K18 := Blk.new w10 50 #[.int .i64 y1, .int .i64 y2, .int .u32 (y3 : Int), .int .u32 (y4 : Int)]
            replace K0 := K0.alloc (.cells #[.int .i64 y1, .int .i64 y2, .int .u32 (y3 : Int), .int .u32 (y4 : Int)] 50)
            replace K1 := K1.alloc (.cells #[.int .i64 y1, .int .i64 y2, .int .u32 (y3 : Int), .int .u32 (y4 : Int)] 50)
            replace GB := GB.alloc GB.size (.cells #[.int .i64 y1, .int .i64 y2, .int .u32 (y3 : Int), .int .u32 (y4 : Int)] 50)
            replace DY := DY.alloc DY.size (.cells #[.int .i64 y1, .int .i64 y2, .int .u32 (y3 : Int), .int .u32 (y4 : Int)] 50)

            obtain ⟨Y2, hY2⟩ : ∃ Y, Y = w10.alloc (.cells #[.int .i64 y1, .int .i64 y2, .int .u32 (y3 : Int), .int .u32 (y4 : Int)] 50) := ⟨_, rfl⟩
            rw [← hY2] at K0 K1 K18 GB DY
            have HY2 := Lib.hid hY2
            clear hY2
            go_upto_if 90 with fail
            rw [← HY2.out]
            obtain ⟨ee, hee⟩ : ∃ e : Int, (if vt = true then 0 else 4) = e := ⟨_, rfl⟩
            have Hee := Lib.hid hee
            clear hee
            obtain ⟨ef, hef⟩ : ∃ e : Int, (if vt = true then ec else 4) = e := ⟨_, rfl⟩
            have Hef := Lib.hid hef
            clear hef
            skip
            go_cut [14, 15] (fun s14 s15 X => s14 = .int .i64 ee ∧ s15 = .int .i64 ef ∧ Below Y2.heap.size Y2 X)
            case first =>
              cases vt with
              | true =>
                have Jee : Hid (0 = ee) := Lib.hid (by rw [← Hee.out]; simp)
                have Jef : Hid (ec = ef) := Lib.hid (by rw [← Hef.out]; simp)
                go_wp2_with fail
                go_meet
                exact ⟨by rw [Jee.out], by rw [Jef.out], Below.refl _ _⟩
              | false =>
                have Jee : Hid (4 = ee) := Lib.hid (by rw [← Hee.out]; simp)
                have Jef : Hid (4 = ef) := Lib.hid (by rw [← Hef.out]; simp)
                go_wp2_with fail
                go_meet
                exact ⟨by rw [Jee.out], by rw [Jef.out], Below.refl _ _⟩
            case rest =>
              obtain ⟨rfl, rfl, h9⟩ := hcut
              rename World => X5
              replace K0 := K0.below h9 K0.lt
              replace K1 := K1.below h9 K1.lt
              replace K18 := K18.below h9 K18.lt
              replace GB := GB.trans (h9.mono GB.size)
              replace DY := DY.trans (h9.mono DY.size)
              clear h9
              have zK00 := K0.cell 0
              have zK01 := K0.cell 1
              go_wp2_with fail
              refine (HRg.out _ GB).mono ?_
              rintro e w11 ⟨rfl, h9⟩
              replace K0 := K0.below h9 K0.lt
              replace K1 := K1.below h9 K1.lt
              replace K18 := K18.below h9 K18.lt
              replace GB := GB.trans (h9.mono GB.size)
              replace DY := DY.trans (h9.mono DY.size)
              clear h9
              clear zK00 zK01
              obtain ⟨eg, heg⟩ : ∃ e : Int, (if r = true then ed else 190) = e := ⟨_, rfl⟩
              have Heg := Lib.hid heg
              clear heg
              obtain ⟨eh, heh⟩ : ∃ e : Int, (if r = true then ee else 190) = e := ⟨_, rfl⟩
              have Heh := Lib.hid heh
              clear heh
              obtain ⟨ei, hei⟩ : ∃ e : Int, (if r = true then ef else 190) = e := ⟨_, rfl⟩
              have Hei := Lib.hid hei
              clear hei
              go_upto_if 93 with fail
              go_cut [13, 14, 15] (fun s13 s14 s15 X => s13 = .int .i64 eg ∧ s14 = .int .i64 eh ∧ s15 = .int .i64 ei ∧ Below w11.heap.size w11 X)
              case first =>
                cases r with
                | true =>
                  have Jeg : Hid (ed = eg) := Lib.hid (by rw [← Heg.out]; simp)
                  have Jeh : Hid (ee = eh) := Lib.hid (by rw [← Heh.out]; simp)
                  have Jei : Hid (ef = ei) := Lib.hid (by rw [← Hei.out]; simp)
                  go_wp2_with fail
                  go_meet
                  exact ⟨by rw [Jeg.out], by rw [Jeh.out], by rw [Jei.out], Below.refl _ _⟩
                | false =>
                  have Jeg : Hid (190 = eg) := Lib.hid (by rw [← Heg.out]; simp)
                  have Jeh : Hid (190 = eh) := Lib.hid (by rw [← Heh.out]; simp)
                  have Jei : Hid (190 = ei) := Lib.hid (by rw [← Hei.out]; simp)
                  go_wp2_with fail
                  go_meet
                  exact ⟨by rw [Jeg.out], by rw [Jeh.out], by rw [Jei.out], Below.refl _ _⟩
              case rest =>
                obtain ⟨rfl, rfl, rfl, h9⟩ := hcut
                rename World => X6
                replace K0 := K0.below h9 K0.lt
                replace K1 := K1.below h9 K1.lt
                replace K18 := K18.below h9 K18.lt
                replace GB := GB.trans (h9.mono GB.size)
                replace DY := DY.trans (h9.mono DY.size)
                clear h9
                have he : eg = E1 ∧ eh = E2 ∧ ei = E3 ∧ id1 = (if E1 = 0 then F else 0) := by
                  rw [← Heg.out, ← Heh.out, ← Hei.out, ← Hed.out, ← Hee.out, ← Hef.out, ← Hec.out, ← Heb.out, ← Hea.out, ← HFu.out]
                  exact HVal.out
                obtain ⟨rfl, rfl, rfl, hid⟩ := he
                have Hid1 := Lib.hid hid
                clear hid HVal Heg Heh Hei Hed Hee Hef Hec Heb Hea HFu
                go_upto_if 95 with fail
                go_cut [20] (fun s20 X => s20 = .int .i64 id1 ∧ Below X6.heap.size X6 X)
                case first =>
                  have z0 := K0.cell 0
                  have z1 := K0.cell 1
                  by_cases h0 : eg = 0
                  · have e0 : (eg == 0) = true := by simp [h0]
                    have HE : Hid (F = id1) := Lib.hid (by rw [Hid1.out, if_pos h0])
                    clear h0
                    go_wp2_with fail
                    refine (HFr.out _ GB).mono ?_
                    rintro e wf ⟨rfl, h9⟩
                    clear z0 z1
                    go_wp2_with fail
                    go_meet
                    exact ⟨by rw [HE.out], h9⟩
                  · have e0 : (eg == 0) = false := by simp [h0]
                    have HE : Hid (0 = id1) := Lib.hid (by rw [Hid1.out, if_neg h0])
                    clear h0
                    go_wp2_with fail
                    go_meet
                    exact ⟨by rw [HE.out], Below.refl _ _⟩
                case rest =>
                  obtain ⟨rfl, h9⟩ := hcut
                  rename World => X7
                  replace K0 := K0.below h9 K0.lt
                  replace K1 := K1.below h9 K1.lt
                  replace K18 := K18.below h9 K18.lt
                  replace GB := GB.trans (h9.mono GB.size)
                  replace DY := DY.trans (h9.mono DY.size)
                  clear h9
                  have z2 := K1.cell 2
                  have z3 := K1.cell 3
                  have x2 := K18.cell 2
                  have x3 := K18.cell 3
                  have u2 := K18.frozen 2
                  have u3 := K18.frozen 3
                  have K9' := (K18.set_ 2 (.int .u32 (v3 : Int))).set_ 3 (.int .u32 (v4 : Int))
                  have DZ := (DY.setCell (p := ⟨w10.heap.size, 2, none⟩) (Nat.le_refl _) (.int .u32 (v3 : Int))).setCell (p := ⟨w10.heap.size, 3, none⟩) (Nat.le_refl _) (.int .u32 (v4 : Int))
                  clear K0 K1 K18 GB DY
                  go_upto_region 28 with fail
                  clear z2 z3 x2 x3 u2 u3
                  generalize (X7.setCell ⟨w10.heap.size, 2, none⟩ (.int .u32 (v3 : Int))).setCell ⟨w10.heap.size, 3, none⟩ (.int .u32 (v4 : Int)) = X8 at K9' DZ ⊢
                  replace K9' : Blk X8 w10.heap.size 50 #[.int .i64 y1, .int .i64 y2, .int .u32 (v3 : Int), .int .u32 (v4 : Int)] := K9'
                  have HX := Lib.hid (fun (u : World) (h : Below X8.heap.size X8 u) => And.intro (K9'.below h K9'.lt) (HKy.out u (DZ.trans (h.mono DZ.size))))
                  have HGs := Lib.hid (fun (u : World) (h : Below X8.heap.size X8 u) => HGy.out u (DZ.trans (h.mono DZ.size)))
                  have HB := Lib.hid (fun (u : World) (h : Below X8.heap.size X8 u) => HBy.out u (DZ.trans (h.mono DZ.size)))
                  clear K9' DZ HKy HGy HBy
                  have HW1 : Hid (∀ (a b : Int) (u : World), Below X8.heap.size X8 u → Calls Try.prog 28 #[.agg #[.slice A n c, .slice B m d], .agg #[.int .i64 a, .int .i64 b, .int .u32 (v3 : Int), .int .u32 (v4 : Int)]] u (fun e w' => ∃ A n c B m d, e = .returned (.agg #[.slice A n c, .slice B m d]) ∧ GR w' A n c (madeD ds zeroD 0 8) B m d (madeV us (a, b, v3, v4) 0 16) ∧ Below u.heap.size u w')) := Lib.hid (fun a b u h => (rwithV_any A n c ds B m d us a b v3 v4 u (HG.out.below (HB.out u h))).mono fun _ _ h => h.gr (by have := madeD_len ds zeroD 0 8; omega) (by have := madeV_len us (a, b, v3, v4) 0 16; omega) (HUa.out a b))
                  have HW3 : Hid (∀ (u : World), Below X8.heap.size X8 u → Calls Try.prog 29 #[.agg #[.slice A n c, .slice B m d], .int .i64 v1] u (fun e w' => ∃ A n c B m d, e = .returned (.agg #[.slice A n c, .slice B m d]) ∧ GR w' A n c (madeD ds zeroD 0 8) B m d (madeV us zeroV v1 16) ∧ Below u.heap.size u w')) := Lib.hid (fun u h => (rwithoutV_any A n c ds B m d us v1 u (HG.out.below (HB.out u h))).mono fun _ _ h => h.gr (by have := madeD_len ds zeroD 0 8; omega) (by have := madeV_len us zeroV v1 16; omega) (HUz.out v1))
                  have HIa : Hid (IsOk eg D1 V1 (madeD ds zeroD 0 8) (madeV us (id1, v2, v3, v4) 0 16)) := HI1
                  have HIb : Hid (IsOk eh D2 V2 (madeD ds zeroD 0 8) (madeV us zeroV v1 16)) := HI2
                  have HIc : Hid (IsOk ei D3 V3 (madeD ds zeroD 0 8) (madeV us (y1, y2, v3, v4) 0 16)) := HI3
                  have D := (Below.refl X8.heap.size X8).drew
                  refine wp_region_held_drew (S := fun u => Below X8.heap.size X8 u) (by kernel_rfl) D (fun hS => ?_)
                  generalize X8.drew = V at D hS ⊢
                  refine wpAnyH_take (i := 0) (v := .int .i64 id1) rfl (by kernel_rfl) (by kernel_rfl) (by kernel_rfl) (fun _ _ _ h => h) (Or.inl ⟨by kernel_rfl, fun u hSw => (by go_simp)⟩) hS ?_
                  change wpAnyH _ _ _ _ _ _ _ (Act.put _ (some 101) _) _
                  simp only [Act.put]
                  refine wpAnyH_take (i := 1) (v := .int .i64 id1) rfl (by kernel_rfl) (by kernel_rfl) (by kernel_rfl) (fun _ _ _ h => h) (Or.inl ⟨by kernel_rfl, fun u hSw => (by go_simp)⟩) hS ?_
                  change wpAnyH _ _ _ _ _ _ _ (Act.put _ (some 102) _) _
                  simp only [Act.put]
                  refine wpAnyH_take (i := 2) (v := .bool true) rfl (by kernel_rfl) (by kernel_rfl) (by kernel_rfl) (fun _ _ _ h => h) (Or.inl ⟨by kernel_rfl, fun u hSw => (by go_simp)⟩) hS ?_
                  change wpAnyH _ _ _ _ _ _ _ (Act.put _ (some 103) _) _
                  simp only [Act.put]
                  refine wpAnyH_take (i := 3) (v := .bool true) rfl (by kernel_rfl) (by kernel_rfl) (by kernel_rfl) (fun _ _ _ h => h) (Or.inl ⟨by kernel_rfl, fun u hSw => (by go_simp)⟩) hS ?_
                  change wpAnyH _ _ _ _ _ _ _ (Act.put _ (some 104) _) _
                  simp only [Act.put]
                  refine wpAnyH_take (i := 4) (v := .agg #[.slice A6 n6 c6, .slice B6 m6 d6]) rfl (by kernel_rfl) (by kernel_rfl) (by kernel_rfl) (fun _ _ _ h => h) (Or.inl ⟨by kernel_rfl, fun u hSw => (by have q0 := (HX.out u hSw).2.2.2.1.cell 0; have q1 := (HX.out u hSw).2.2.2.1.cell 1; go_simp)⟩) hS ?_
                  change wpAnyH _ _ _ _ _ _ _ (Act.put _ (some 105) _) _
                  simp only [Act.put]
                  refine wpAnyH_take (i := 5) (v := .int .i64 eg) rfl (by kernel_rfl) (by kernel_rfl) (by kernel_rfl) (fun _ _ _ h => h) (Or.inl ⟨by kernel_rfl, fun u hSw => (by go_simp)⟩) hS ?_
                  change wpAnyH _ _ _ _ _ _ _ (Act.put _ (some 106) _) _
                  simp only [Act.put]
                  refine wpAnyH_take (i := 6) (v := .agg #[.slice A n c, .slice B m d]) rfl (by kernel_rfl) (by kernel_rfl) (by kernel_rfl) (fun _ _ _ h => h) (Or.inl ⟨by kernel_rfl, fun u hSw => (by have q0 := (HX.out u hSw).2.1.cell 0; have q1 := (HX.out u hSw).2.1.cell 1; go_simp)⟩) hS ?_
                  change wpAnyH _ _ _ _ _ _ _ (Act.put _ (some 107) _) _
                  simp only [Act.put]
                  refine wpAnyH_take (i := 7) (v := .int .i64 id1) rfl (by kernel_rfl) (by kernel_rfl) (by kernel_rfl) (fun _ _ _ h => h) (Or.inl ⟨by kernel_rfl, fun u hSw => (by go_simp)⟩) hS ?_
                  change wpAnyH _ _ _ _ _ _ _ (Act.put _ (some 108) _) _
                  simp only [Act.put]
                  refine wpAnyH_take (i := 8) (v := .pointer (some ⟨w.heap.size + 1, 1, none⟩)) rfl (by kernel_rfl) (by kernel_rfl) (by kernel_rfl) (fun _ _ _ h => h) (Or.inl ⟨by kernel_rfl, fun u hSw => (by go_simp)⟩) hS ?_
                  change wpAnyH _ _ _ _ _ _ _ (Act.put _ (some 109) _) _
                  simp only [Act.put]
                  refine wpAnyH_take (i := 9) (v := .int .i64 v2) rfl (by kernel_rfl) (by kernel_rfl) (by kernel_rfl) (fun _ _ _ h => h) (Or.inl ⟨by kernel_rfl, fun u hSw => (by have q0 := (HX.out u hSw).2.2.1.cell 1; go_simp)⟩) hS ?_
                  change wpAnyH _ _ _ _ _ _ _ (Act.put _ (some 110) _) _
                  simp only [Act.put]
                  refine wpAnyH_take (i := 10) (v := .pointer (some ⟨w.heap.size + 1, 2, none⟩)) rfl (by kernel_rfl) (by kernel_rfl) (by kernel_rfl) (fun _ _ _ h => h) (Or.inl ⟨by kernel_rfl, fun u hSw => (by go_simp)⟩) hS ?_
                  change wpAnyH _ _ _ _ _ _ _ (Act.put _ (some 111) _) _
                  simp only [Act.put]
                  refine wpAnyH_take (i := 11) (v := .agg #[.int .u32 (v3 : Int), .int .u32 (v4 : Int)]) rfl (by kernel_rfl) (by kernel_rfl) (by kernel_rfl) (fun _ _ _ h => h) (Or.inl ⟨by kernel_rfl, fun u hSw => (by have q0 := (HX.out u hSw).2.2.1.cell 2; have q1 := (HX.out u hSw).2.2.1.cell 3; go_simp)⟩) hS ?_
                  change wpAnyH _ _ _ _ _ _ _ (Act.put _ (some 112) _) _
                  simp only [Act.put]
                  refine wpAnyH_take (i := 12) (v := .agg #[.int .i64 id1, .int .i64 v2, .int .u32 (v3 : Int), .int .u32 (v4 : Int)]) rfl (by kernel_rfl) (by kernel_rfl) (by kernel_rfl) (fun _ _ _ h => h) (Or.inl ⟨by kernel_rfl, fun u hSw => (by go_simp)⟩) hS ?_
                  change wpAnyH _ _ _ _ _ _ _ (Act.put _ (some 113) _) _
                  simp only [Act.put]
                  refine wpAnyH_take (i := 14) (v := .int .i64 eg) rfl (by kernel_rfl) (by kernel_rfl) (by kernel_rfl) (fun _ _ _ h => h) (Or.inl ⟨by kernel_rfl, fun u hSw => (by go_simp)⟩) hS ?_
                  change wpAnyH _ _ _ _ _ _ _ (Act.put _ (some 115) _) _
                  simp only [Act.put]
                  refine wpAnyH_ready (rs := [13]) (by kernel_rfl) (by simp) ?_
                  refine AllReadyH.cons rfl (fun K hK => ?_) AllReadyH.nil
                  go_simp
                  refine (HW1.out id1 v2 _ D).mono ?_
                  rintro e1 w1 ⟨Aw1, nw1, cw1, Bw1, mw1, dw1, rfl, Gw1, h9⟩
                  replace D := D.trans (h9.mono D.size)
                  clear h9
                  refine hK.out _ _ D (fun hS => ?_)
                  clear hK K
                  refine wpAnyH_ready (rs := [15]) (by kernel_rfl) (by simp) ?_
                  refine AllReadyH.cons rfl (fun K hK => ?_) AllReadyH.nil
                  go_simp
                  refine (is_any _ _ _ _ _ _ _ _ _ _ _ _ _ _ _ _ _ _ ((HGs.out _ D).1) Gw1 HIa.out).mono ?_
                  rintro e2 w2 ⟨rfl, h9⟩
                  replace D := D.trans (h9.mono D.size)
                  clear Gw1
                  clear h9
                  refine hK.out _ _ D (fun hS => ?_)
                  clear hK K
                  refine wpAnyH_take (i := 16) (v := .bool true) rfl (by kernel_rfl) (by kernel_rfl) (by kernel_rfl) (fun _ _ _ h => h) (Or.inl ⟨by kernel_rfl, fun u hSw => (by go_simp)⟩) hS ?_
                  change wpAnyH _ _ _ _ _ _ _ (Act.put _ (some 117) _) _
                  simp only [Act.put]
                  refine wpAnyH_take (i := 17) (v := .bool true) rfl (by kernel_rfl) (by kernel_rfl) (by kernel_rfl) (fun _ _ _ h => h) (Or.inl ⟨by kernel_rfl, fun u hSw => (by go_simp)⟩) hS ?_
                  change wpAnyH _ _ _ _ _ _ _ (Act.put _ (some 118) _) _
                  simp only [Act.put]
                  refine wpAnyH_take (i := 18) (v := .agg #[.slice A9 n9 c9, .slice B9 m9 d9]) rfl (by kernel_rfl) (by kernel_rfl) (by kernel_rfl) (fun _ _ _ h => h) (Or.inl ⟨by kernel_rfl, fun u hSw => (by have q0 := (HX.out u hSw).2.2.2.2.1.cell 0; have q1 := (HX.out u hSw).2.2.2.2.1.cell 1; go_simp)⟩) hS ?_
                  change wpAnyH _ _ _ _ _ _ _ (Act.put _ (some 119) _) _
                  simp only [Act.put]
                  refine wpAnyH_take (i := 19) (v := .int .i64 eh) rfl (by kernel_rfl) (by kernel_rfl) (by kernel_rfl) (fun _ _ _ h => h) (Or.inl ⟨by kernel_rfl, fun u hSw => (by go_simp)⟩) hS ?_
                  change wpAnyH _ _ _ _ _ _ _ (Act.put _ (some 120) _) _
                  simp only [Act.put]
                  refine wpAnyH_take (i := 20) (v := .agg #[.slice A n c, .slice B m d]) rfl (by kernel_rfl) (by kernel_rfl) (by kernel_rfl) (fun _ _ _ h => h) (Or.inl ⟨by kernel_rfl, fun u hSw => (by have q0 := (HX.out u hSw).2.1.cell 0; have q1 := (HX.out u hSw).2.1.cell 1; go_simp)⟩) hS ?_
                  change wpAnyH _ _ _ _ _ _ _ (Act.put _ (some 121) _) _
                  simp only [Act.put]
                  refine wpAnyH_take (i := 21) (v := .pointer (some ⟨w.heap.size + 1, 0, none⟩)) rfl (by kernel_rfl) (by kernel_rfl) (by kernel_rfl) (fun _ _ _ h => h) (Or.inl ⟨by kernel_rfl, fun u hSw => (by go_simp)⟩) hS ?_
                  change wpAnyH _ _ _ _ _ _ _ (Act.put _ (some 122) _) _
                  simp only [Act.put]
                  refine wpAnyH_take (i := 22) (v := .int .i64 v1) rfl (by kernel_rfl) (by kernel_rfl) (by kernel_rfl) (fun _ _ _ h => h) (Or.inl ⟨by kernel_rfl, fun u hSw => (by have q0 := (HX.out u hSw).2.2.1.cell 0; go_simp)⟩) hS ?_
                  change wpAnyH _ _ _ _ _ _ _ (Act.put _ (some 123) _) _
                  simp only [Act.put]
                  refine wpAnyH_take (i := 24) (v := .int .i64 eh) rfl (by kernel_rfl) (by kernel_rfl) (by kernel_rfl) (fun _ _ _ h => h) (Or.inl ⟨by kernel_rfl, fun u hSw => (by go_simp)⟩) hS ?_
                  change wpAnyH _ _ _ _ _ _ _ (Act.put _ (some 125) _) _
                  simp only [Act.put]
                  refine wpAnyH_ready (rs := [23]) (by kernel_rfl) (by simp) ?_
                  refine AllReadyH.cons rfl (fun K hK => ?_) AllReadyH.nil
                  go_simp
                  refine (HW3.out _ D).mono ?_
                  rintro e3 w3 ⟨Aw2, nw2, cw2, Bw2, mw2, dw2, rfl, Gw2, h9⟩
                  replace D := D.trans (h9.mono D.size)
                  clear h9
                  refine hK.out _ _ D (fun hS => ?_)
                  clear hK K
                  refine wpAnyH_ready (rs := [25]) (by kernel_rfl) (by simp) ?_
                  refine AllReadyH.cons rfl (fun K hK => ?_) AllReadyH.nil
                  go_simp
                  refine (is_any _ _ _ _ _ _ _ _ _ _ _ _ _ _ _ _ _ _ ((HGs.out _ D).2.1) Gw2 HIb.out).mono ?_
                  rintro e4 w4 ⟨rfl, h9⟩
                  replace D := D.trans (h9.mono D.size)
                  clear Gw2
                  clear h9
                  refine hK.out _ _ D (fun hS => ?_)
                  clear hK K
                  refine wpAnyH_take (i := 26) (v := .bool true) rfl (by kernel_rfl) (by kernel_rfl) (by kernel_rfl) (fun _ _ _ h => h) (Or.inl ⟨by kernel_rfl, fun u hSw => (by go_simp)⟩) hS ?_
                  change wpAnyH _ _ _ _ _ _ _ (Act.put _ (some 127) _) _
                  simp only [Act.put]
                  refine wpAnyH_take (i := 27) (v := .bool true) rfl (by kernel_rfl) (by kernel_rfl) (by kernel_rfl) (fun _ _ _ h => h) (Or.inl ⟨by kernel_rfl, fun u hSw => (by go_simp)⟩) hS ?_
                  change wpAnyH _ _ _ _ _ _ _ (Act.put _ (some 128) _) _
                  simp only [Act.put]
                  refine wpAnyH_take (i := 28) (v := .agg #[.slice A11 n11 c11, .slice B11 m11 d11]) rfl (by kernel_rfl) (by kernel_rfl) (by kernel_rfl) (fun _ _ _ h => h) (Or.inl ⟨by kernel_rfl, fun u hSw => (by have q0 := (HX.out u hSw).2.2.2.2.2.cell 0; have q1 := (HX.out u hSw).2.2.2.2.2.cell 1; go_simp)⟩) hS ?_
                  change wpAnyH _ _ _ _ _ _ _ (Act.put _ (some 129) _) _
                  simp only [Act.put]
                  refine wpAnyH_take (i := 29) (v := .int .i64 ei) rfl (by kernel_rfl) (by kernel_rfl) (by kernel_rfl) (fun _ _ _ h => h) (Or.inl ⟨by kernel_rfl, fun u hSw => (by go_simp)⟩) hS ?_
                  change wpAnyH _ _ _ _ _ _ _ (Act.put _ (some 130) _) _
                  simp only [Act.put]
                  refine wpAnyH_take (i := 30) (v := .agg #[.slice A n c, .slice B m d]) rfl (by kernel_rfl) (by kernel_rfl) (by kernel_rfl) (fun _ _ _ h => h) (Or.inl ⟨by kernel_rfl, fun u hSw => (by have q0 := (HX.out u hSw).2.1.cell 0; have q1 := (HX.out u hSw).2.1.cell 1; go_simp)⟩) hS ?_
                  change wpAnyH _ _ _ _ _ _ _ (Act.put _ (some 131) _) _
                  simp only [Act.put]
                  refine wpAnyH_take (i := 31) (v := .agg #[.int .i64 y1, .int .i64 y2, .int .u32 (v3 : Int), .int .u32 (v4 : Int)]) rfl (by kernel_rfl) (by kernel_rfl) (by kernel_rfl) (fun _ _ _ h => h) (Or.inl ⟨by kernel_rfl, fun u hSw => (by have q0 := (HX.out u hSw).1.cell 0; have q1 := (HX.out u hSw).1.cell 1; have q2 := (HX.out u hSw).1.cell 2; have q3 := (HX.out u hSw).1.cell 3; go_simp)⟩) hS ?_
                  change wpAnyH _ _ _ _ _ _ _ (Act.put _ (some 132) _) _
                  simp only [Act.put]
                  refine wpAnyH_take (i := 33) (v := .int .i64 ei) rfl (by kernel_rfl) (by kernel_rfl) (by kernel_rfl) (fun _ _ _ h => h) (Or.inl ⟨by kernel_rfl, fun u hSw => (by go_simp)⟩) hS ?_
                  change wpAnyH _ _ _ _ _ _ _ (Act.put _ (some 134) _) _
                  simp only [Act.put]
                  refine wpAnyH_ready (rs := [32]) (by kernel_rfl) (by simp) ?_
                  refine AllReadyH.cons rfl (fun K hK => ?_) AllReadyH.nil
                  go_simp
                  refine (HW1.out y1 y2 _ D).mono ?_
                  rintro e5 w5 ⟨Aw3, nw3, cw3, Bw3, mw3, dw3, rfl, Gw3, h9⟩
                  replace D := D.trans (h9.mono D.size)
                  clear h9
                  refine hK.out _ _ D (fun hS => ?_)
                  clear hK K
                  refine wpAnyH_ready (rs := [34]) (by kernel_rfl) (by simp) ?_
                  refine AllReadyH.cons rfl (fun K hK => ?_) AllReadyH.nil
                  go_simp
                  refine (is_any _ _ _ _ _ _ _ _ _ _ _ _ _ _ _ _ _ _ ((HGs.out _ D).2.2) Gw3 HIc.out).mono ?_
                  rintro e6 w6 ⟨rfl, h9⟩
                  replace D := D.trans (h9.mono D.size)
                  clear Gw3
                  clear h9
                  refine hK.out _ _ D (fun hS => ?_)
                  clear hK K
                  refine wpAnyH_take (i := 35) (v := .bool true) rfl (by kernel_rfl) (by kernel_rfl) (by kernel_rfl) (fun _ _ _ h => h) (Or.inl ⟨by kernel_rfl, fun u hSw => (by go_simp)⟩) hS ?_
                  change wpAnyH _ _ _ _ _ _ _ (Act.put _ (some 136) _) _
                  simp only [Act.put]
                  refine wpAnyH_take (i := 36) (v := .bool true) rfl (by kernel_rfl) (by kernel_rfl) (by kernel_rfl) (fun _ _ _ h => h) (Or.inl ⟨by kernel_rfl, fun u hSw => (by go_simp)⟩) hS ?_
                  change wpAnyH _ _ _ _ _ _ _ (Act.put _ (some 4) _) _
                  simp only [Act.put]
                  refine wpAnyH_done (by kernel_rfl) ?_ _
                  clear hS
                  have HF := Lib.hid (HB.out _ D)
                  clear D
                  go_wp2
                  go_ret
                  exact ⟨rfl, HF.out⟩

end Go.Proofs.Ytknimnopopnbhaa
