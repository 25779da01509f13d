/-
  VtimeClips' walk. No statement is proved here.
-/
import Derived.Test.YtfgabmelmopgdaaCx
import Derived.Deep.DeepCutAuto
namespace Go.Proofs.Ytfgabmelmopgdaa
open Go.RowKit Go.Maps

set_option maxRecDepth 100000 in
set_option maxHeartbeats 32000000 in
theorem clips_walk (A : Option Addr) (n c : Nat) (qs : List Rn) (w : World) (hR : Reads w w.heap.size 5 A n (flat rv qs)) (hnc : n ≤ c) (hU : UQ qs) :
    Calls Try.prog 6 #[.agg #[.slice A n c]] w (Said (.bool true) w) := by
  have HWk := Lib.hid (fun (u : World) => wakes_any u)
  have HSh := Lib.hid (fun (u : World) (h : Below w.heap.size w u) => short_any A n c qs u ((hR.below h).more h.size) hnc)
  obtain ⟨n5, hn5⟩ : ∃ k, min n 17 = k := ⟨_, rfl⟩
  obtain ⟨q5, hq5⟩ : ∃ k, qs.take 17 = k := ⟨_, rfl⟩
  have HU5 : Hid (UQ q5) := Lib.hid (by rw [← hq5]; exact take_uq hU 17)
  have HN5 : Hid (n5 ≤ 17) := Lib.hid (by omega)
  rw [hn5, hq5] at HSh
  obtain ⟨K0, GB⟩ := box1 w 26 #[.slice A n c]
  obtain ⟨⟨L1, I1, E1⟩, hC⟩ : ∃ R, clipQ q5 = R := ⟨_, rfl⟩
  have HCl := Lib.hid (fun (A : Option Addr) (n c : Nat) (u : World) (hq : QR u A n c q5) (hn : n ≤ 100) => clip_any A n c q5 u hq hn)
  rw [hC] at HCl
  obtain ⟨⟨⟨t1, t2, t3⟩, any⟩, hT⟩ : ∃ t, topQ q5 = t := ⟨_, rfl⟩
  have HTo := Lib.hid (fun (A : Option Addr) (n c : Nat) (u : World) (h : QR u A n c q5) (hn : n ≤ 100) => top_any A n c q5 u h hn)
  rw [hT] at HTo
  unfold fr at HTo
  have HC1 := Lib.hid hC
  have HT1 := Lib.hid hT
  have hmm := @run_makeMap Try.prog
  clear hR hnc hU hn5 hq5 hC hT
  go_enter Try.func6, Try.ntmps6
  go_wp2_with fail
  refine (HWk.out _).mono ?_
  rintro e w1 ⟨rfl, h9⟩
  replace K0 := K0.below h9 K0.lt
  replace GB := GB.trans (h9.mono GB.size)
  clear h9
  have zK00 := K0.cell 0
  go_wp2_with fail
  refine (HSh.out _ GB).mono ?_
  rintro e9 w2 ⟨A5, c5, rfl, own5, h9⟩
  replace K0 := K0.below h9 K0.lt
  replace GB := GB.trans (h9.mono GB.size)
  clear zK00
  have G5 := qr_own own5 (by have := HN5.out; omega) HU5.out
  clear own5 h9 HSh HWk K0
  have K3 := Blk.new w2 26 #[.slice A5 n5 c5]
  replace G5 := G5.below ((Below.refl _ _).alloc (Nat.le_refl _) (.cells #[.slice A5 n5 c5] 26))
  replace GB := GB.alloc GB.size (.cells #[.slice A5 n5 c5] 26)
  have HL5 := Lib.hid G5.len
  have TX := Lib.hid (HTo.out A5 n5 c5 _ G5 (by have := HN5.out; omega))
  have zK30 := K3.cell 0
  go_wp2_with fail
  refine TX.out.mono ?_
  rintro e9 w3 ⟨rfl, h9⟩
  clear TX HTo
  replace K3 := K3.below h9 K3.lt
  replace G5 := G5.below h9
  replace GB := GB.trans (h9.mono GB.size)
  clear h9
  clear zK30
  have K4 := Blk.new w3 36 #[.int .u64 (t1 : Int), .int .u64 (t2 : Int), .int .u64 (t3 : Int)]
  replace K3 := K3.alloc (.cells #[.int .u64 (t1 : Int), .int .u64 (t2 : Int), .int .u64 (t3 : Int)] 36)
  replace G5 := G5.below ((Below.refl _ _).alloc (Nat.le_refl _) (.cells #[.int .u64 (t1 : Int), .int .u64 (t2 : Int), .int .u64 (t3 : Int)] 36))
  replace GB := GB.alloc GB.size (.cells #[.int .u64 (t1 : Int), .int .u64 (t2 : Int), .int .u64 (t3 : Int)] 36)
  have CX := Lib.hid (HCl.out A5 n5 c5 _ G5 (by have := HN5.out; omega))
  have zK30 := K3.cell 0
  go_wp2_with fail
  refine CX.out.mono ?_
  rintro e9 w4 ⟨A6, n6, c6, B6, m6, d6, rfl, hl6, own6, hli, ownI, h9⟩
  clear CX HCl
  replace K3 := K3.below h9 K3.lt
  replace K4 := K4.below h9 K4.lt
  replace G5 := G5.below h9
  replace GB := GB.trans (h9.mono GB.size)
  clear h9
  clear zK30
  have K6 := Blk.new w4 26 #[.slice A6 n6 c6]
  replace K3 := K3.alloc (.cells #[.slice A6 n6 c6] 26)
  replace K4 := K4.alloc (.cells #[.slice A6 n6 c6] 26)
  replace G5 := G5.below ((Below.refl _ _).alloc (Nat.le_refl _) (.cells #[.slice A6 n6 c6] 26))
  replace GB := GB.alloc GB.size (.cells #[.slice A6 n6 c6] 26)
  replace own6 := own6.alloc (.cells #[.slice A6 n6 c6] 26)
  replace ownI := ownI.alloc (.cells #[.slice A6 n6 c6] 26)
  go_upto_region 6 with fail
  obtain ⟨Y, hY⟩ : ∃ Y, w4.alloc (.cells #[.slice A6 n6 c6] 26) = Y := ⟨_, rfl⟩
  obtain ⟨g3, hg3⟩ : ∃ g, w2.heap.size = g := ⟨_, rfl⟩
  obtain ⟨g4, hg4⟩ : ∃ g, w3.heap.size = g := ⟨_, rfl⟩
  obtain ⟨g6, hg6⟩ : ∃ g, w4.heap.size = g := ⟨_, rfl⟩
  rw [hY] at K3 K4 K6 G5 GB own6 ownI ⊢
  rw [hg3] at K3 ⊢
  rw [hg4] at K4 ⊢
  rw [hg6] at K6 ⊢
  clear hY hg3 hg4 hg6
  by_cases hE : E1 = 0
  · subst hE
    have hok := clips_ok HU5.out HC1.out
    obtain ⟨⟨⟨a1, a2, a3⟩, is⟩, hA⟩ : ∃ t, topQ L1 = t := ⟨_, rfl⟩
    have his := hok.any
    rw [HT1.out, hA] at his
    obtain rfl : any = is := his
    have hn6 : n6 = n5 := by rw [← hl6, hok.len, HL5.out]
    have G6 : QR Y A6 n6 c6 L1 := qr_own own6 (by have := HN5.out; omega) hok.uq
    have HI := Lib.hid (Reads.of_own ownI)
    have HTo := Lib.hid (fun (u : World) (h : QR u A6 n6 c6 L1) => top_any A6 n6 c6 L1 u h (by have := HN5.out; omega))
    rw [hA] at HTo
    unfold fr at HTo
    have HTop := hok.top
    rw [HT1.out, hA] at HTop
    have HCmp : Hid (any = true → ∀ u, Calls Try.prog 23 #[.agg #[.int .u64 (t1 : Int), .int .u64 (t2 : Int), .int .u64 (t3 : Int)], .agg #[.int .u64 (a1 : Int), .int .u64 (a2 : Int), .int .u64 (a3 : Int)]] u (Said (.int .i64 0) u)) := Lib.hid (fun ha u => by
      obtain ⟨q1, q2, q3, q4, q5', q6, q7⟩ := HTop ha
      have hx := rightN_true q1
      have hy := rightN_true q2
      have r := cmp_call t1 t2 t3 a1 a2 a3 u q3 q4 (by have := hx.2.1; unfold fW at this; simp only at this; omega) q5' q6 (by have := hy.2.1; unfold fW at this; simp only at this; omega)
      unfold fN fW at q1 q2 q7
      simp only at q1 q2 q7
      rw [cmpR_yes q1 q2, cmpW_eq q7.symm] at r
      exact r)
    have HOk := Lib.hid hok
    have Hn6 := Lib.hid hn6
    have Hm6 : Hid (m6 ≤ 17 ∧ I1.length = m6) := Lib.hid ⟨by have := hok.ids; have := HL5.out; have := HN5.out; omega, hli⟩
    have HA := Lib.hid hA
    clear hok hn6 ownI own6 HTop hA hl6 hli
    have GI := HI.out
    clear HI
    replace GB := GB
    have TX := Lib.hid (HTo.out _ G6)
    have zK60 := K6.cell 0
    go_wp2_with fail
    refine TX.out.mono ?_
    rintro e9 w5 ⟨rfl, h9⟩
    clear TX HTo
    replace GI := (GI.below h9).more h9.size
    replace K3 := K3.below h9 K3.lt
    replace K4 := K4.below h9 K4.lt
    replace K6 := K6.below h9 K6.lt
    replace G5 := G5.below h9
    replace G6 := G6.below h9
    replace GB := GB.trans (h9.mono GB.size)
    clear h9
    clear zK60
    have hbz := (Below.refl w5.heap.size w5).alloc (Nat.le_refl _) (.cells #[.int .u64 (a1 : Int), .int .u64 (a2 : Int), .int .u64 (a3 : Int)] 36)
    replace GI := (GI.below hbz).more hbz.size
    clear hbz
    have K9 := Blk.new w5 36 #[.int .u64 (a1 : Int), .int .u64 (a2 : Int), .int .u64 (a3 : Int)]
    replace K3 := K3.alloc (.cells #[.int .u64 (a1 : Int), .int .u64 (a2 : Int), .int .u64 (a3 : Int)] 36)
    replace K4 := K4.alloc (.cells #[.int .u64 (a1 : Int), .int .u64 (a2 : Int), .int .u64 (a3 : Int)] 36)
    replace K6 := K6.alloc (.cells #[.int .u64 (a1 : Int), .int .u64 (a2 : Int), .int .u64 (a3 : Int)] 36)
    replace G5 := G5.below ((Below.refl _ _).alloc (Nat.le_refl _) (.cells #[.int .u64 (a1 : Int), .int .u64 (a2 : Int), .int .u64 (a3 : Int)] 36))
    replace G6 := G6.below ((Below.refl _ _).alloc (Nat.le_refl _) (.cells #[.int .u64 (a1 : Int), .int .u64 (a2 : Int), .int .u64 (a3 : Int)] 36))
    replace GB := GB.alloc GB.size (.cells #[.int .u64 (a1 : Int), .int .u64 (a2 : Int), .int .u64 (a3 : Int)] 36)
    go_upto_region 9 with fail
    obtain ⟨Y1, hY⟩ : ∃ Y, w5.alloc (.cells #[.int .u64 (a1 : Int), .int .u64 (a2 : Int), .int .u64 (a3 : Int)] 36) = Y := ⟨_, rfl⟩
    obtain ⟨g9, hg9⟩ : ∃ g, w5.heap.size = g := ⟨_, rfl⟩
    rw [hY] at K3 K4 K6 K9 G5 G6 GI GB ⊢
    rw [hg9] at K9 ⊢
    clear hY hg9
    have HB := Lib.hid (And.intro K3 (And.intro K4 (And.intro K6 (And.intro G5 (And.intro G6 (And.intro GI GB))))))
    clear K3 K6 G5 G6 GI GB
    go_cut [60] (fun s X => s = .bool false ∧ Below Y1.heap.size Y1 X)
    case first =>
      have z0 := K4.cell 0
      have z1 := K4.cell 1
      have z2 := K4.cell 2
      have y0 := K9.cell 0
      have y1 := K9.cell 1
      have y2 := K9.cell 2
      cases any with
      | true =>
        have HCm := Lib.hid (HCmp.out rfl)
        go_wp2_with fail
        refine (HCm.out _).mono ?_
        rintro e9 w6 ⟨rfl, h9⟩
        have Hx := Lib.hid h9
        clear h9 z0 z1 z2 y0 y1 y2
        go_wp2_with fail
        go_meet
        exact ⟨rfl, Hx.out⟩
      | false =>
        go_wp2_with fail
        go_meet
        exact ⟨rfl, Below.refl _ _⟩
    case rest =>
      clear K4 K9
      obtain ⟨rfl, hB1⟩ := hcut
      rename World => X0
      have K3 := HB.out.1.below hB1 HB.out.1.lt
      have K4 := HB.out.2.1.below hB1 HB.out.2.1.lt
      have K6 := HB.out.2.2.1.below hB1 HB.out.2.2.1.lt
      have G5 := HB.out.2.2.2.1.below hB1
      have G6 := HB.out.2.2.2.2.1.below hB1
      have GI := (HB.out.2.2.2.2.2.1.below hB1).more hB1.size
      have GB := HB.out.2.2.2.2.2.2.trans (hB1.mono HB.out.2.2.2.2.2.2.size)
      clear HB hB1
      have M0 := MB.made X0
      have B0 := (Below.refl X0.heap.size X0).alloc (Nat.le_refl _) (.map #[] 0)
      have HBx := Lib.hid (And.intro K3 (And.intro K4 (And.intro K6 (And.intro G5 (And.intro G6 (And.intro GI GB))))))
      clear K3 K4 K6 G5 G6 GI GB
      go_upto_region 12 with fail
      obtain ⟨bm, hbm⟩ : ∃ b, X0.heap.size = b := ⟨_, rfl⟩
      obtain ⟨Z0, hZ0⟩ : ∃ Z, X0.alloc (.map #[] 0) = Z := ⟨_, rfl⟩
      rw [hZ0] at M0 B0 ⊢
      rw [hbm] at M0 ⊢
      have Hbm := Lib.hid hbm
      clear hZ0 hbm
      go_wp2_with fail
      go_loopw [64] (fun iv wr => ∃ k : Nat, k ≤ m6 ∧ iv = .int .i64 (k : Int) ∧ MB wr bm (I1.take k) ∧ Below X0.heap.size X0 wr) (fun iv _ => m6 - (intOf iv).toNat)
      case atStart => exact ⟨0, Nat.zero_le _, rfl, by rw [List.take_zero]; exact M0, B0⟩
      case round =>
        clear M0 B0
        obtain ⟨k, hk, rfl, hM, hB⟩ := hrel
        by_cases hlt : k < m6
        · obtain ⟨y, hy⟩ := elem_at (l := I1) (k := k) (by rw [Hm6.out.2]; exact hlt)
          have hv : (vs I1)[k]? = some (.int .i64 y) := by unfold vs; rw [List.getElem?_map, hy]; rfl
          obtain ⟨ad, hB6, hb, hc⟩ := (HBx.out.2.2.2.2.2.1.below hB).2 (by omega)
          subst hB6
          have c0 := hc k _ hv
          have hw := HOk.out.idw y (List.mem_of_getElem? hy)
          have hwf : (Lit.int .i64 y).wf = true := by
            rw [show y = wrap64 y by unfold wrap64; omega]
            exact wrap64_wf _
          have HKEY : Hid (keyOf Try.prog 3 (.int .i64 y) = some (.int .i64 y)) := Lib.hid (keyOf_int_mk Try.underlying3 hwf)
          have HTk : Hid (I1.take (k + 1) = I1.take k ++ [y]) := Lib.hid (by rw [List.take_add_one, hy]; rfl)
          have HLn : Hid ((I1.take k).length = k) := Lib.hid (by rw [List.length_take, Hm6.out.2]; omega)
          have i1 : (0 : Int) ≤ (k : Int) := by omega
          have i2 : (k : Int) < (m6 : Int) := by omega
          obtain ⟨nn, D, hn0, hown, hD⟩ := hM.own
          have HN0 : Hid (nn < maxLen ∧ nn ≤ k) := Lib.hid ⟨by rw [HLn.out] at hn0; have := Hm6.out.1; unfold maxLen; omega, by rw [HLn.out] at hn0; exact hn0⟩
          have HD := Lib.hid (And.intro hD hown.isMap)
          have hlt17 : k < 17 := by have := Hm6.out.1; omega
          have HBk := Lib.hid hB
          have Hlt := Lib.hid hlt
          clear hv hb hc hy hw hwf hM hn0 hD hB hlt hk
          go_wp2_with (
            at_mapUpdate
            refine wpList_mapUpdate_own _ rfl _ _ _ 57 rfl 3 4 (int_keyed Try.underlying3) Try.underlying57 _ bm nn D rfl hown HN0.out.1 _ _ _ rfl rfl HKEY.out _ [] (plainElem_bool Try.underlying4 true) ?_
            intro w7 own7 grow7)
          have hM2 : MB w7 bm (I1.take (k + 1)) := by
            rw [HTk.out]
            exact ⟨nn + 1, _, by rw [List.length_append, HLn.out]; have := HN0.out.2; simp; omega, own7, holdsB_put HD.out.1 HD.out.2⟩
          have hB2 : Below X0.heap.size X0 w7 := HBk.out.grown grow7 HBk.out.size (fun g hg => by injection hg with hg; rw [← hg, ← Hbm.out]; exact Nat.le_refl _)
          clear own7 grow7 hown
          go_roundw
          case rel => exact ⟨k + 1, Hlt.out, by go_num, hM2, hB2⟩
          case measure => have := Hlt.out; simp [intOf] <;> omega
        · obtain rfl : k = m6 := by omega
          obtain ⟨X2, rfl⟩ : ∃ X, X = wr := ⟨_, rfl⟩
          have hMI : MB X2 bm I1 := by
            have q := hM
            rwa [List.take_of_length_le (by rw [Hm6.out.2]; exact Nat.le_refl _)] at q
          have K3 := HBx.out.1.below hB HBx.out.1.lt
          have K4 := HBx.out.2.1.below hB HBx.out.2.1.lt
          have K6 := HBx.out.2.2.1.below hB HBx.out.2.2.1.lt
          have G5 := HBx.out.2.2.2.1.below hB
          have G6 := HBx.out.2.2.2.2.1.below hB
          have GB := HBx.out.2.2.2.2.2.2.trans (hB.mono HBx.out.2.2.2.2.2.2.size)
          have z0 := K6.cell 0
          have HX := Lib.hid (And.intro K3 (And.intro K4 (And.intro K6 (And.intro G5 (And.intro G6 (And.intro hMI GB))))))
          have HSz : Hid (w.heap.size ≤ X2.heap.size) := Lib.hid GB.size
          clear hMI K3 K4 K6 G5 G6 GB hM hB hlt hk HBx
          go_wp2_with fail
          clear z0
          go_loopw [74] (fun iv wq => ∃ q : Nat, q ≤ n6 ∧ iv = .int .i64 (q : Int) ∧ Below X2.heap.size X2 wq) (fun iv _ => n6 - (intOf iv).toNat)
          case atStart => exact ⟨0, Nat.zero_le _, rfl, Below.refl _ _⟩
          case round =>
            obtain ⟨q, hq, rfl, hB⟩ := hrel
            by_cases hlt : q < n6
            · obtain ⟨⟨a, b, h, l, z⟩, hx⟩ := elem_at (l := L1) (k := q) (by rw [HOk.out.len, HL5.out, ← Hn6.out]; exact hlt)
              obtain ⟨⟨e1, e2, e3, e4, e5⟩, hg, hr1, hr2, hu1, hu2, hany, hbh, hbe, hst, hup⟩ := HOk.out.each _ (List.mem_of_getElem? hx)
              rw [HT1.out] at hany hbh hbe
              obtain rfl : any = true := hany
              have htp := HOk.out.top (by rw [HT1.out])
              rw [HT1.out] at htp
              obtain ⟨q1, _, q3, q4, _, _, _⟩ := htp
              have hx3 := (rightN_true q1).2.1
              unfold fN fW at q1 hbh hbe hx3
              simp only at q1 q3 q4 hbh hbe hx3 hg hst hup
              have hr1' := right_n hr1
              have hr2' := right_n hr2
              unfold rN rW at hr1' hr2' hbh hbe hup
              simp only at hr1' hr2' hbh hbe hup
              have HGe := Lib.hid (fun (u : World) (hq : QR u A5 n5 c5 q5) => get_any A5 n5 c5 q5 a u hq)
              rw [hg] at HGe
              unfold agR at HGe
              have HB1 : Hid (∀ u, Calls Try.prog 26 #[.agg #[.int .u64 (h : Int), .int .u64 (l : Int), .int .u64 (z : Int)], .agg #[.int .u64 (t1 : Int), .int .u64 (t2 : Int), .int .u64 (t3 : Int)], .int .u64 268435456] u (Said (.bool false) u)) := Lib.hid (fun u => by
                have r := behind_call h l z t1 t2 t3 268435456 u hu1.1 hu1.2.1 hu1.2.2 q3 q4 (by omega) (by omega)
                rw [show behindB (h * 2 ^ 64 + l) z (t1 * 2 ^ 64 + t2) t3 268435456 = false by unfold behindB; rw [hr1', q1, decide_eq_false hbh]; rfl] at r
                exact r)
              have HB2 : Hid (∀ u, Calls Try.prog 26 #[.agg #[.int .u64 (e3 : Int), .int .u64 (e4 : Int), .int .u64 (e5 : Int)], .agg #[.int .u64 (t1 : Int), .int .u64 (t2 : Int), .int .u64 (t3 : Int)], .int .u64 268435456] u (Said (.bool (decide (a ∈ I1))) u)) := Lib.hid (fun u => by
                have r := behind_call e3 e4 e5 t1 t2 t3 268435456 u hu2.1 hu2.2.1 hu2.2.2 q3 q4 (by omega) (by omega)
                rw [show behindB (e3 * 2 ^ 64 + e4) e5 (t1 * 2 ^ 64 + t2) t3 268435456 = decide (a ∈ I1) by unfold behindB; rw [hr2', q1, hbe]; rfl] at r
                exact r)
              have HCq : Hid (a ∈ I1 → ∀ u, Calls Try.prog 23 #[.agg #[.int .u64 (h : Int), .int .u64 (l : Int), .int .u64 (z : Int)], .agg #[.int .u64 (e3 : Int), .int .u64 (e4 : Int), .int .u64 (e5 : Int)]] u (Said (.int .i64 1) u)) := Lib.hid (fun ha u => by
                have r := cmp_call h l z e3 e4 e5 u hu1.1 hu1.2.1 hu1.2.2 hu2.1 hu2.2.1 hu2.2.2
                rw [cmpR_yes hr1' hr2', cmpW_gt (hup ha)] at r
                exact r)
              have hid := (rightR_iff.1 hr1).1
              simp only at hid
              have hwf : (Lit.int .i64 a).wf = true := by
                rw [show a = wrap64 a by unfold wrap64; omega]
                exact wrap64_wf _
              have HLk : Hid (∀ u, Below X2.heap.size X2 u → (Instr.lookup 57 (.map (some bm)) (.int .i64 a) false).run Try.prog u = .ok (.bool (decide (a ∈ I1))) u) := Lib.hid (fun u hb => (HX.out.2.2.2.2.2.1.below hb HX.out.2.2.2.2.2.1.lt).look a hwf)
              obtain ⟨ad, rfl, hb1, d0, d1, d2, d3, d4⟩ := rn_at (HX.out.2.2.2.2.1.below hB).row hx
              have HG5 := Lib.hid (HX.out.2.2.2.1.below hB)
              have K3 := HX.out.1.below hB HX.out.1.lt
              have K4 := HX.out.2.1.below hB HX.out.2.1.lt
              have i1 : (0 : Int) ≤ (q : Int) := by omega
              have i2 : (q : Int) < (n6 : Int) := by omega
              have Hlt := Lib.hid hlt
              have hq17 : q < 17 := by have := Hn6.out; have := HN5.out; omega
              have v1 : (a != a) = false := by simp
              have v2 : (b != b) = false := by simp
              have v3 : ((h : Int) != (h : Int)) = false := by simp
              have v4 : ((l : Int) != (l : Int)) = false := by simp
              have v5 : ((z : Int) != (z : Int)) = false := by simp
              have v6 : (a == a) = true := by simp
              have v7 : (b == b) = true := by simp
              have hsz := hB.size
              have K15 := Blk.new wr 40 #[.int .i64 a, .int .i64 b, .int .u64 (h : Int), .int .u64 (l : Int), .int .u64 (z : Int)]
              replace K3 := K3.alloc (.cells #[.int .i64 a, .int .i64 b, .int .u64 (h : Int), .int .u64 (l : Int), .int .u64 (z : Int)] 40)
              replace K4 := K4.alloc (.cells #[.int .i64 a, .int .i64 b, .int .u64 (h : Int), .int .u64 (l : Int), .int .u64 (z : Int)] 40)
              replace hB := hB.alloc hsz (.cells #[.int .i64 a, .int .i64 b, .int .u64 (h : Int), .int .u64 (l : Int), .int .u64 (z : Int)] 40)
              have HG6 := Lib.hid (HG5.out.below ((Below.refl _ _).alloc (Nat.le_refl _) (.cells #[.int .i64 a, .int .i64 b, .int .u64 (h : Int), .int .u64 (l : Int), .int .u64 (z : Int)] 40)))
              by_cases hm : a ∈ I1
              · rw [decide_eq_true hm] at HB2 HLk
                have HCm := Lib.hid (HCq.out hm)
                clear hx hg hr1 hr2 hu1 hu2 hbh hbe hst hup q1 q3 q4 hx3 hr1' hr2' hid hwf hb1 hq hlt hsz HCq hm
                have z0 := K3.cell 0
                go_upto_region 20 with fail
                obtain ⟨Y2, hY⟩ : ∃ Y, wr.alloc (.cells #[.int .i64 a, .int .i64 b, .int .u64 (h : Int), .int .u64 (l : Int), .int .u64 (z : Int)] 40) = Y := ⟨_, rfl⟩
                obtain ⟨g15, hg15⟩ : ∃ g, wr.heap.size = g := ⟨_, rfl⟩
                rw [hY] at K3 K4 K15 hB HG6 z0 ⊢
                rw [hg15] at K15 ⊢
                clear hY hg15 d0 d1 d2 d3 d4
                have y0 := K15.cell 0
                have GX := Lib.hid (HGe.out _ HG6.out)
                go_wp2_with fail
                refine GX.out.mono ?_
                rintro e9 w8 ⟨rfl, h9⟩
                replace K4 := K4.below h9 K4.lt
                replace K15 := K15.below h9 K15.lt
                replace hB := hB.trans (h9.mono hB.size)
                clear h9 z0 y0 K3 GX HG6 HG5
                have K16 := Blk.new w8 40 #[.int .i64 e1, .int .i64 e2, .int .u64 (e3 : Int), .int .u64 (e4 : Int), .int .u64 (e5 : Int)]
                replace K4 := K4.alloc (.cells #[.int .i64 e1, .int .i64 e2, .int .u64 (e3 : Int), .int .u64 (e4 : Int), .int .u64 (e5 : Int)] 40)
                replace K15 := K15.alloc (.cells #[.int .i64 e1, .int .i64 e2, .int .u64 (e3 : Int), .int .u64 (e4 : Int), .int .u64 (e5 : Int)] 40)
                replace hB := hB.alloc hB.size (.cells #[.int .i64 e1, .int .i64 e2, .int .u64 (e3 : Int), .int .u64 (e4 : Int), .int .u64 (e5 : Int)] 40)
                go_upto_region 21 with fail
                obtain ⟨Y3, hY⟩ : ∃ Y, w8.alloc (.cells #[.int .i64 e1, .int .i64 e2, .int .u64 (e3 : Int), .int .u64 (e4 : Int), .int .u64 (e5 : Int)] 40) = Y := ⟨_, rfl⟩
                obtain ⟨g16, hg16⟩ : ∃ g, w8.heap.size = g := ⟨_, rfl⟩
                rw [hY] at K4 K15 K16 hB ⊢
                rw [hg16] at K16 ⊢
                clear hY hg16
                replace K4 : Blk Y3.drew _ _ _ := K4
                replace K15 : Blk Y3.drew _ _ _ := K15
                replace K16 : Blk Y3.drew _ _ _ := K16
                replace hB := hB.drew
                refine wp_region_held_drew (S := fun u => Below X2.heap.size X2 u ∧ Blk u g15 40 #[.int .i64 a, .int .i64 b, .int .u64 (h : Int), .int .u64 (l : Int), .int .u64 (z : Int)] ∧ Blk u g16 40 #[.int .i64 e1, .int .i64 e2, .int .u64 (e3 : Int), .int .u64 (e4 : Int), .int .u64 (e5 : Int)] ∧ Blk u g4 36 #[.int .u64 (t1 : Int), .int .u64 (t2 : Int), .int .u64 (t3 : Int)]) (by kernel_rfl) ⟨hB, K15, K16, K4⟩ (fun hS => ?_)
                generalize Y3.drew = V at K4 K15 K16 hB hS ⊢
                refine wpAnyH_take (i := 0) (v := .bool true) rfl (by kernel_rfl) (by kernel_rfl) (by kernel_rfl) (fun _ _ _ h => h) (Or.inl ⟨by kernel_rfl, fun u hSw => (by go_simp)⟩) hS ?_
                change wpAnyH _ _ _ _ _ _ _ (Act.put _ (some 85) _) _
                simp only [Act.put]
                try simp only [List.setIfInBounds_toArray, List.set_cons_zero, List.set_cons_succ]
                refine wpAnyH_take (i := 1) (v := .bool false) rfl (by kernel_rfl) (by kernel_rfl) (by kernel_rfl) (fun _ _ _ h => h) (Or.inl ⟨by kernel_rfl, fun u hSw => (by go_simp)⟩) hS ?_
                change wpAnyH _ _ _ _ _ _ _ (Act.put _ (some 86) _) _
                simp only [Act.put]
                try simp only [List.setIfInBounds_toArray, List.set_cons_zero, List.set_cons_succ]
                refine wpAnyH_take (i := 2) (v := .bool false) rfl (by kernel_rfl) (by kernel_rfl) (by kernel_rfl) (fun _ _ _ h => h) (Or.inl ⟨by kernel_rfl, fun u hSw => (by go_simp)⟩) hS ?_
                change wpAnyH _ _ _ _ _ _ _ (Act.put _ (some 87) _) _
                simp only [Act.put]
                try simp only [List.setIfInBounds_toArray, List.set_cons_zero, List.set_cons_succ]
                refine wpAnyH_take (i := 3) (v := .pointer (some ⟨g15, 2, none⟩)) rfl (by kernel_rfl) (by kernel_rfl) (by kernel_rfl) (fun _ _ _ h => h) (Or.inl ⟨by kernel_rfl, fun u hSw => (by go_simp)⟩) hS ?_
                change wpAnyH _ _ _ _ _ _ _ (Act.put _ (some 88) _) _
                simp only [Act.put]
                try simp only [List.setIfInBounds_toArray, List.set_cons_zero, List.set_cons_succ]
                refine wpAnyH_take (i := 4) (v := .agg #[.int .u64 (h : Int), .int .u64 (l : Int), .int .u64 (z : Int)]) rfl (by kernel_rfl) (by kernel_rfl) (by kernel_rfl) (fun _ _ _ h => h) (Or.inl ⟨by kernel_rfl, fun u hSw => (by have q0 := hSw.2.1.cell 2; have q1 := hSw.2.1.cell 3; have q2 := hSw.2.1.cell 4; go_simp)⟩) hS ?_
                change wpAnyH _ _ _ _ _ _ _ (Act.put _ (some 89) _) _
                simp only [Act.put]
                try simp only [List.setIfInBounds_toArray, List.set_cons_zero, List.set_cons_succ]
                refine wpAnyH_take (i := 5) (v := .agg #[.int .u64 (t1 : Int), .int .u64 (t2 : Int), .int .u64 (t3 : Int)]) rfl (by kernel_rfl) (by kernel_rfl) (by kernel_rfl) (fun _ _ _ h => h) (Or.inl ⟨by kernel_rfl, fun u hSw => (by have q0 := hSw.2.2.2.cell 0; have q1 := hSw.2.2.2.cell 1; have q2 := hSw.2.2.2.cell 2; go_simp)⟩) hS ?_
                change wpAnyH _ _ _ _ _ _ _ (Act.put _ (some 90) _) _
                simp only [Act.put]
                try simp only [List.setIfInBounds_toArray, List.set_cons_zero, List.set_cons_succ]
                refine wpAnyH_ready (rs := [6]) (by kernel_rfl) (by simp) ?_
                refine AllReadyH.cons rfl (fun K hK => ?_) AllReadyH.nil
                go_simp
                refine (HB1.out _).mono ?_
                rintro e1 w1 ⟨rfl, h9⟩
                replace K15 := K15.below h9 K15.lt
                replace K16 := K16.below h9 K16.lt
                replace K4 := K4.below h9 K4.lt
                replace hB := hB.trans (h9.mono hB.size)
                clear h9
                refine hK.out _ _ ⟨hB, K15, K16, K4⟩ (fun hS => ?_)
                clear hK K
                refine wpAnyH_take (i := 7) (v := .bool false) rfl (by kernel_rfl) (by kernel_rfl) (by kernel_rfl) (fun _ _ _ h => h) (Or.inl ⟨by kernel_rfl, fun u hSw => (by go_simp)⟩) hS ?_
                change wpAnyH _ _ _ _ _ _ _ (Act.put _ (some 92) _) _
                simp only [Act.put]
                try simp only [List.setIfInBounds_toArray, List.set_cons_zero, List.set_cons_succ]
                refine wpAnyH_take (i := 8) (v := .bool false) rfl (by kernel_rfl) (by kernel_rfl) (by kernel_rfl) (fun _ _ _ h => h) (Or.inl ⟨by kernel_rfl, fun u hSw => (by go_simp)⟩) hS ?_
                change wpAnyH _ _ _ _ _ _ _ (Act.put _ (some 93) _) _
                simp only [Act.put]
                try simp only [List.setIfInBounds_toArray, List.set_cons_zero, List.set_cons_succ]
                refine wpAnyH_take (i := 9) (v := .map (some bm)) rfl (by kernel_rfl) (by kernel_rfl) (by kernel_rfl) (fun _ _ _ h => h) (Or.inl ⟨by kernel_rfl, fun u hSw => (by go_simp)⟩) hS ?_
                change wpAnyH _ _ _ _ _ _ _ (Act.put _ (some 94) _) _
                simp only [Act.put]
                try simp only [List.setIfInBounds_toArray, List.set_cons_zero, List.set_cons_succ]
                refine wpAnyH_take (i := 10) (v := .pointer (some ⟨g15, 0, none⟩)) rfl (by kernel_rfl) (by kernel_rfl) (by kernel_rfl) (fun _ _ _ h => h) (Or.inl ⟨by kernel_rfl, fun u hSw => (by go_simp)⟩) hS ?_
                change wpAnyH _ _ _ _ _ _ _ (Act.put _ (some 95) _) _
                simp only [Act.put]
                try simp only [List.setIfInBounds_toArray, List.set_cons_zero, List.set_cons_succ]
                refine wpAnyH_take (i := 11) (v := .int .i64 a) rfl (by kernel_rfl) (by kernel_rfl) (by kernel_rfl) (fun _ _ _ h => h) (Or.inl ⟨by kernel_rfl, fun u hSw => (by have q0 := hSw.2.1.cell 0; go_simp)⟩) hS ?_
                change wpAnyH _ _ _ _ _ _ _ (Act.put _ (some 96) _) _
                simp only [Act.put]
                try simp only [List.setIfInBounds_toArray, List.set_cons_zero, List.set_cons_succ]
                refine wpAnyH_take (i := 12) (v := .bool true) rfl (by kernel_rfl) (by kernel_rfl) (by kernel_rfl) (fun _ _ _ h => h) (Or.inl ⟨by kernel_rfl, fun u hSw => (by have q := HLk.out u hSw.1; go_simp)⟩) hS ?_
                change wpAnyH _ _ _ _ _ _ _ (Act.put _ (some 97) _) _
                simp only [Act.put]
                try simp only [List.setIfInBounds_toArray, List.set_cons_zero, List.set_cons_succ]
                refine wpAnyH_take (i := 13) (v := .pointer (some ⟨g16, 2, none⟩)) rfl (by kernel_rfl) (by kernel_rfl) (by kernel_rfl) (fun _ _ _ h => h) (Or.inl ⟨by kernel_rfl, fun u hSw => (by go_simp)⟩) hS ?_
                change wpAnyH _ _ _ _ _ _ _ (Act.put _ (some 98) _) _
                simp only [Act.put]
                try simp only [List.setIfInBounds_toArray, List.set_cons_zero, List.set_cons_succ]
                refine wpAnyH_take (i := 14) (v := .agg #[.int .u64 (e3 : Int), .int .u64 (e4 : Int), .int .u64 (e5 : Int)]) rfl (by kernel_rfl) (by kernel_rfl) (by kernel_rfl) (fun _ _ _ h => h) (Or.inl ⟨by kernel_rfl, fun u hSw => (by have q0 := hSw.2.2.1.cell 2; have q1 := hSw.2.2.1.cell 3; have q2 := hSw.2.2.1.cell 4; go_simp)⟩) hS ?_
                change wpAnyH _ _ _ _ _ _ _ (Act.put _ (some 99) _) _
                simp only [Act.put]
                try simp only [List.setIfInBounds_toArray, List.set_cons_zero, List.set_cons_succ]
                refine wpAnyH_take (i := 15) (v := .agg #[.int .u64 (t1 : Int), .int .u64 (t2 : Int), .int .u64 (t3 : Int)]) rfl (by kernel_rfl) (by kernel_rfl) (by kernel_rfl) (fun _ _ _ h => h) (Or.inl ⟨by kernel_rfl, fun u hSw => (by have q0 := hSw.2.2.2.cell 0; have q1 := hSw.2.2.2.cell 1; have q2 := hSw.2.2.2.cell 2; go_simp)⟩) hS ?_
                change wpAnyH _ _ _ _ _ _ _ (Act.put _ (some 100) _) _
                simp only [Act.put]
                try simp only [List.setIfInBounds_toArray, List.set_cons_zero, List.set_cons_succ]
                refine wpAnyH_ready (rs := [16]) (by kernel_rfl) (by simp) ?_
                refine AllReadyH.cons rfl (fun K hK => ?_) AllReadyH.nil
                go_simp
                refine (HB2.out _).mono ?_
                rintro e2 w2 ⟨rfl, h9⟩
                replace K15 := K15.below h9 K15.lt
                replace K16 := K16.below h9 K16.lt
                replace K4 := K4.below h9 K4.lt
                replace hB := hB.trans (h9.mono hB.size)
                clear h9
                refine hK.out _ _ ⟨hB, K15, K16, K4⟩ (fun hS => ?_)
                clear hK K
                refine wpAnyH_take (i := 17) (v := .bool false) rfl (by kernel_rfl) (by kernel_rfl) (by kernel_rfl) (fun _ _ _ h => h) (Or.inl ⟨by kernel_rfl, fun u hSw => (by go_simp)⟩) hS ?_
                change wpAnyH _ _ _ _ _ _ _ (Act.put _ (some 102) _) _
                simp only [Act.put]
                try simp only [List.setIfInBounds_toArray, List.set_cons_zero, List.set_cons_succ]
                refine wpAnyH_take (i := 18) (v := .bool false) rfl (by kernel_rfl) (by kernel_rfl) (by kernel_rfl) (fun _ _ _ h => h) (Or.inl ⟨by kernel_rfl, fun u hSw => (by go_simp)⟩) hS ?_
                change wpAnyH _ _ _ _ _ _ _ (Act.put _ (some 103) _) _
                simp only [Act.put]
                try simp only [List.setIfInBounds_toArray, List.set_cons_zero, List.set_cons_succ]
                refine wpAnyH_take (i := 19) (v := .bool false) rfl (by kernel_rfl) (by kernel_rfl) (by kernel_rfl) (fun _ _ _ h => h) (Or.inl ⟨by kernel_rfl, fun u hSw => (by go_simp)⟩) hS ?_
                change wpAnyH _ _ _ _ _ _ _ (Act.put _ (some 104) _) _
                simp only [Act.put]
                try simp only [List.setIfInBounds_toArray, List.set_cons_zero, List.set_cons_succ]
                refine wpAnyH_take (i := 20) (v := .map (some bm)) rfl (by kernel_rfl) (by kernel_rfl) (by kernel_rfl) (fun _ _ _ h => h) (Or.inl ⟨by kernel_rfl, fun u hSw => (by go_simp)⟩) hS ?_
                change wpAnyH _ _ _ _ _ _ _ (Act.put _ (some 105) _) _
                simp only [Act.put]
                try simp only [List.setIfInBounds_toArray, List.set_cons_zero, List.set_cons_succ]
                refine wpAnyH_take (i := 21) (v := .pointer (some ⟨g15, 0, none⟩)) rfl (by kernel_rfl) (by kernel_rfl) (by kernel_rfl) (fun _ _ _ h => h) (Or.inl ⟨by kernel_rfl, fun u hSw => (by go_simp)⟩) hS ?_
                change wpAnyH _ _ _ _ _ _ _ (Act.put _ (some 106) _) _
                simp only [Act.put]
                try simp only [List.setIfInBounds_toArray, List.set_cons_zero, List.set_cons_succ]
                refine wpAnyH_take (i := 22) (v := .int .i64 a) rfl (by kernel_rfl) (by kernel_rfl) (by kernel_rfl) (fun _ _ _ h => h) (Or.inl ⟨by kernel_rfl, fun u hSw => (by have q0 := hSw.2.1.cell 0; go_simp)⟩) hS ?_
                change wpAnyH _ _ _ _ _ _ _ (Act.put _ (some 107) _) _
                simp only [Act.put]
                try simp only [List.setIfInBounds_toArray, List.set_cons_zero, List.set_cons_succ]
                refine wpAnyH_take (i := 23) (v := .bool true) rfl (by kernel_rfl) (by kernel_rfl) (by kernel_rfl) (fun _ _ _ h => h) (Or.inl ⟨by kernel_rfl, fun u hSw => (by have q := HLk.out u hSw.1; go_simp)⟩) hS ?_
                change wpAnyH _ _ _ _ _ _ _ (Act.put _ (some 108) _) _
                simp only [Act.put]
                try simp only [List.setIfInBounds_toArray, List.set_cons_zero, List.set_cons_succ]
                refine wpAnyH_take (i := 24) (v := .bool false) rfl (by kernel_rfl) (by kernel_rfl) (by kernel_rfl) (fun _ _ _ h => h) (Or.inl ⟨by kernel_rfl, fun u hSw => (by go_simp)⟩) hS ?_
                change wpAnyH _ _ _ _ _ _ _ (Act.put _ (some 109) _) _
                simp only [Act.put]
                try simp only [List.setIfInBounds_toArray, List.set_cons_zero, List.set_cons_succ]
                refine wpAnyH_take (i := 25) (v := .bool false) rfl (by kernel_rfl) (by kernel_rfl) (by kernel_rfl) (fun _ _ _ h => h) (Or.inl ⟨by kernel_rfl, fun u hSw => (by go_simp)⟩) hS ?_
                change wpAnyH _ _ _ _ _ _ _ (Act.put _ (some 110) _) _
                simp only [Act.put]
                try simp only [List.setIfInBounds_toArray, List.set_cons_zero, List.set_cons_succ]
                refine wpAnyH_take (i := 26) (v := undef) rfl (by kernel_rfl) (by kernel_rfl) (by kernel_rfl) (fun _ _ _ h => h) (Or.inr ⟨by kernel_rfl, rfl⟩) hS ?_
                change wpAnyH _ _ _ _ _ _ _ (Act.put _ (some 111) _) _
                simp only [Act.put]
                try simp only [List.setIfInBounds_toArray, List.set_cons_zero, List.set_cons_succ]
                refine wpAnyH_take (i := 27) (v := undef) rfl (by kernel_rfl) (by kernel_rfl) (by kernel_rfl) (fun _ _ _ h => h) (Or.inr ⟨by kernel_rfl, rfl⟩) hS ?_
                change wpAnyH _ _ _ _ _ _ _ (Act.put _ (some 112) _) _
                simp only [Act.put]
                try simp only [List.setIfInBounds_toArray, List.set_cons_zero, List.set_cons_succ]
                refine wpAnyH_take (i := 28) (v := undef) rfl (by kernel_rfl) (by kernel_rfl) (by kernel_rfl) (fun _ _ _ h => h) (Or.inr ⟨by kernel_rfl, rfl⟩) hS ?_
                change wpAnyH _ _ _ _ _ _ _ (Act.put _ (some 113) _) _
                simp only [Act.put]
                try simp only [List.setIfInBounds_toArray, List.set_cons_zero, List.set_cons_succ]
                refine wpAnyH_take (i := 29) (v := .bool false) rfl (by kernel_rfl) (by kernel_rfl) (by kernel_rfl) (fun _ _ _ h => h) (Or.inl ⟨by kernel_rfl, fun u hSw => (by go_simp)⟩) hS ?_
                change wpAnyH _ _ _ _ _ _ _ (Act.put _ (some 114) _) _
                simp only [Act.put]
                try simp only [List.setIfInBounds_toArray, List.set_cons_zero, List.set_cons_succ]
                refine wpAnyH_take (i := 30) (v := .bool false) rfl (by kernel_rfl) (by kernel_rfl) (by kernel_rfl) (fun _ _ _ h => h) (Or.inl ⟨by kernel_rfl, fun u hSw => (by go_simp)⟩) hS ?_
                change wpAnyH _ _ _ _ _ _ _ (Act.put _ (some 115) _) _
                simp only [Act.put]
                try simp only [List.setIfInBounds_toArray, List.set_cons_zero, List.set_cons_succ]
                refine wpAnyH_take (i := 31) (v := .bool false) rfl (by kernel_rfl) (by kernel_rfl) (by kernel_rfl) (fun _ _ _ h => h) (Or.inl ⟨by kernel_rfl, fun u hSw => (by go_simp)⟩) hS ?_
                change wpAnyH _ _ _ _ _ _ _ (Act.put _ (some 116) _) _
                simp only [Act.put]
                try simp only [List.setIfInBounds_toArray, List.set_cons_zero, List.set_cons_succ]
                refine wpAnyH_take (i := 32) (v := .map (some bm)) rfl (by kernel_rfl) (by kernel_rfl) (by kernel_rfl) (fun _ _ _ h => h) (Or.inl ⟨by kernel_rfl, fun u hSw => (by go_simp)⟩) hS ?_
                change wpAnyH _ _ _ _ _ _ _ (Act.put _ (some 117) _) _
                simp only [Act.put]
                try simp only [List.setIfInBounds_toArray, List.set_cons_zero, List.set_cons_succ]
                refine wpAnyH_take (i := 33) (v := .pointer (some ⟨g15, 0, none⟩)) rfl (by kernel_rfl) (by kernel_rfl) (by kernel_rfl) (fun _ _ _ h => h) (Or.inl ⟨by kernel_rfl, fun u hSw => (by go_simp)⟩) hS ?_
                change wpAnyH _ _ _ _ _ _ _ (Act.put _ (some 118) _) _
                simp only [Act.put]
                try simp only [List.setIfInBounds_toArray, List.set_cons_zero, List.set_cons_succ]
                refine wpAnyH_take (i := 34) (v := .int .i64 a) rfl (by kernel_rfl) (by kernel_rfl) (by kernel_rfl) (fun _ _ _ h => h) (Or.inl ⟨by kernel_rfl, fun u hSw => (by have q0 := hSw.2.1.cell 0; go_simp)⟩) hS ?_
                change wpAnyH _ _ _ _ _ _ _ (Act.put _ (some 119) _) _
                simp only [Act.put]
                try simp only [List.setIfInBounds_toArray, List.set_cons_zero, List.set_cons_succ]
                refine wpAnyH_take (i := 35) (v := .bool true) rfl (by kernel_rfl) (by kernel_rfl) (by kernel_rfl) (fun _ _ _ h => h) (Or.inl ⟨by kernel_rfl, fun u hSw => (by have q := HLk.out u hSw.1; go_simp)⟩) hS ?_
                change wpAnyH _ _ _ _ _ _ _ (Act.put _ (some 120) _) _
                simp only [Act.put]
                try simp only [List.setIfInBounds_toArray, List.set_cons_zero, List.set_cons_succ]
                refine wpAnyH_take (i := 36) (v := .bool true) rfl (by kernel_rfl) (by kernel_rfl) (by kernel_rfl) (fun _ _ _ h => h) (Or.inl ⟨by kernel_rfl, fun u hSw => (by go_simp)⟩) hS ?_
                change wpAnyH _ _ _ _ _ _ _ (Act.put _ (some 121) _) _
                simp only [Act.put]
                try simp only [List.setIfInBounds_toArray, List.set_cons_zero, List.set_cons_succ]
                refine wpAnyH_take (i := 37) (v := .pointer (some ⟨g15, 2, none⟩)) rfl (by kernel_rfl) (by kernel_rfl) (by kernel_rfl) (fun _ _ _ h => h) (Or.inl ⟨by kernel_rfl, fun u hSw => (by go_simp)⟩) hS ?_
                change wpAnyH _ _ _ _ _ _ _ (Act.put _ (some 122) _) _
                simp only [Act.put]
                try simp only [List.setIfInBounds_toArray, List.set_cons_zero, List.set_cons_succ]
                refine wpAnyH_take (i := 38) (v := .agg #[.int .u64 (h : Int), .int .u64 (l : Int), .int .u64 (z : Int)]) rfl (by kernel_rfl) (by kernel_rfl) (by kernel_rfl) (fun _ _ _ h => h) (Or.inl ⟨by kernel_rfl, fun u hSw => (by have q0 := hSw.2.1.cell 2; have q1 := hSw.2.1.cell 3; have q2 := hSw.2.1.cell 4; go_simp)⟩) hS ?_
                change wpAnyH _ _ _ _ _ _ _ (Act.put _ (some 123) _) _
                simp only [Act.put]
                try simp only [List.setIfInBounds_toArray, List.set_cons_zero, List.set_cons_succ]
                refine wpAnyH_take (i := 39) (v := .pointer (some ⟨g16, 2, none⟩)) rfl (by kernel_rfl) (by kernel_rfl) (by kernel_rfl) (fun _ _ _ h => h) (Or.inl ⟨by kernel_rfl, fun u hSw => (by go_simp)⟩) hS ?_
                change wpAnyH _ _ _ _ _ _ _ (Act.put _ (some 124) _) _
                simp only [Act.put]
                try simp only [List.setIfInBounds_toArray, List.set_cons_zero, List.set_cons_succ]
                refine wpAnyH_take (i := 40) (v := .agg #[.int .u64 (e3 : Int), .int .u64 (e4 : Int), .int .u64 (e5 : Int)]) rfl (by kernel_rfl) (by kernel_rfl) (by kernel_rfl) (fun _ _ _ h => h) (Or.inl ⟨by kernel_rfl, fun u hSw => (by have q0 := hSw.2.2.1.cell 2; have q1 := hSw.2.2.1.cell 3; have q2 := hSw.2.2.1.cell 4; go_simp)⟩) hS ?_
                change wpAnyH _ _ _ _ _ _ _ (Act.put _ (some 125) _) _
                simp only [Act.put]
                try simp only [List.setIfInBounds_toArray, List.set_cons_zero, List.set_cons_succ]
                refine wpAnyH_ready (rs := [41]) (by kernel_rfl) (by simp) ?_
                refine AllReadyH.cons rfl (fun K hK => ?_) AllReadyH.nil
                go_simp
                refine (HCm.out _).mono ?_
                rintro e3 w3 ⟨rfl, h9⟩
                replace K15 := K15.below h9 K15.lt
                replace K16 := K16.below h9 K16.lt
                replace K4 := K4.below h9 K4.lt
                replace hB := hB.trans (h9.mono hB.size)
                clear h9
                refine hK.out _ _ ⟨hB, K15, K16, K4⟩ (fun hS => ?_)
                clear hK K
                refine wpAnyH_take (i := 42) (v := .bool false) rfl (by kernel_rfl) (by kernel_rfl) (by kernel_rfl) (fun _ _ _ h => h) (Or.inl ⟨by kernel_rfl, fun u hSw => (by go_simp)⟩) hS ?_
                change wpAnyH _ _ _ _ _ _ _ (Act.put _ (some 127) _) _
                simp only [Act.put]
                try simp only [List.setIfInBounds_toArray, List.set_cons_zero, List.set_cons_succ]
                refine wpAnyH_take (i := 43) (v := .bool false) rfl (by kernel_rfl) (by kernel_rfl) (by kernel_rfl) (fun _ _ _ h => h) (Or.inl ⟨by kernel_rfl, fun u hSw => (by go_simp)⟩) hS ?_
                change wpAnyH _ _ _ _ _ _ _ (Act.put _ (some 128) _) _
                simp only [Act.put]
                try simp only [List.setIfInBounds_toArray, List.set_cons_zero, List.set_cons_succ]
                refine wpAnyH_take (i := 44) (v := .bool false) rfl (by kernel_rfl) (by kernel_rfl) (by kernel_rfl) (fun _ _ _ h => h) (Or.inl ⟨by kernel_rfl, fun u hSw => (by go_simp)⟩) hS ?_
                change wpAnyH _ _ _ _ _ _ _ (Act.put _ (some 129) _) _
                simp only [Act.put]
                try simp only [List.setIfInBounds_toArray, List.set_cons_zero, List.set_cons_succ]
                refine wpAnyH_done (by kernel_rfl) ?_ _
                clear hS
                have Hx := Lib.hid hB
                clear hB K15 K16 K4
                go_wp2_with fail
                go_roundw
                case rel => exact ⟨q + 1, Hlt.out, by go_num, Hx.out⟩
                case measure => have := Hlt.out; simp [intOf] <;> omega
              · rw [decide_eq_false hm] at HB2 HLk
                have hst2 := hst hm
                simp only [Prod.mk.injEq] at hst2
                obtain ⟨rfl, rfl, rfl, rfl, rfl⟩ := hst2
                clear hx hg hr1 hr2 hu1 hu2 hbh hbe hst hup q1 q3 q4 hx3 hr1' hr2' hid hwf hb1 hq hlt hsz HCq hm
                have z0 := K3.cell 0
                go_upto_region 20 with fail
                obtain ⟨Y2, hY⟩ : ∃ Y, wr.alloc (.cells #[.int .i64 a, .int .i64 b, .int .u64 (h : Int), .int .u64 (l : Int), .int .u64 (z : Int)] 40) = Y := ⟨_, rfl⟩
                obtain ⟨g15, hg15⟩ : ∃ g, wr.heap.size = g := ⟨_, rfl⟩
                rw [hY] at K3 K4 K15 hB HG6 z0 ⊢
                rw [hg15] at K15 ⊢
                clear hY hg15 d0 d1 d2 d3 d4
                have y0 := K15.cell 0
                have GX := Lib.hid (HGe.out _ HG6.out)
                go_wp2_with fail
                refine GX.out.mono ?_
                rintro e9 w8 ⟨rfl, h9⟩
                replace K4 := K4.below h9 K4.lt
                replace K15 := K15.below h9 K15.lt
                replace hB := hB.trans (h9.mono hB.size)
                clear h9 z0 y0 K3 GX HG6 HG5
                have K16 := Blk.new w8 40 #[.int .i64 a, .int .i64 b, .int .u64 (h : Int), .int .u64 (l : Int), .int .u64 (z : Int)]
                replace K4 := K4.alloc (.cells #[.int .i64 a, .int .i64 b, .int .u64 (h : Int), .int .u64 (l : Int), .int .u64 (z : Int)] 40)
                replace K15 := K15.alloc (.cells #[.int .i64 a, .int .i64 b, .int .u64 (h : Int), .int .u64 (l : Int), .int .u64 (z : Int)] 40)
                replace hB := hB.alloc hB.size (.cells #[.int .i64 a, .int .i64 b, .int .u64 (h : Int), .int .u64 (l : Int), .int .u64 (z : Int)] 40)
                go_upto_region 21 with fail
                obtain ⟨Y3, hY⟩ : ∃ Y, w8.alloc (.cells #[.int .i64 a, .int .i64 b, .int .u64 (h : Int), .int .u64 (l : Int), .int .u64 (z : Int)] 40) = Y := ⟨_, rfl⟩
                obtain ⟨g16, hg16⟩ : ∃ g, w8.heap.size = g := ⟨_, rfl⟩
                rw [hY] at K4 K15 K16 hB ⊢
                rw [hg16] at K16 ⊢
                clear hY hg16
                replace K4 : Blk Y3.drew _ _ _ := K4
                replace K15 : Blk Y3.drew _ _ _ := K15
                replace K16 : Blk Y3.drew _ _ _ := K16
                replace hB := hB.drew
                refine wp_region_held_drew (S := fun u => Below X2.heap.size X2 u ∧ Blk u g15 40 #[.int .i64 a, .int .i64 b, .int .u64 (h : Int), .int .u64 (l : Int), .int .u64 (z : Int)] ∧ Blk u g16 40 #[.int .i64 a, .int .i64 b, .int .u64 (h : Int), .int .u64 (l : Int), .int .u64 (z : Int)] ∧ Blk u g4 36 #[.int .u64 (t1 : Int), .int .u64 (t2 : Int), .int .u64 (t3 : Int)]) (by kernel_rfl) ⟨hB, K15, K16, K4⟩ (fun hS => ?_)
                generalize Y3.drew = V at K4 K15 K16 hB hS ⊢
                refine wpAnyH_take (i := 0) (v := .bool true) rfl (by kernel_rfl) (by kernel_rfl) (by kernel_rfl) (fun _ _ _ h => h) (Or.inl ⟨by kernel_rfl, fun u hSw => (by go_simp)⟩) hS ?_
                change wpAnyH _ _ _ _ _ _ _ (Act.put _ (some 85) _) _
                simp only [Act.put]
                try simp only [List.setIfInBounds_toArray, List.set_cons_zero, List.set_cons_succ]
                refine wpAnyH_take (i := 1) (v := .bool false) rfl (by kernel_rfl) (by kernel_rfl) (by kernel_rfl) (fun _ _ _ h => h) (Or.inl ⟨by kernel_rfl, fun u hSw => (by go_simp)⟩) hS ?_
                change wpAnyH _ _ _ _ _ _ _ (Act.put _ (some 86) _) _
                simp only [Act.put]
                try simp only [List.setIfInBounds_toArray, List.set_cons_zero, List.set_cons_succ]
                refine wpAnyH_take (i := 2) (v := .bool false) rfl (by kernel_rfl) (by kernel_rfl) (by kernel_rfl) (fun _ _ _ h => h) (Or.inl ⟨by kernel_rfl, fun u hSw => (by go_simp)⟩) hS ?_
                change wpAnyH _ _ _ _ _ _ _ (Act.put _ (some 87) _) _
                simp only [Act.put]
                try simp only [List.setIfInBounds_toArray, List.set_cons_zero, List.set_cons_succ]
                refine wpAnyH_take (i := 3) (v := .pointer (some ⟨g15, 2, none⟩)) rfl (by kernel_rfl) (by kernel_rfl) (by kernel_rfl) (fun _ _ _ h => h) (Or.inl ⟨by kernel_rfl, fun u hSw => (by go_simp)⟩) hS ?_
                change wpAnyH _ _ _ _ _ _ _ (Act.put _ (some 88) _) _
                simp only [Act.put]
                try simp only [List.setIfInBounds_toArray, List.set_cons_zero, List.set_cons_succ]
                refine wpAnyH_take (i := 4) (v := .agg #[.int .u64 (h : Int), .int .u64 (l : Int), .int .u64 (z : Int)]) rfl (by kernel_rfl) (by kernel_rfl) (by kernel_rfl) (fun _ _ _ h => h) (Or.inl ⟨by kernel_rfl, fun u hSw => (by have q0 := hSw.2.1.cell 2; have q1 := hSw.2.1.cell 3; have q2 := hSw.2.1.cell 4; go_simp)⟩) hS ?_
                change wpAnyH _ _ _ _ _ _ _ (Act.put _ (some 89) _) _
                simp only [Act.put]
                try simp only [List.setIfInBounds_toArray, List.set_cons_zero, List.set_cons_succ]
                refine wpAnyH_take (i := 5) (v := .agg #[.int .u64 (t1 : Int), .int .u64 (t2 : Int), .int .u64 (t3 : Int)]) rfl (by kernel_rfl) (by kernel_rfl) (by kernel_rfl) (fun _ _ _ h => h) (Or.inl ⟨by kernel_rfl, fun u hSw => (by have q0 := hSw.2.2.2.cell 0; have q1 := hSw.2.2.2.cell 1; have q2 := hSw.2.2.2.cell 2; go_simp)⟩) hS ?_
                change wpAnyH _ _ _ _ _ _ _ (Act.put _ (some 90) _) _
                simp only [Act.put]
                try simp only [List.setIfInBounds_toArray, List.set_cons_zero, List.set_cons_succ]
                refine wpAnyH_ready (rs := [6]) (by kernel_rfl) (by simp) ?_
                refine AllReadyH.cons rfl (fun K hK => ?_) AllReadyH.nil
                go_simp
                refine (HB1.out _).mono ?_
                rintro e1 w1 ⟨rfl, h9⟩
                replace K15 := K15.below h9 K15.lt
                replace K16 := K16.below h9 K16.lt
                replace K4 := K4.below h9 K4.lt
                replace hB := hB.trans (h9.mono hB.size)
                clear h9
                refine hK.out _ _ ⟨hB, K15, K16, K4⟩ (fun hS => ?_)
                clear hK K
                refine wpAnyH_take (i := 7) (v := .bool false) rfl (by kernel_rfl) (by kernel_rfl) (by kernel_rfl) (fun _ _ _ h => h) (Or.inl ⟨by kernel_rfl, fun u hSw => (by go_simp)⟩) hS ?_
                change wpAnyH _ _ _ _ _ _ _ (Act.put _ (some 92) _) _
                simp only [Act.put]
                try simp only [List.setIfInBounds_toArray, List.set_cons_zero, List.set_cons_succ]
                refine wpAnyH_take (i := 8) (v := .bool false) rfl (by kernel_rfl) (by kernel_rfl) (by kernel_rfl) (fun _ _ _ h => h) (Or.inl ⟨by kernel_rfl, fun u hSw => (by go_simp)⟩) hS ?_
                change wpAnyH _ _ _ _ _ _ _ (Act.put _ (some 93) _) _
                simp only [Act.put]
                try simp only [List.setIfInBounds_toArray, List.set_cons_zero, List.set_cons_succ]
                refine wpAnyH_take (i := 9) (v := .map (some bm)) rfl (by kernel_rfl) (by kernel_rfl) (by kernel_rfl) (fun _ _ _ h => h) (Or.inl ⟨by kernel_rfl, fun u hSw => (by go_simp)⟩) hS ?_
                change wpAnyH _ _ _ _ _ _ _ (Act.put _ (some 94) _) _
                simp only [Act.put]
                try simp only [List.setIfInBounds_toArray, List.set_cons_zero, List.set_cons_succ]
                refine wpAnyH_take (i := 10) (v := .pointer (some ⟨g15, 0, none⟩)) rfl (by kernel_rfl) (by kernel_rfl) (by kernel_rfl) (fun _ _ _ h => h) (Or.inl ⟨by kernel_rfl, fun u hSw => (by go_simp)⟩) hS ?_
                change wpAnyH _ _ _ _ _ _ _ (Act.put _ (some 95) _) _
                simp only [Act.put]
                try simp only [List.setIfInBounds_toArray, List.set_cons_zero, List.set_cons_succ]
                refine wpAnyH_take (i := 11) (v := .int .i64 a) rfl (by kernel_rfl) (by kernel_rfl) (by kernel_rfl) (fun _ _ _ h => h) (Or.inl ⟨by kernel_rfl, fun u hSw => (by have q0 := hSw.2.1.cell 0; go_simp)⟩) hS ?_
                change wpAnyH _ _ _ _ _ _ _ (Act.put _ (some 96) _) _
                simp only [Act.put]
                try simp only [List.setIfInBounds_toArray, List.set_cons_zero, List.set_cons_succ]
                refine wpAnyH_take (i := 12) (v := .bool false) rfl (by kernel_rfl) (by kernel_rfl) (by kernel_rfl) (fun _ _ _ h => h) (Or.inl ⟨by kernel_rfl, fun u hSw => (by have q := HLk.out u hSw.1; go_simp)⟩) hS ?_
                change wpAnyH _ _ _ _ _ _ _ (Act.put _ (some 97) _) _
                simp only [Act.put]
                try simp only [List.setIfInBounds_toArray, List.set_cons_zero, List.set_cons_succ]
                refine wpAnyH_take (i := 13) (v := .pointer (some ⟨g16, 2, none⟩)) rfl (by kernel_rfl) (by kernel_rfl) (by kernel_rfl) (fun _ _ _ h => h) (Or.inl ⟨by kernel_rfl, fun u hSw => (by go_simp)⟩) hS ?_
                change wpAnyH _ _ _ _ _ _ _ (Act.put _ (some 98) _) _
                simp only [Act.put]
                try simp only [List.setIfInBounds_toArray, List.set_cons_zero, List.set_cons_succ]
                refine wpAnyH_take (i := 14) (v := .agg #[.int .u64 (h : Int), .int .u64 (l : Int), .int .u64 (z : Int)]) rfl (by kernel_rfl) (by kernel_rfl) (by kernel_rfl) (fun _ _ _ h => h) (Or.inl ⟨by kernel_rfl, fun u hSw => (by have q0 := hSw.2.2.1.cell 2; have q1 := hSw.2.2.1.cell 3; have q2 := hSw.2.2.1.cell 4; go_simp)⟩) hS ?_
                change wpAnyH _ _ _ _ _ _ _ (Act.put _ (some 99) _) _
                simp only [Act.put]
                try simp only [List.setIfInBounds_toArray, List.set_cons_zero, List.set_cons_succ]
                refine wpAnyH_take (i := 15) (v := .agg #[.int .u64 (t1 : Int), .int .u64 (t2 : Int), .int .u64 (t3 : Int)]) rfl (by kernel_rfl) (by kernel_rfl) (by kernel_rfl) (fun _ _ _ h => h) (Or.inl ⟨by kernel_rfl, fun u hSw => (by have q0 := hSw.2.2.2.cell 0; have q1 := hSw.2.2.2.cell 1; have q2 := hSw.2.2.2.cell 2; go_simp)⟩) hS ?_
                change wpAnyH _ _ _ _ _ _ _ (Act.put _ (some 100) _) _
                simp only [Act.put]
                try simp only [List.setIfInBounds_toArray, List.set_cons_zero, List.set_cons_succ]
                refine wpAnyH_ready (rs := [16]) (by kernel_rfl) (by simp) ?_
                refine AllReadyH.cons rfl (fun K hK => ?_) AllReadyH.nil
                go_simp
                refine (HB2.out _).mono ?_
                rintro e2 w2 ⟨rfl, h9⟩
                replace K15 := K15.below h9 K15.lt
                replace K16 := K16.below h9 K16.lt
                replace K4 := K4.below h9 K4.lt
                replace hB := hB.trans (h9.mono hB.size)
                clear h9
                refine hK.out _ _ ⟨hB, K15, K16, K4⟩ (fun hS => ?_)
                clear hK K
                refine wpAnyH_take (i := 17) (v := .bool false) rfl (by kernel_rfl) (by kernel_rfl) (by kernel_rfl) (fun _ _ _ h => h) (Or.inl ⟨by kernel_rfl, fun u hSw => (by go_simp)⟩) hS ?_
                change wpAnyH _ _ _ _ _ _ _ (Act.put _ (some 102) _) _
                simp only [Act.put]
                try simp only [List.setIfInBounds_toArray, List.set_cons_zero, List.set_cons_succ]
                refine wpAnyH_take (i := 18) (v := .bool false) rfl (by kernel_rfl) (by kernel_rfl) (by kernel_rfl) (fun _ _ _ h => h) (Or.inl ⟨by kernel_rfl, fun u hSw => (by go_simp)⟩) hS ?_
                change wpAnyH _ _ _ _ _ _ _ (Act.put _ (some 103) _) _
                simp only [Act.put]
                try simp only [List.setIfInBounds_toArray, List.set_cons_zero, List.set_cons_succ]
                refine wpAnyH_take (i := 19) (v := .bool false) rfl (by kernel_rfl) (by kernel_rfl) (by kernel_rfl) (fun _ _ _ h => h) (Or.inl ⟨by kernel_rfl, fun u hSw => (by go_simp)⟩) hS ?_
                change wpAnyH _ _ _ _ _ _ _ (Act.put _ (some 104) _) _
                simp only [Act.put]
                try simp only [List.setIfInBounds_toArray, List.set_cons_zero, List.set_cons_succ]
                refine wpAnyH_take (i := 20) (v := .map (some bm)) rfl (by kernel_rfl) (by kernel_rfl) (by kernel_rfl) (fun _ _ _ h => h) (Or.inl ⟨by kernel_rfl, fun u hSw => (by go_simp)⟩) hS ?_
                change wpAnyH _ _ _ _ _ _ _ (Act.put _ (some 105) _) _
                simp only [Act.put]
                try simp only [List.setIfInBounds_toArray, List.set_cons_zero, List.set_cons_succ]
                refine wpAnyH_take (i := 21) (v := .pointer (some ⟨g15, 0, none⟩)) rfl (by kernel_rfl) (by kernel_rfl) (by kernel_rfl) (fun _ _ _ h => h) (Or.inl ⟨by kernel_rfl, fun u hSw => (by go_simp)⟩) hS ?_
                change wpAnyH _ _ _ _ _ _ _ (Act.put _ (some 106) _) _
                simp only [Act.put]
                try simp only [List.setIfInBounds_toArray, List.set_cons_zero, List.set_cons_succ]
                refine wpAnyH_take (i := 22) (v := .int .i64 a) rfl (by kernel_rfl) (by kernel_rfl) (by kernel_rfl) (fun _ _ _ h => h) (Or.inl ⟨by kernel_rfl, fun u hSw => (by have q0 := hSw.2.1.cell 0; go_simp)⟩) hS ?_
                change wpAnyH _ _ _ _ _ _ _ (Act.put _ (some 107) _) _
                simp only [Act.put]
                try simp only [List.setIfInBounds_toArray, List.set_cons_zero, List.set_cons_succ]
                refine wpAnyH_take (i := 23) (v := .bool false) rfl (by kernel_rfl) (by kernel_rfl) (by kernel_rfl) (fun _ _ _ h => h) (Or.inl ⟨by kernel_rfl, fun u hSw => (by have q := HLk.out u hSw.1; go_simp)⟩) hS ?_
                change wpAnyH _ _ _ _ _ _ _ (Act.put _ (some 108) _) _
                simp only [Act.put]
                try simp only [List.setIfInBounds_toArray, List.set_cons_zero, List.set_cons_succ]
                refine wpAnyH_take (i := 24) (v := .bool true) rfl (by kernel_rfl) (by kernel_rfl) (by kernel_rfl) (fun _ _ _ h => h) (Or.inl ⟨by kernel_rfl, fun u hSw => (by go_simp)⟩) hS ?_
                change wpAnyH _ _ _ _ _ _ _ (Act.put _ (some 109) _) _
                simp only [Act.put]
                try simp only [List.setIfInBounds_toArray, List.set_cons_zero, List.set_cons_succ]
                refine wpAnyH_take (i := 25) (v := .bool true) rfl (by kernel_rfl) (by kernel_rfl) (by kernel_rfl) (fun _ _ _ h => h) (Or.inl ⟨by kernel_rfl, fun u hSw => (by go_simp)⟩) hS ?_
                change wpAnyH _ _ _ _ _ _ _ (Act.put _ (some 110) _) _
                simp only [Act.put]
                try simp only [List.setIfInBounds_toArray, List.set_cons_zero, List.set_cons_succ]
                refine wpAnyH_take (i := 26) (v := .agg #[.int .i64 a, .int .i64 b, .int .u64 (h : Int), .int .u64 (l : Int), .int .u64 (z : Int)]) rfl (by kernel_rfl) (by kernel_rfl) (by kernel_rfl) (fun _ _ _ h => h) (Or.inl ⟨by kernel_rfl, fun u hSw => (by have q0 := hSw.2.1.cell 0; have q1 := hSw.2.1.cell 1; have q2 := hSw.2.1.cell 2; have q3 := hSw.2.1.cell 3; have q4 := hSw.2.1.cell 4; go_simp)⟩) hS ?_
                change wpAnyH _ _ _ _ _ _ _ (Act.put _ (some 111) _) _
                simp only [Act.put]
                try simp only [List.setIfInBounds_toArray, List.set_cons_zero, List.set_cons_succ]
                refine wpAnyH_take (i := 27) (v := .agg #[.int .i64 a, .int .i64 b, .int .u64 (h : Int), .int .u64 (l : Int), .int .u64 (z : Int)]) rfl (by kernel_rfl) (by kernel_rfl) (by kernel_rfl) (fun _ _ _ h => h) (Or.inl ⟨by kernel_rfl, fun u hSw => (by have q0 := hSw.2.2.1.cell 0; have q1 := hSw.2.2.1.cell 1; have q2 := hSw.2.2.1.cell 2; have q3 := hSw.2.2.1.cell 3; have q4 := hSw.2.2.1.cell 4; go_simp)⟩) hS ?_
                change wpAnyH _ _ _ _ _ _ _ (Act.put _ (some 112) _) _
                simp only [Act.put]
                try simp only [List.setIfInBounds_toArray, List.set_cons_zero, List.set_cons_succ]
                refine wpAnyH_take (i := 28) (v := .bool false) rfl (by kernel_rfl) (by kernel_rfl) (by kernel_rfl) (fun _ _ _ h => h) (Or.inl ⟨by kernel_rfl, fun u hSw => (by go_simp)⟩) hS ?_
                change wpAnyH _ _ _ _ _ _ _ (Act.put _ (some 113) _) _
                simp only [Act.put]
                try simp only [List.setIfInBounds_toArray, List.set_cons_zero, List.set_cons_succ]
                refine wpAnyH_take (i := 29) (v := .bool false) rfl (by kernel_rfl) (by kernel_rfl) (by kernel_rfl) (fun _ _ _ h => h) (Or.inl ⟨by kernel_rfl, fun u hSw => (by go_simp)⟩) hS ?_
                change wpAnyH _ _ _ _ _ _ _ (Act.put _ (some 114) _) _
                simp only [Act.put]
                try simp only [List.setIfInBounds_toArray, List.set_cons_zero, List.set_cons_succ]
                refine wpAnyH_take (i := 30) (v := .bool false) rfl (by kernel_rfl) (by kernel_rfl) (by kernel_rfl) (fun _ _ _ h => h) (Or.inl ⟨by kernel_rfl, fun u hSw => (by go_simp)⟩) hS ?_
                change wpAnyH _ _ _ _ _ _ _ (Act.put _ (some 115) _) _
                simp only [Act.put]
                try simp only [List.setIfInBounds_toArray, List.set_cons_zero, List.set_cons_succ]
                refine wpAnyH_take (i := 31) (v := .bool false) rfl (by kernel_rfl) (by kernel_rfl) (by kernel_rfl) (fun _ _ _ h => h) (Or.inl ⟨by kernel_rfl, fun u hSw => (by go_simp)⟩) hS ?_
                change wpAnyH _ _ _ _ _ _ _ (Act.put _ (some 116) _) _
                simp only [Act.put]
                try simp only [List.setIfInBounds_toArray, List.set_cons_zero, List.set_cons_succ]
                refine wpAnyH_take (i := 32) (v := .map (some bm)) rfl (by kernel_rfl) (by kernel_rfl) (by kernel_rfl) (fun _ _ _ h => h) (Or.inl ⟨by kernel_rfl, fun u hSw => (by go_simp)⟩) hS ?_
                change wpAnyH _ _ _ _ _ _ _ (Act.put _ (some 117) _) _
                simp only [Act.put]
                try simp only [List.setIfInBounds_toArray, List.set_cons_zero, List.set_cons_succ]
                refine wpAnyH_take (i := 33) (v := .pointer (some ⟨g15, 0, none⟩)) rfl (by kernel_rfl) (by kernel_rfl) (by kernel_rfl) (fun _ _ _ h => h) (Or.inl ⟨by kernel_rfl, fun u hSw => (by go_simp)⟩) hS ?_
                change wpAnyH _ _ _ _ _ _ _ (Act.put _ (some 118) _) _
                simp only [Act.put]
                try simp only [List.setIfInBounds_toArray, List.set_cons_zero, List.set_cons_succ]
                refine wpAnyH_take (i := 34) (v := .int .i64 a) rfl (by kernel_rfl) (by kernel_rfl) (by kernel_rfl) (fun _ _ _ h => h) (Or.inl ⟨by kernel_rfl, fun u hSw => (by have q0 := hSw.2.1.cell 0; go_simp)⟩) hS ?_
                change wpAnyH _ _ _ _ _ _ _ (Act.put _ (some 119) _) _
                simp only [Act.put]
                try simp only [List.setIfInBounds_toArray, List.set_cons_zero, List.set_cons_succ]
                refine wpAnyH_take (i := 35) (v := .bool false) rfl (by kernel_rfl) (by kernel_rfl) (by kernel_rfl) (fun _ _ _ h => h) (Or.inl ⟨by kernel_rfl, fun u hSw => (by have q := HLk.out u hSw.1; go_simp)⟩) hS ?_
                change wpAnyH _ _ _ _ _ _ _ (Act.put _ (some 120) _) _
                simp only [Act.put]
                try simp only [List.setIfInBounds_toArray, List.set_cons_zero, List.set_cons_succ]
                refine wpAnyH_take (i := 36) (v := .bool false) rfl (by kernel_rfl) (by kernel_rfl) (by kernel_rfl) (fun _ _ _ h => h) (Or.inl ⟨by kernel_rfl, fun u hSw => (by go_simp)⟩) hS ?_
                change wpAnyH _ _ _ _ _ _ _ (Act.put _ (some 121) _) _
                simp only [Act.put]
                try simp only [List.setIfInBounds_toArray, List.set_cons_zero, List.set_cons_succ]
                refine wpAnyH_take (i := 37) (v := undef) rfl (by kernel_rfl) (by kernel_rfl) (by kernel_rfl) (fun _ _ _ h => h) (Or.inr ⟨by kernel_rfl, rfl⟩) hS ?_
                change wpAnyH _ _ _ _ _ _ _ (Act.put _ (some 122) _) _
                simp only [Act.put]
                try simp only [List.setIfInBounds_toArray, List.set_cons_zero, List.set_cons_succ]
                refine wpAnyH_take (i := 38) (v := undef) rfl (by kernel_rfl) (by kernel_rfl) (by kernel_rfl) (fun _ _ _ h => h) (Or.inr ⟨by kernel_rfl, rfl⟩) hS ?_
                change wpAnyH _ _ _ _ _ _ _ (Act.put _ (some 123) _) _
                simp only [Act.put]
                try simp only [List.setIfInBounds_toArray, List.set_cons_zero, List.set_cons_succ]
                refine wpAnyH_take (i := 39) (v := undef) rfl (by kernel_rfl) (by kernel_rfl) (by kernel_rfl) (fun _ _ _ h => h) (Or.inr ⟨by kernel_rfl, rfl⟩) hS ?_
                change wpAnyH _ _ _ _ _ _ _ (Act.put _ (some 124) _) _
                simp only [Act.put]
                try simp only [List.setIfInBounds_toArray, List.set_cons_zero, List.set_cons_succ]
                refine wpAnyH_take (i := 40) (v := undef) rfl (by kernel_rfl) (by kernel_rfl) (by kernel_rfl) (fun _ _ _ h => h) (Or.inr ⟨by kernel_rfl, rfl⟩) hS ?_
                change wpAnyH _ _ _ _ _ _ _ (Act.put _ (some 125) _) _
                simp only [Act.put]
                try simp only [List.setIfInBounds_toArray, List.set_cons_zero, List.set_cons_succ]
                refine wpAnyH_take (i := 41) (v := undef) rfl (by kernel_rfl) (by kernel_rfl) (by kernel_rfl) (fun _ _ _ h => h) (Or.inr ⟨by kernel_rfl, rfl⟩) hS ?_
                change wpAnyH _ _ _ _ _ _ _ (Act.put _ (some 126) _) _
                simp only [Act.put]
                try simp only [List.setIfInBounds_toArray, List.set_cons_zero, List.set_cons_succ]
                refine wpAnyH_take (i := 42) (v := undef) rfl (by kernel_rfl) (by kernel_rfl) (by kernel_rfl) (fun _ _ _ h => h) (Or.inr ⟨by kernel_rfl, rfl⟩) hS ?_
                change wpAnyH _ _ _ _ _ _ _ (Act.put _ (some 127) _) _
                simp only [Act.put]
                try simp only [List.setIfInBounds_toArray, List.set_cons_zero, List.set_cons_succ]
                refine wpAnyH_take (i := 43) (v := .bool false) rfl (by kernel_rfl) (by kernel_rfl) (by kernel_rfl) (fun _ _ _ h => h) (Or.inl ⟨by kernel_rfl, fun u hSw => (by go_simp)⟩) hS ?_
                change wpAnyH _ _ _ _ _ _ _ (Act.put _ (some 128) _) _
                simp only [Act.put]
                try simp only [List.setIfInBounds_toArray, List.set_cons_zero, List.set_cons_succ]
                refine wpAnyH_take (i := 44) (v := .bool false) rfl (by kernel_rfl) (by kernel_rfl) (by kernel_rfl) (fun _ _ _ h => h) (Or.inl ⟨by kernel_rfl, fun u hSw => (by go_simp)⟩) hS ?_
                change wpAnyH _ _ _ _ _ _ _ (Act.put _ (some 129) _) _
                simp only [Act.put]
                try simp only [List.setIfInBounds_toArray, List.set_cons_zero, List.set_cons_succ]
                refine wpAnyH_done (by kernel_rfl) ?_ _
                clear hS
                have Hx := Lib.hid hB
                clear hB K15 K16 K4
                go_wp2_with fail
                go_roundw
                case rel => exact ⟨q + 1, Hlt.out, by go_num, Hx.out⟩
                case measure => have := Hlt.out; simp [intOf] <;> omega
            · obtain rfl : q = n6 := by omega
              have K3 := HX.out.1.below hB HX.out.1.lt
              have K6 := HX.out.2.2.1.below hB HX.out.2.2.1.lt
              have G6 := HX.out.2.2.2.2.1.below hB
              have GB := HX.out.2.2.2.2.2.2.trans (hB.mono HSz.out)
              have HCl := Lib.hid (clip_any A6 q c6 L1 _ G6 (by have := HN5.out; have := Hn6.out; omega))
              rw [HOk.out.again] at HCl
              have hle : ((q : Int) == (n5 : Int)) = true := by rw [Hn6.out]; simp
              have z0 := K6.cell 0
              clear hB hq hlt
              go_wp2_with fail
              refine HCl.out.mono ?_
              rintro e9 w9 ⟨A7, n7, c7, B7, m7, d7, rfl, hl7, own7, hl8, _, h9⟩
              obtain rfl : 0 = m7 := hl8
              obtain rfl : q = n7 := by rw [← hl7, HOk.out.len, HL5.out]; exact Hn6.out
              replace K3 := K3.below h9 K3.lt
              replace K6 := K6.below h9 K6.lt
              replace G6 := G6.below h9
              replace GB := GB.trans (h9.mono GB.size)
              clear h9 z0 HCl
              have K18 := Blk.new w9 26 #[.slice A7 q c7]
              replace K3 := K3.alloc (.cells #[.slice A7 q c7] 26)
              replace K6 := K6.alloc (.cells #[.slice A7 q c7] 26)
              replace G6 := G6.below ((Below.refl _ _).alloc (Nat.le_refl _) (.cells #[.slice A7 q c7] 26))
              replace GB := GB.alloc GB.size (.cells #[.slice A7 q c7] 26)
              replace own7 := own7.alloc (.cells #[.slice A7 q c7] 26)
              have G7 := qr_own own7 (by have := Hn6.out; have := HN5.out; omega) HOk.out.uq
              have HSm := Lib.hid (same_self A7 q c7 A6 c6 L1 _ G7 G6)
              have z0 := K6.cell 0
              have z1 := K18.cell 0
              clear own7 G7 G6 hl7
              go_wp2_with fail
              refine HSm.out.mono ?_
              rintro e9 w10 ⟨rfl, h9⟩
              replace K3 := K3.below h9 K3.lt
              replace K6 := K6.below h9 K6.lt
              have HE := Lib.hid (GB.trans (h9.mono GB.size))
              clear h9 z0 z1 K18 GB HSm
              have z0 := K6.cell 0
              have z1 := K3.cell 0
              go_wp2
              go_ret
              exact ⟨rfl, HE.out⟩
  · have e1 : (E1 != 0) = true := by simp [hE]
    have hb := clip_bad (qs := q5) (by rw [HC1.out]; exact hE)
    rw [HC1.out] at hb
    obtain ⟨rfl, rfl⟩ := hb
    obtain rfl : 0 = n6 := hl6
    obtain rfl : 0 = m6 := hli
    have z0 := K6.cell 0
    have HE := Lib.hid GB
    clear hE GB K3 K4 K6 G5 own6 ownI
    go_wp2
    go_ret
    exact ⟨rfl, HE.out⟩
end Go.Proofs.Ytfgabmelmopgdaa
