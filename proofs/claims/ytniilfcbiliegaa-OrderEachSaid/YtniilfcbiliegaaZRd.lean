/-
  OrderEach's walk: each runner is in one entity; each entity stands ahead of those behind it. No statement is proved here.
-/
import Derived.Test.YtniilfcbiliegaaZRc
import Derived.Test.YtniilfcbiliegaaZQf
namespace Go.Proofs.Ytniilfcbiliegaa
open Go.RowKit Go.Maps

theorem sum_small {l : List En} {k : Nat} (hk : k ≤ 16) (h : ∀ e ∈ l, (et e).1.length ≤ 16) : sumM (l.take k) ≤ 1000 := by
  have h1 : ∀ m : List En, (∀ e ∈ m, (et e).1.length ≤ 16) → sumM m ≤ 16 * m.length := by
    intro m
    induction m with
    | nil => intro _; exact Nat.le_refl _
    | cons a m ih =>
      intro hm
      have h2 := ih fun e he => hm e (by simp [he])
      have h3 : a.1.2.2.2.length ≤ 16 := hm a (by simp)
      unfold sumM at h2 ⊢
      rw [List.map_cons, List.sum_cons, List.length_cons]
      omega
  have h2 := h1 (l.take k) fun e he => h e (List.mem_of_mem_take he)
  rw [List.length_take] at h2
  omega

set_option maxRecDepth 100000 in
set_option maxHeartbeats 16000000 in
theorem each_walk (A : Option Addr) (n c : Nat) (qs : List Rn) (A' : Option Addr) (n' c' : Nat) (ws : List Wt) (A2 : Option Addr) (n2 c2 : Nat) (gs : List Gg) (w : World) (hR : RA w A n c qs A' n' c' ws A2 n2 gs) :
    Calls Try.prog 6 #[.agg #[.slice A n c, .slice A' n' c', .slice A2 n2 c2]] w (Said (.bool true) w) := by
  have HSh := Lib.hid (fun (u : World) (h : Below w.heap.size w u) => short_any A n c qs A' n' c' ws A2 n2 c2 gs u ((hR.q.below h).more h.size) hR.qc ((hR.w.below h).more h.size) hR.wc (hR.g.below h))
  obtain ⟨q5, hq5⟩ : ∃ k, qs.take 17 = k := ⟨_, rfl⟩
  obtain ⟨w5, hw5⟩ : ∃ k, ws.take 17 = k := ⟨_, rfl⟩
  have HU5 : Hid (UQ q5) := Lib.hid (by rw [← hq5]; exact take_uq hR.qu 17)
  have HW5 : Hid (∀ x ∈ w5, x.2.1 < 2 ^ 64) := Lib.hid (by rw [← hw5]; exact take_wu hR.wu 17)
  unfold Short at HSh
  rw [hq5, hw5] at HSh
  obtain ⟨K0, GB⟩ := box1 w 30 #[.slice A n c, .slice A' n' c', .slice A2 n2 c2]
  clear hR hq5 hw5
  go_enter Try.func6, Try.ntmps6
  go_upto_region 1 with fail
  obtain ⟨X, hX⟩ : ∃ X, w.alloc (.cells #[.slice A n c, .slice A' n' c', .slice A2 n2 c2] 30) = X := ⟨_, rfl⟩
  rw [hX] at K0 GB ⊢
  clear hX
  have HWk := Lib.hid (wakes_any X)
  go_wp2_with fail
  refine HWk.out.mono ?_
  rintro e w1 ⟨rfl, h9⟩
  replace K0 := K0.below h9 K0.lt
  replace GB := GB.trans (h9.mono GB.size)
  clear h9
  have z0 := K0.cell 0
  have z1 := K0.cell 1
  have z2 := K0.cell 2
  go_wp2_with fail
  refine (HSh.out _ GB).mono ?_
  rintro e w2 ⟨B1, m1, d1, B2, m2, d2, B3, m3, d3, G, rfl, own1, own2, hGO, _, hgl, hm1, hm2, hm3, h9⟩
  replace GB := GB.trans (h9.mono GB.size)
  clear h9 HSh HWk K0 z0 z1 z2
  have K3 := Blk.new w2 30 #[.slice B1 m1 d1, .slice B2 m2 d2, .slice B3 m3 d3]
  have HQ := Lib.hid (qr_own own1 (by omega) HU5.out)
  have HW := Lib.hid (wt_own own2 (by omega) HW5.out)
  have HGW := Lib.hid (gw_own hGO hm3 hgl)
  have GY := (Below.refl w2.heap.size w2).alloc (Nat.le_refl _) (.cells #[.slice B1 m1 d1, .slice B2 m2 d2, .slice B3 m3 d3] 30)
  have HGB := Lib.hid GB
  clear own1 own2 hGO hgl GB
  go_upto_region 4 with fail
  obtain ⟨Y, hY⟩ : ∃ Y, w2.alloc (.cells #[.slice B1 m1 d1, .slice B2 m2 d2, .slice B3 m3 d3] 30) = Y := ⟨_, rfl⟩
  obtain ⟨g3, hg3⟩ : ∃ g, w2.heap.size = g := ⟨_, rfl⟩
  rw [hY] at K3 GY ⊢
  rw [hg3] at K3 ⊢
  clear hY hg3
  have z0 := K3.cell 0
  have z1 := K3.cell 1
  have z2 := K3.cell 2
  by_cases hok : chkO q5 w5 (gsI G) = 0
  · have HEn := Lib.hid (entities_any B1 m1 d1 q5 B2 m2 d2 w5 B3 m3 d3 G Y (HQ.out.below GY) (HW.out.below GY) (HGW.out.below GY))
    unfold EntAny at HEn
    rw [hok] at HEn
    obtain ⟨rq, rw5, rg⟩ := chkO_ok hok
    have HLG := Lib.hid (lg_of HU5.out rq rw5)
    have HRG := Lib.hid rg
    have HLP : Hid ((pts q5 w5).length = m1) := Lib.hid (by rw [pts_len rw5.len]; exact HQ.out.len)
    have HWR := Lib.hid rw5
    have HR0 : Hid (entR q5 w5 (gsI G) = sortE (entsP (pts q5 w5) (gsI G))) := Lib.hid (by unfold entR; rw [if_pos hok])
    clear rq rw5 rg
    go_wp2_with fail
    refine HEn.out.mono ?_
    rintro e V ⟨A9, n9, c9, E, rfl, hES, hE, hn9, h9⟩
    have HEF := Lib.hid (each_of HLG.out HRG.out (hE.trans HR0.out))
    have HML := Lib.hid (fun (e : En) (he : e ∈ E) => entR_mem_len (qs := q5) (ws := w5) (gs := gsI G) HU5.out (x := et e) (by rw [← hE]; exact List.mem_map.2 ⟨e, he, rfl⟩))
    have HCn := Lib.hid (fun (e : En) (he : e ∈ E) => (entR_facts (qs := q5) (ws := w5) (gs := gsI G) HU5.out).1 (et e) (by rw [← hE]; exact List.mem_map.2 ⟨e, he, rfl⟩))
    have HQ1 := Lib.hid (hES.eqq HU5.out hE hn9)
    have HEL := Lib.hid HQ1.out.len
    have HER : Hid (ER V A9 n9 E) := Lib.hid ⟨HQ1.out.row, by omega, fun k e he => ⟨HQ1.out.mem e (List.mem_of_getElem? he), by have h1 := HQ1.out.len_mem (List.mem_of_getElem? he); have h2 := HML.out e (List.mem_of_getElem? he); have h3 : (et e).1.length = e.1.2.2.2.length := rfl; omega⟩⟩
    have hnc := own_nc hES.row
    have GY1 := GY.trans (h9.mono GY.size)
    have HGV := Lib.hid (HGB.out.trans (GY1.mono HGB.out.size))
    have HK3 := Lib.hid (K3.below h9 K3.lt)
    have HQ5 := Lib.hid (HQ.out.below GY1)
    clear h9 z0 z1 z2 hES hE HEn K3 GY GY1 HQ HW HGW HGB HR0 HRG HLG hok
    go_wp2_with fail
    go_loopw [6, 42] (fun sv iv wr => ∃ k : Nat, k ≤ n9 ∧ sv = .int .i64 ((sumM (E.take k) : Nat) : Int) ∧ iv = .int .i64 (k : Int) ∧ Hid (Below V.heap.size V wr)) (fun _ iv _ => n9 - (intOf iv).toNat)
    case atStart => exact ⟨0, by omega, rfl, rfl, Lib.hid (Below.refl _ _)⟩
    case round =>
      obtain ⟨k, hk, rfl, rfl, HB⟩ := hrel
      by_cases hlt : k < n9
      · obtain ⟨⟨⟨A1, n1, c1, is1⟩, ⟨h1, l1, x1⟩, o1, f1⟩, hx⟩ := elem_at (l := E) (k := k) (by rw [HEL.out]; exact hlt)
        have hm := List.mem_of_getElem? hx
        obtain ⟨hcan, u1, u2, u3⟩ := HCn.out _ hm
        have hl1 : is1.length = n1 := HQ1.out.len_mem hm
        have hn1 : n1 ≤ 16 := by have : is1.length ≤ 16 := HML.out _ hm; omega
        have hsm : sumM (E.take k) ≤ 1000 := sum_small (by omega) (fun e he => HML.out e he)
        have hsn := sum_next hx
        obtain ⟨s0, hs0⟩ : ∃ s, sumM (E.take k) = s := ⟨_, rfl⟩
        rw [hs0] at hsm hsn ⊢
        have HSN : Hid (sumM (E.take (k + 1)) = s0 + n1) := Lib.hid (by rw [hsn]; show s0 + is1.length = _; rw [hl1])
        obtain ⟨ad, rfl, _, d0, d1, d2, d3', d4, d5⟩ := (HQ1.out.below HB.out).at_ hx
        have HX := Lib.hid hx
        have KD := Blk.new wr 47 #[.slice A1 n1 c1, .int .u64 (h1 : Int), .int .u64 (l1 : Int), .int .u64 (x1 : Int), .int .u64 (o1 : Int), .bool f1]
        have BV := HB.out.alloc HB.out.size (.cells #[.slice A1 n1 c1, .int .u64 (h1 : Int), .int .u64 (l1 : Int), .int .u64 (x1 : Int), .int .u64 (o1 : Int), .bool f1] 47)
        have i1 : (0 : Int) ≤ (k : Int) := by omega
        have i2 : (k : Int) < (n9 : Int) := by omega
        have i3 : (k : Int) + 1 ≤ (n9 : Int) := by omega
        have i4 : (0 : Int) ≤ (k : Int) + 1 := by omega
        have y0 := KD.cell 0
        clear hsn hs0 hx
        go_upto_region 12 with fail
        have w1 : IntKind.i64.wrap ((k : Int) + 1) = (k : Int) + 1 := IntWalk.i64_in _ (by omega)
        have HEX := Lib.hid (And.intro hcan (And.intro u1 (And.intro u2 (And.intro u3 (And.intro hl1 (And.intro hn1 (HQ1.out.mem _ hm)))))))
        obtain ⟨m, hmm⟩ : ∃ m, n9 - (k + 1) = m := ⟨_, rfl⟩
        clear hcan u1 u2 u3 hl1 hm
        by_cases hc9 : c9 = k + 1
        · have hm0 : Hid (m = 0) := Lib.hid (by omega)
          subst hc9
          go_upto_region 13 with fail
          obtain ⟨V2, hV2⟩ : ∃ V2, wr.alloc (.cells #[.slice A1 n1 c1, .int .u64 (h1 : Int), .int .u64 (l1 : Int), .int .u64 (x1 : Int), .int .u64 (o1 : Int), .bool f1] 47) = V2 := ⟨_, rfl⟩
          obtain ⟨g8, hg8⟩ : ∃ g, wr.heap.size = g := ⟨_, rfl⟩
          rw [hV2] at KD BV ⊢
          rw [hg8] at KD ⊢
          have HV2 := Lib.hid (And.intro BV KD)
          clear hV2 hg8 y0 d0 d1 d2 d3' d4 d5 BV KD HB
          go_loopw [57] (fun iv wr => ∃ j : Nat, j ≤ m ∧ iv = .int .i64 (j : Int) ∧ Hid (Below V2.heap.size V2 wr)) (fun iv _ => m - (intOf iv).toNat)
          case atStart => exact ⟨0, by omega, rfl, Lib.hid (Below.refl _ _)⟩
          case round =>
            obtain ⟨j, hj, rfl, HB2⟩ := hrel
            by_cases hjt : j < m
            · skip
              exact absurd hjt (by have := hm0.out; omega)
            · obtain rfl : j = m := by omega
              have HV3 := Lib.hid (And.intro (HV2.out.1.trans (HB2.out.mono HV2.out.1.size)) (HV2.out.2.below HB2.out HV2.out.2.lt))
              have z0 := HV3.out.2.cell 0
              clear HV2 HB2
              go_upto_region 18 with fail
              obtain ⟨V3, hV3⟩ : ∃ V3, wr = V3 := ⟨_, rfl⟩
              rw [hV3] at HV3 z0 ⊢
              clear hV3
              go_wp2_with fail
              go_loopw [74] (fun iv wr => ∃ q : Nat, q ≤ n1 ∧ iv = .int .i64 (q : Int) ∧ Hid (Below V3.heap.size V3 wr)) (fun iv _ => n1 - (intOf iv).toNat)
              case atStart => exact ⟨0, by omega, rfl, Lib.hid (Below.refl _ _)⟩
              case round =>
                obtain ⟨q, hq, rfl, HB3⟩ := hrel
                by_cases hqt : q < n1
                · obtain ⟨id, hid⟩ := elem_at (l := is1) (k := q) (by rw [HEX.out.2.2.2.2.1]; exact hqt)
                  have hBV := HV3.out.1.trans (HB3.out.mono HV3.out.1.size)
                  have hIR : IR wr A1 n1 is1 := ⟨(HEX.out.2.2.2.2.2.2.below hBV).more hBV.size, by have := HEX.out.2.2.2.2.2.1; omega⟩
                  obtain ⟨a1, rfl, _, e0⟩ := hIR.at_ hid
                  have HPl := Lib.hid (place_any (some ad) n9 (k + 1) E id wr (HER.out.below hBV))
                  rw [HEF.out.mine k _ id HX.out (List.mem_of_getElem? hid)] at HPl
                  have j1 : (0 : Int) ≤ (q : Int) := by omega
                  have j2 : (q : Int) < (n1 : Int) := by omega
                  have vk : ((k : Int) != (k : Int)) = false := by simp
                  clear hid hIR hBV
                  go_wp2_with fail
                  refine HPl.out.mono ?_
                  rintro e w8 ⟨rfl, h9⟩
                  have HBX := Lib.hid (HB3.out.trans (h9.mono HB3.out.size))
                  clear h9 e0
                  go_wp2_with fail
                  go_roundw
                  case rel => exact ⟨q + 1, by omega, by go_num, HBX⟩
                  case measure => simp [intOf] <;> omega
                · obtain rfl : q = n1 := by omega
                  have HBE := Lib.hid (HV3.out.1.trans (HB3.out.mono HV3.out.1.size))
                  clear z0
                  go_wp2_with fail
                  go_roundw
                  case rel => exact ⟨k + 1, by omega, by rw [HSN.out]; go_num, by go_num, HBE⟩
                  case measure => simp [intOf] <;> omega
        · obtain ⟨ae, hae⟩ : ∃ ae, ad.add ((k + 1) * 6) = ae := ⟨_, rfl⟩
          have HAE := Lib.hid hae
          go_upto_region 13 with fail
          obtain ⟨V2, hV2⟩ : ∃ V2, wr.alloc (.cells #[.slice A1 n1 c1, .int .u64 (h1 : Int), .int .u64 (l1 : Int), .int .u64 (x1 : Int), .int .u64 (o1 : Int), .bool f1] 47) = V2 := ⟨_, rfl⟩
          obtain ⟨g8, hg8⟩ : ∃ g, wr.heap.size = g := ⟨_, rfl⟩
          rw [hV2] at KD BV ⊢
          rw [hg8] at KD ⊢
          have HV2 := Lib.hid (And.intro BV KD)
          clear hV2 hg8 y0 d0 d1 d2 d3' d4 d5 BV KD HB
          go_loopw [57] (fun iv wr => ∃ j : Nat, j ≤ m ∧ iv = .int .i64 (j : Int) ∧ Hid (Below V2.heap.size V2 wr)) (fun iv _ => m - (intOf iv).toNat)
          case atStart => exact ⟨0, by omega, rfl, Lib.hid (Below.refl _ _)⟩
          case round =>
            obtain ⟨j, hj, rfl, HB2⟩ := hrel
            by_cases hjt : j < m
            · skip
              obtain ⟨⟨⟨A2, n2, c2, is2⟩, ⟨h2, l2, x2⟩, o2, f2⟩, hy⟩ := elem_at (l := E) (k := k + 1 + j) (by rw [HEL.out]; omega)
              have hm2 := List.mem_of_getElem? hy
              obtain ⟨_, v1, v2, v3⟩ := HCn.out _ hm2
              have hfw := HEF.out.fwd k (k + 1 + j) _ _ HX.out hy (by omega)
              have hr2 := HQ1.out.mem _ hm2
              have hBV := HV2.out.1.trans (HB2.out.mono HV2.out.1.size)
              obtain ⟨ad2, e2, _, d0, d1, d2', d3', d4, d5⟩ := (HQ1.out.below hBV).at_ hy
              obtain rfl : ad = ad2 := Option.some.inj e2
              rw [show (k + 1 + j) * 6 = (k + 1) * 6 + j * 6 from by omega, ← Addr.add_add, HAE.out] at d0 d1 d2' d3' d4 d5
              have HA1 := Lib.hid (fun (u : World) (hu : Below V.heap.size V u) => ahead_any A1 n1 c1 h1 l1 x1 o1 f1 is1 A2 n2 c2 h2 l2 x2 o2 f2 is2 u HEX.out.2.1 HEX.out.2.2.1 HEX.out.2.2.2.1 v1 v2 v3 ((HEX.out.2.2.2.2.2.2.below hu).more hu.size) ((hr2.below hu).more hu.size))
              have HA2 := Lib.hid (fun (u : World) (hu : Below V.heap.size V u) => ahead_any A2 n2 c2 h2 l2 x2 o2 f2 is2 A1 n1 c1 h1 l1 x1 o1 f1 is1 u v1 v2 v3 HEX.out.2.1 HEX.out.2.2.1 HEX.out.2.2.2.1 ((hr2.below hu).more hu.size) ((HEX.out.2.2.2.2.2.2.below hu).more hu.size))
              rw [show aheadE (is1, (h1, l1, x1), o1, f1) (is2, (h2, l2, x2), o2, f2) = true from hfw.1] at HA1
              rw [show aheadE (is2, (h2, l2, x2), o2, f2) (is1, (h1, l1, x1), o1, f1) = false from hfw.2] at HA2
              unfold agE at HA1 HA2
              have KD1 := HV2.out.2.below HB2.out HV2.out.2.lt
              have KD2 := Blk.new wr 47 #[.slice A2 n2 c2, .int .u64 (h2 : Int), .int .u64 (l2 : Int), .int .u64 (x2 : Int), .int .u64 (o2 : Int), .bool f2]
              have BX := HB2.out.alloc HB2.out.size (.cells #[.slice A2 n2 c2, .int .u64 (h2 : Int), .int .u64 (l2 : Int), .int .u64 (x2 : Int), .int .u64 (o2 : Int), .bool f2] 47)
              replace KD1 := KD1.alloc (.cells #[.slice A2 n2 c2, .int .u64 (h2 : Int), .int .u64 (l2 : Int), .int .u64 (x2 : Int), .int .u64 (o2 : Int), .bool f2] 47)
              have j1 : (0 : Int) ≤ (j : Int) := by omega
              have j2 : (j : Int) < (m : Int) := by omega
              have z0 := KD1.cell 0
              have z1 := KD1.cell 1
              have z2 := KD1.cell 2
              have z3 := KD1.cell 3
              have z4 := KD1.cell 4
              have z5 := KD1.cell 5
              have y0 := KD2.cell 0
              have y1 := KD2.cell 1
              have y2 := KD2.cell 2
              have y3 := KD2.cell 3
              have y4 := KD2.cell 4
              have y5 := KD2.cell 5
              clear hy hm2 v1 v2 v3 hfw hr2 e2 hBV
              go_wp2_with fail
              refine (HA1.out _ (HV2.out.1.trans (BX.mono HV2.out.1.size))).mono ?_
              rintro e w8 ⟨rfl, h9⟩
              replace KD1 := KD1.below h9 KD1.lt
              replace KD2 := KD2.below h9 KD2.lt
              replace BX := BX.trans (h9.mono BX.size)
              clear h9 d0 d1 d2' d3' d4 d5 z0 y0 z1 y1 z2 y2 z3 y3 z4 y4 z5 y5
              have z0 := KD1.cell 0
              have z1 := KD1.cell 1
              have z2 := KD1.cell 2
              have z3 := KD1.cell 3
              have z4 := KD1.cell 4
              have z5 := KD1.cell 5
              have y0 := KD2.cell 0
              have y1 := KD2.cell 1
              have y2 := KD2.cell 2
              have y3 := KD2.cell 3
              have y4 := KD2.cell 4
              have y5 := KD2.cell 5
              go_wp2_with fail
              refine (HA2.out _ (HV2.out.1.trans (BX.mono HV2.out.1.size))).mono ?_
              rintro e w9 ⟨rfl, h9⟩
              have HBX := Lib.hid (BX.trans (h9.mono BX.size))
              clear h9 BX KD1 KD2 z0 y0 z1 y1 z2 y2 z3 y3 z4 y4 z5 y5
              go_wp2_with fail
              go_roundw
              case rel => exact ⟨j + 1, by omega, by go_num, HBX⟩
              case measure => simp [intOf] <;> omega
            · obtain rfl : j = m := by omega
              have HV3 := Lib.hid (And.intro (HV2.out.1.trans (HB2.out.mono HV2.out.1.size)) (HV2.out.2.below HB2.out HV2.out.2.lt))
              have z0 := HV3.out.2.cell 0
              clear HV2 HB2
              go_upto_region 18 with fail
              obtain ⟨V3, hV3⟩ : ∃ V3, wr = V3 := ⟨_, rfl⟩
              rw [hV3] at HV3 z0 ⊢
              clear hV3
              go_wp2_with fail
              go_loopw [74] (fun iv wr => ∃ q : Nat, q ≤ n1 ∧ iv = .int .i64 (q : Int) ∧ Hid (Below V3.heap.size V3 wr)) (fun iv _ => n1 - (intOf iv).toNat)
              case atStart => exact ⟨0, by omega, rfl, Lib.hid (Below.refl _ _)⟩
              case round =>
                obtain ⟨q, hq, rfl, HB3⟩ := hrel
                by_cases hqt : q < n1
                · obtain ⟨id, hid⟩ := elem_at (l := is1) (k := q) (by rw [HEX.out.2.2.2.2.1]; exact hqt)
                  have hBV := HV3.out.1.trans (HB3.out.mono HV3.out.1.size)
                  have hIR : IR wr A1 n1 is1 := ⟨(HEX.out.2.2.2.2.2.2.below hBV).more hBV.size, by have := HEX.out.2.2.2.2.2.1; omega⟩
                  obtain ⟨a1, rfl, _, e0⟩ := hIR.at_ hid
                  have HPl := Lib.hid (place_any (some ad) n9 c9 E id wr (HER.out.below hBV))
                  rw [HEF.out.mine k _ id HX.out (List.mem_of_getElem? hid)] at HPl
                  have j1 : (0 : Int) ≤ (q : Int) := by omega
                  have j2 : (q : Int) < (n1 : Int) := by omega
                  have vk : ((k : Int) != (k : Int)) = false := by simp
                  clear hid hIR hBV
                  go_wp2_with fail
                  refine HPl.out.mono ?_
                  rintro e w8 ⟨rfl, h9⟩
                  have HBX := Lib.hid (HB3.out.trans (h9.mono HB3.out.size))
                  clear h9 e0
                  go_wp2_with fail
                  go_roundw
                  case rel => exact ⟨q + 1, by omega, by go_num, HBX⟩
                  case measure => simp [intOf] <;> omega
                · obtain rfl : q = n1 := by omega
                  have HBE := Lib.hid (HV3.out.1.trans (HB3.out.mono HV3.out.1.size))
                  clear z0
                  go_wp2_with fail
                  go_roundw
                  case rel => exact ⟨k + 1, by omega, by rw [HSN.out]; go_num, by go_num, HBE⟩
                  case measure => simp [intOf] <;> omega
      · obtain rfl : k = n9 := by omega
        have HT : sumM (E.take k) = m1 := by rw [List.take_of_length_le (by rw [HEL.out]; exact Nat.le_refl _), HEF.out.sum, HLP.out]
        rw [HT]
        obtain ⟨V1, hV1⟩ : ∃ V1, wr = V1 := ⟨_, rfl⟩
        rw [hV1] at HB ⊢
        have z0 := (HK3.out.below HB.out HK3.out.lt).cell 0
        clear HT hV1
        go_wp2_with fail
        go_loopw [97] (fun iv wr => ∃ q : Nat, q ≤ m1 ∧ iv = .int .i64 (q : Int) ∧ Hid (Below V1.heap.size V1 wr)) (fun iv _ => m1 - (intOf iv).toNat)
        case atStart => exact ⟨0, by omega, rfl, Lib.hid (Below.refl _ _)⟩
        case round =>
          obtain ⟨q, hq, rfl, HB3⟩ := hrel
          have HBV := Lib.hid (HB.out.trans (HB3.out.mono HB.out.size))
          by_cases hqt : q < m1
          · obtain ⟨⟨i', a, h, l, x⟩, hx⟩ := elem_at (l := q5) (k := q) (by rw [HQ5.out.len]; exact hqt)
            obtain ⟨⟨i2, o, f⟩, hy⟩ := elem_at (l := w5) (k := q) (by rw [HWR.out.len, HQ5.out.len]; exact hqt)
            obtain ⟨u1, u2, u3⟩ := HU5.out _ (List.mem_of_getElem? hx)
            obtain ⟨i, ⟨⟨A1, n1, c1, is1⟩, ⟨h1, l1, x1⟩, o1, f1⟩, hpl, hei, hge⟩ := HEF.out.all (i', (a, h, l, x), o, f) (List.mem_of_getElem? (pts_at hx hy))
            obtain ⟨_, v1, v2, v3⟩ := HCn.out _ (List.mem_of_getElem? hei)
            obtain ⟨r, hr⟩ : ∃ r, cmpT (h1, l1, x1) (h, l, x) = r := ⟨_, rfl⟩
            have hge2 : 0 ≤ r := by rw [← hr]; exact hge
            have HCm := Lib.hid (fun (u : World) => cmp_call h1 l1 x1 h l x u v1 v2 v3 u1 u2 u3)
            rw [show cmpR (h1 * 2 ^ 64 + l1) x1 (h * 2 ^ 64 + l) x = r from hr] at HCm
            have HPl := Lib.hid (fun (u : World) (hu : Below V.heap.size V u) => place_any A9 k c9 E i' u (HER.out.below hu))
            rw [show placeE E i' = (i, true) from hpl] at HPl
            have hik : i < k := by rw [← HEL.out]; exact (List.getElem?_eq_some_iff.1 hei).1
            obtain ⟨ad, rfl, _, _⟩ := HQ1.out.at_ hei
            have HF : Hid (∀ u, Below V.heap.size V u → u.cell? ⟨(ad.add (i * 6)).block, (ad.add (i * 6)).off + 1, none⟩ = some (.int .u64 (h1 : Int)) ∧ u.cell? ⟨(ad.add (i * 6)).block, (ad.add (i * 6)).off + 2, none⟩ = some (.int .u64 (l1 : Int)) ∧ u.cell? ⟨(ad.add (i * 6)).block, (ad.add (i * 6)).off + 3, none⟩ = some (.int .u64 (x1 : Int))) := Lib.hid (fun u hu => by
              obtain ⟨ad2, e2, _, _, b1, b2, b3, _⟩ := (HQ1.out.below hu).at_ hei
              obtain rfl : ad = ad2 := Option.some.inj e2
              exact ⟨b1, b2, b3⟩)
            obtain ⟨aq, rfl, _, d0, d1', d2', d3', d4⟩ := rn_at (HQ5.out.below HBV.out).row hx
            have KN := Blk.new wr 59 #[.int .i64 i', .int .i64 a, .int .u64 (h : Int), .int .u64 (l : Int), .int .u64 (x : Int)]
            have BX := HB3.out.alloc HB3.out.size (.cells #[.int .i64 i', .int .i64 a, .int .u64 (h : Int), .int .u64 (l : Int), .int .u64 (x : Int)] 59)
            have BXV := HB.out.trans (BX.mono HB.out.size)
            have j1 : (0 : Int) ≤ (q : Int) := by omega
            have j2 : (q : Int) < (m1 : Int) := by omega
            have p1 : (0 : Int) ≤ (i : Int) := by omega
            have p2 : (i : Int) < (k : Int) := by omega
            have cr : decide (r < 0) = false := decide_eq_false (by omega)
            have cr2 : ¬ r < 0 := by omega
            have y0 := KN.cell 0
            clear hx hy u1 u2 u3 hpl hei hge v1 v2 v3 hr hik
            go_wp2_with fail
            refine (HPl.out _ BXV).mono ?_
            rintro e w8 ⟨rfl, h9⟩
            replace KN := KN.below h9 KN.lt
            replace BX := BX.trans (h9.mono BX.size)
            obtain ⟨g16, hg16⟩ : ∃ g, wr.heap.size = g := ⟨_, rfl⟩
            rw [hg16] at KN ⊢
            have HBX := Lib.hid BX
            have HBXV := Lib.hid (HB.out.trans (BX.mono HB.out.size))
            clear h9 y0 d0 d1' d2' d3' d4 BXV BX hg16 HBV
            go_upto_region 30 with fail
            refine wp_region_held_drew (S := fun u => Below w8.heap.size w8 u ∧ Blk u g16 59 #[.int .i64 i', .int .i64 a, .int .u64 (h : Int), .int .u64 (l : Int), .int .u64 (x : Int)]) (by kernel_rfl) ⟨(Below.refl _ _).drew, KN⟩ (fun hS => ?_)
            generalize World.drew w8 = V8 at hS ⊢
            clear KN
            refine wpAnyH_take (i := 0) (v := .bool true) rfl (by kernel_rfl) (by kernel_rfl) (by kernel_rfl) (fun _ _ _ h => h) (Or.inl ⟨by kernel_rfl, fun u hSw => (by go_simp)⟩) hS ?_
            change wpAnyH _ _ _ _ _ _ _ (Act.put _ (some 108) _) _
            simp only [Act.put]
            try simp only [List.setIfInBounds_toArray, List.set_cons_zero, List.set_cons_succ]
            refine wpAnyH_take (i := 1) (v := .bool false) rfl (by kernel_rfl) (by kernel_rfl) (by kernel_rfl) (fun _ _ _ h => h) (Or.inl ⟨by kernel_rfl, fun u hSw => (by go_simp)⟩) hS ?_
            change wpAnyH _ _ _ _ _ _ _ (Act.put _ (some 109) _) _
            simp only [Act.put]
            try simp only [List.setIfInBounds_toArray, List.set_cons_zero, List.set_cons_succ]
            refine wpAnyH_take (i := 2) (v := .bool false) rfl (by kernel_rfl) (by kernel_rfl) (by kernel_rfl) (fun _ _ _ h => h) (Or.inl ⟨by kernel_rfl, fun u hSw => (by go_simp)⟩) hS ?_
            change wpAnyH _ _ _ _ _ _ _ (Act.put _ (some 110) _) _
            simp only [Act.put]
            try simp only [List.setIfInBounds_toArray, List.set_cons_zero, List.set_cons_succ]
            refine wpAnyH_take (i := 3) (v := .slice (some ad) k c9) rfl (by kernel_rfl) (by kernel_rfl) (by kernel_rfl) (fun _ _ _ h => h) (Or.inl ⟨by kernel_rfl, fun u hSw => (by go_simp)⟩) hS ?_
            change wpAnyH _ _ _ _ _ _ _ (Act.put _ (some 111) _) _
            simp only [Act.put]
            try simp only [List.setIfInBounds_toArray, List.set_cons_zero, List.set_cons_succ]
            refine wpAnyH_take (i := 4) (v := .int .i64 (i : Int)) rfl (by kernel_rfl) (by kernel_rfl) (by kernel_rfl) (fun _ _ _ h => h) (Or.inl ⟨by kernel_rfl, fun u hSw => (by go_simp)⟩) hS ?_
            change wpAnyH _ _ _ _ _ _ _ (Act.put _ (some 112) _) _
            simp only [Act.put]
            try simp only [List.setIfInBounds_toArray, List.set_cons_zero, List.set_cons_succ]
            refine wpAnyH_take (i := 5) (v := .pointer (some (ad.add (i * 6)))) rfl (by kernel_rfl) (by kernel_rfl) (by kernel_rfl) (fun _ _ _ h => h) (Or.inl ⟨by kernel_rfl, fun u hSw => (by go_simp)⟩) hS ?_
            change wpAnyH _ _ _ _ _ _ _ (Act.put _ (some 113) _) _
            simp only [Act.put]
            try simp only [List.setIfInBounds_toArray, List.set_cons_zero, List.set_cons_succ]
            refine wpAnyH_take (i := 6) (v := .pointer (some ⟨(ad.add (i * 6)).block, (ad.add (i * 6)).off + 1, none⟩)) rfl (by kernel_rfl) (by kernel_rfl) (by kernel_rfl) (fun _ _ _ h => h) (Or.inl ⟨by kernel_rfl, fun u hSw => (by go_simp)⟩) hS ?_
            change wpAnyH _ _ _ _ _ _ _ (Act.put _ (some 114) _) _
            simp only [Act.put]
            try simp only [List.setIfInBounds_toArray, List.set_cons_zero, List.set_cons_succ]
            refine wpAnyH_take (i := 7) (v := .agg #[.int .u64 (h1 : Int), .int .u64 (l1 : Int), .int .u64 (x1 : Int)]) rfl (by kernel_rfl) (by kernel_rfl) (by kernel_rfl) (fun _ _ _ h => h) (Or.inl ⟨by kernel_rfl, fun u hSw => (by obtain ⟨q1, q2, q3⟩ := HF.out u (HBXV.out.trans (hSw.1.mono HBXV.out.size)); go_simp)⟩) hS ?_
            change wpAnyH _ _ _ _ _ _ _ (Act.put _ (some 115) _) _
            simp only [Act.put]
            try simp only [List.setIfInBounds_toArray, List.set_cons_zero, List.set_cons_succ]
            refine wpAnyH_take (i := 8) (v := .pointer (some ⟨g16, 2, none⟩)) rfl (by kernel_rfl) (by kernel_rfl) (by kernel_rfl) (fun _ _ _ h => h) (Or.inl ⟨by kernel_rfl, fun u hSw => (by go_simp)⟩) hS ?_
            change wpAnyH _ _ _ _ _ _ _ (Act.put _ (some 116) _) _
            simp only [Act.put]
            try simp only [List.setIfInBounds_toArray, List.set_cons_zero, List.set_cons_succ]
            refine wpAnyH_take (i := 9) (v := .agg #[.int .u64 (h : Int), .int .u64 (l : Int), .int .u64 (x : Int)]) rfl (by kernel_rfl) (by kernel_rfl) (by kernel_rfl) (fun _ _ _ h => h) (Or.inl ⟨by kernel_rfl, fun u hSw => (by have q0 := hSw.2.cell 2; have q1 := hSw.2.cell 3; have q2 := hSw.2.cell 4; go_simp)⟩) hS ?_
            change wpAnyH _ _ _ _ _ _ _ (Act.put _ (some 117) _) _
            simp only [Act.put]
            try simp only [List.setIfInBounds_toArray, List.set_cons_zero, List.set_cons_succ]
            refine wpAnyH_ready (rs := [10]) (by kernel_rfl) (by simp) ?_
            refine AllReadyH.cons rfl (fun K hK => ?_) AllReadyH.nil
            go_simp
            refine (HCm.out _).mono ?_
            rintro e1 w1 ⟨rfl, h9⟩
            have S1 : Below w8.heap.size w8 w1 ∧ Blk w1 g16 59 #[.int .i64 i', .int .i64 a, .int .u64 (h : Int), .int .u64 (l : Int), .int .u64 (x : Int)] := ⟨hS.1.trans (h9.mono hS.1.size), hS.2.below h9 hS.2.lt⟩
            clear h9 hS
            refine hK.out _ _ S1 (fun hS => ?_)
            clear hK K S1
            refine wpAnyH_take (i := 11) (v := .bool false) rfl (by kernel_rfl) (by kernel_rfl) (by kernel_rfl) (fun _ _ _ h => h) (Or.inl ⟨by kernel_rfl, fun u hSw => (by go_simp)⟩) hS ?_
            change wpAnyH _ _ _ _ _ _ _ (Act.put _ (some 119) _) _
            simp only [Act.put]
            try simp only [List.setIfInBounds_toArray, List.set_cons_zero, List.set_cons_succ]
            refine wpAnyH_take (i := 12) (v := .bool false) rfl (by kernel_rfl) (by kernel_rfl) (by kernel_rfl) (fun _ _ _ h => h) (Or.inl ⟨by kernel_rfl, fun u hSw => (by go_simp)⟩) hS ?_
            change wpAnyH _ _ _ _ _ _ _ (Act.put _ (some 120) _) _
            simp only [Act.put]
            try simp only [List.setIfInBounds_toArray, List.set_cons_zero, List.set_cons_succ]
            refine wpAnyH_done (by kernel_rfl) ?_ _
            have hS9 := hS.1
            clear hS
            have HBY := Lib.hid (HBX.out.trans (hS9.mono HBX.out.size))
            clear hS9
            go_wp2_with fail
            go_roundw
            case rel => exact ⟨q + 1, by omega, by go_num, HBY⟩
            case measure => simp [intOf] <;> omega
          · obtain rfl : q = m1 := by omega
            have HK4 := Lib.hid (HK3.out.below HBV.out HK3.out.lt)
            have HQ2 := Lib.hid (HQ1.out.below HBV.out)
            have HGE := Lib.hid (HGV.out.trans (HBV.out.mono HGV.out.size))
            have HFi := Lib.hid (first_any A9 k c9 E wr HQ2.out (fun e he => by have h1 := HQ2.out.len_mem he; have h2 := HML.out e he; have h3 : (et e).1.length = e.1.2.2.2.length := rfl; omega))
            rw [HEF.out.first] at HFi
            clear z0 HB HB3 HBV
            obtain ⟨V4, hV4⟩ : ∃ V4, wr = V4 := ⟨_, rfl⟩
            rw [hV4] at HK4 HQ2 HGE HFi ⊢
            clear hV4
            have vm : ((q : Int) == (q : Int)) = true := by simp
            by_cases hk0 : k = 0
            · subst hk0
              have hno : E[0]? = none := List.getElem?_eq_none (by rw [HEL.out]; exact Nat.le_refl _)
              rw [hno] at HFi
              clear hno
              go_wp2_with fail
              refine HFi.out.mono ?_
              rintro e w8 ⟨h9, he⟩
              obtain rfl : e = _ := he
              have KE := Blk.new w8 47 #[.slice none 0 0, .int .u64 0, .int .u64 0, .int .u64 0, .int .u64 0, .bool false]
              have BX := h9.alloc h9.size (.cells #[.slice none 0 0, .int .u64 0, .int .u64 0, .int .u64 0, .int .u64 0, .bool false] 47)
              have KQ := HK4.out.below BX HK4.out.lt
              have HGF := Lib.hid (HGE.out.trans (BX.mono HGE.out.size))
              clear h9
              go_upto_region 34 with fail
              obtain ⟨g19, hg19⟩ : ∃ g, w8.heap.size = g := ⟨_, rfl⟩
              obtain ⟨V9, hV9⟩ : ∃ V9, w8.alloc (.cells #[.slice none 0 0, .int .u64 0, .int .u64 0, .int .u64 0, .int .u64 0, .bool false] 47) = V9 := ⟨_, rfl⟩
              rw [hV9] at KE KQ HGF ⊢
              rw [hg19] at KE ⊢
              clear hV9 hg19 BX
              refine wp_region_held_drew (S := fun u => Below V9.heap.size V9 u ∧ Blk u g3 30 #[.slice B1 q d1, .slice B2 m2 d2, .slice B3 m3 d3] ∧ Blk u g19 47 #[.slice none 0 0, .int .u64 0, .int .u64 0, .int .u64 0, .int .u64 0, .bool false]) (by kernel_rfl) ⟨(Below.refl _ _).drew, KQ, KE⟩ (fun hS => ?_)
              generalize World.drew V9 = V8 at hS ⊢
              clear KQ KE
              refine wpAnyH_take (i := 0) (v := .int .i64 (q : Int)) rfl (by kernel_rfl) (by kernel_rfl) (by kernel_rfl) (fun _ _ _ h => h) (Or.inl ⟨by kernel_rfl, fun u hSw => (by go_simp)⟩) hS ?_
              change wpAnyH _ _ _ _ _ _ _ (Act.put _ (some 127) _) _
              simp only [Act.put]
              try simp only [List.setIfInBounds_toArray, List.set_cons_zero, List.set_cons_succ]
              refine wpAnyH_take (i := 1) (v := .pointer (some ⟨g3, 0, none⟩)) rfl (by kernel_rfl) (by kernel_rfl) (by kernel_rfl) (fun _ _ _ h => h) (Or.inl ⟨by kernel_rfl, fun u hSw => (by go_simp)⟩) hS ?_
              change wpAnyH _ _ _ _ _ _ _ (Act.put _ (some 128) _) _
              simp only [Act.put]
              try simp only [List.setIfInBounds_toArray, List.set_cons_zero, List.set_cons_succ]
              refine wpAnyH_take (i := 2) (v := .pointer (some ⟨g3, 0, none⟩)) rfl (by kernel_rfl) (by kernel_rfl) (by kernel_rfl) (fun _ _ _ h => h) (Or.inl ⟨by kernel_rfl, fun u hSw => (by go_simp)⟩) hS ?_
              change wpAnyH _ _ _ _ _ _ _ (Act.put _ (some 129) _) _
              simp only [Act.put]
              try simp only [List.setIfInBounds_toArray, List.set_cons_zero, List.set_cons_succ]
              refine wpAnyH_take (i := 3) (v := .slice B1 q d1) rfl (by kernel_rfl) (by kernel_rfl) (by kernel_rfl) (fun _ _ _ h => h) (Or.inl ⟨by kernel_rfl, fun u hSw => (by have q0 := hSw.2.1.cell 0; go_simp)⟩) hS ?_
              change wpAnyH _ _ _ _ _ _ _ (Act.put _ (some 130) _) _
              simp only [Act.put]
              try simp only [List.setIfInBounds_toArray, List.set_cons_zero, List.set_cons_succ]
              refine wpAnyH_take (i := 4) (v := .int .i64 (q : Int)) rfl (by kernel_rfl) (by kernel_rfl) (by kernel_rfl) (fun _ _ _ h => h) (Or.inl ⟨by kernel_rfl, fun u hSw => (by go_simp)⟩) hS ?_
              change wpAnyH _ _ _ _ _ _ _ (Act.put _ (some 131) _) _
              simp only [Act.put]
              try simp only [List.setIfInBounds_toArray, List.set_cons_zero, List.set_cons_succ]
              refine wpAnyH_take (i := 5) (v := .bool true) rfl (by kernel_rfl) (by kernel_rfl) (by kernel_rfl) (fun _ _ _ h => h) (Or.inl ⟨by kernel_rfl, fun u hSw => (by go_simp)⟩) hS ?_
              change wpAnyH _ _ _ _ _ _ _ (Act.put _ (some 132) _) _
              simp only [Act.put]
              try simp only [List.setIfInBounds_toArray, List.set_cons_zero, List.set_cons_succ]
              refine wpAnyH_take (i := 6) (v := .bool true) rfl (by kernel_rfl) (by kernel_rfl) (by kernel_rfl) (fun _ _ _ h => h) (Or.inl ⟨by kernel_rfl, fun u hSw => (by go_simp)⟩) hS ?_
              change wpAnyH _ _ _ _ _ _ _ (Act.put _ (some 133) _) _
              simp only [Act.put]
              try simp only [List.setIfInBounds_toArray, List.set_cons_zero, List.set_cons_succ]
              refine wpAnyH_take (i := 7) (v := .bool false) rfl (by kernel_rfl) (by kernel_rfl) (by kernel_rfl) (fun _ _ _ h => h) (Or.inl ⟨by kernel_rfl, fun u hSw => (by go_simp)⟩) hS ?_
              change wpAnyH _ _ _ _ _ _ _ (Act.put _ (some 134) _) _
              simp only [Act.put]
              try simp only [List.setIfInBounds_toArray, List.set_cons_zero, List.set_cons_succ]
              refine wpAnyH_take (i := 8) (v := .slice A9 0 c9) rfl (by kernel_rfl) (by kernel_rfl) (by kernel_rfl) (fun _ _ _ h => h) (Or.inl ⟨by kernel_rfl, fun u hSw => (by go_simp)⟩) hS ?_
              change wpAnyH _ _ _ _ _ _ _ (Act.put _ (some 135) _) _
              simp only [Act.put]
              try simp only [List.setIfInBounds_toArray, List.set_cons_zero, List.set_cons_succ]
              refine wpAnyH_take (i := 9) (v := .int .i64 0) rfl (by kernel_rfl) (by kernel_rfl) (by kernel_rfl) (fun _ _ _ h => h) (Or.inl ⟨by kernel_rfl, fun u hSw => (by go_simp)⟩) hS ?_
              change wpAnyH _ _ _ _ _ _ _ (Act.put _ (some 136) _) _
              simp only [Act.put]
              try simp only [List.setIfInBounds_toArray, List.set_cons_zero, List.set_cons_succ]
              refine wpAnyH_take (i := 10) (v := .bool false) rfl (by kernel_rfl) (by kernel_rfl) (by kernel_rfl) (fun _ _ _ h => h) (Or.inl ⟨by kernel_rfl, fun u hSw => (by go_simp)⟩) hS ?_
              change wpAnyH _ _ _ _ _ _ _ (Act.put _ (some 137) _) _
              simp only [Act.put]
              try simp only [List.setIfInBounds_toArray, List.set_cons_zero, List.set_cons_succ]
              refine wpAnyH_take (i := 11) (v := .bool true) rfl (by kernel_rfl) (by kernel_rfl) (by kernel_rfl) (fun _ _ _ h => h) (Or.inl ⟨by kernel_rfl, fun u hSw => (by go_simp)⟩) hS ?_
              change wpAnyH _ _ _ _ _ _ _ (Act.put _ (some 138) _) _
              simp only [Act.put]
              try simp only [List.setIfInBounds_toArray, List.set_cons_zero, List.set_cons_succ]
              refine wpAnyH_take (i := 12) (v := .bool true) rfl (by kernel_rfl) (by kernel_rfl) (by kernel_rfl) (fun _ _ _ h => h) (Or.inl ⟨by kernel_rfl, fun u hSw => (by go_simp)⟩) hS ?_
              change wpAnyH _ _ _ _ _ _ _ (Act.put _ (some 139) _) _
              simp only [Act.put]
              try simp only [List.setIfInBounds_toArray, List.set_cons_zero, List.set_cons_succ]
              refine wpAnyH_take (i := 13) (v := .bool true) rfl (by kernel_rfl) (by kernel_rfl) (by kernel_rfl) (fun _ _ _ h => h) (Or.inl ⟨by kernel_rfl, fun u hSw => (by go_simp)⟩) hS ?_
              change wpAnyH _ _ _ _ _ _ _ (Act.put _ (some 140) _) _
              simp only [Act.put]
              try simp only [List.setIfInBounds_toArray, List.set_cons_zero, List.set_cons_succ]
              refine wpAnyH_take (i := 14) (v := .bool false) rfl (by kernel_rfl) (by kernel_rfl) (by kernel_rfl) (fun _ _ _ h => h) (Or.inl ⟨by kernel_rfl, fun u hSw => (by go_simp)⟩) hS ?_
              change wpAnyH _ _ _ _ _ _ _ (Act.put _ (some 141) _) _
              simp only [Act.put]
              try simp only [List.setIfInBounds_toArray, List.set_cons_zero, List.set_cons_succ]
              refine wpAnyH_take (i := 15) (v := .bool true) rfl (by kernel_rfl) (by kernel_rfl) (by kernel_rfl) (fun _ _ _ h => h) (Or.inl ⟨by kernel_rfl, fun u hSw => (by go_simp)⟩) hS ?_
              change wpAnyH _ _ _ _ _ _ _ (Act.put _ (some 142) _) _
              simp only [Act.put]
              try simp only [List.setIfInBounds_toArray, List.set_cons_zero, List.set_cons_succ]
              refine wpAnyH_take (i := 16) (v := .bool true) rfl (by kernel_rfl) (by kernel_rfl) (by kernel_rfl) (fun _ _ _ h => h) (Or.inl ⟨by kernel_rfl, fun u hSw => (by go_simp)⟩) hS ?_
              change wpAnyH _ _ _ _ _ _ _ (Act.put _ (some 143) _) _
              simp only [Act.put]
              try simp only [List.setIfInBounds_toArray, List.set_cons_zero, List.set_cons_succ]
              refine wpAnyH_take (i := 17) (v := undef) rfl (by kernel_rfl) (by kernel_rfl) (by kernel_rfl) (fun _ _ _ h => h) (Or.inr ⟨by kernel_rfl, rfl⟩) hS ?_
              change wpAnyH _ _ _ _ _ _ _ (Act.put _ (some 144) _) _
              simp only [Act.put]
              try simp only [List.setIfInBounds_toArray, List.set_cons_zero, List.set_cons_succ]
              refine wpAnyH_take (i := 18) (v := undef) rfl (by kernel_rfl) (by kernel_rfl) (by kernel_rfl) (fun _ _ _ h => h) (Or.inr ⟨by kernel_rfl, rfl⟩) hS ?_
              change wpAnyH _ _ _ _ _ _ _ (Act.put _ (some 145) _) _
              simp only [Act.put]
              try simp only [List.setIfInBounds_toArray, List.set_cons_zero, List.set_cons_succ]
              refine wpAnyH_take (i := 19) (v := undef) rfl (by kernel_rfl) (by kernel_rfl) (by kernel_rfl) (fun _ _ _ h => h) (Or.inr ⟨by kernel_rfl, rfl⟩) hS ?_
              change wpAnyH _ _ _ _ _ _ _ (Act.put _ (some 146) _) _
              simp only [Act.put]
              try simp only [List.setIfInBounds_toArray, List.set_cons_zero, List.set_cons_succ]
              refine wpAnyH_take (i := 20) (v := undef) rfl (by kernel_rfl) (by kernel_rfl) (by kernel_rfl) (fun _ _ _ h => h) (Or.inr ⟨by kernel_rfl, rfl⟩) hS ?_
              change wpAnyH _ _ _ _ _ _ _ (Act.put _ (some 147) _) _
              simp only [Act.put]
              try simp only [List.setIfInBounds_toArray, List.set_cons_zero, List.set_cons_succ]
              refine wpAnyH_take (i := 21) (v := undef) rfl (by kernel_rfl) (by kernel_rfl) (by kernel_rfl) (fun _ _ _ h => h) (Or.inr ⟨by kernel_rfl, rfl⟩) hS ?_
              change wpAnyH _ _ _ _ _ _ _ (Act.put _ (some 148) _) _
              simp only [Act.put]
              try simp only [List.setIfInBounds_toArray, List.set_cons_zero, List.set_cons_succ]
              refine wpAnyH_take (i := 22) (v := undef) rfl (by kernel_rfl) (by kernel_rfl) (by kernel_rfl) (fun _ _ _ h => h) (Or.inr ⟨by kernel_rfl, rfl⟩) hS ?_
              change wpAnyH _ _ _ _ _ _ _ (Act.put _ (some 149) _) _
              simp only [Act.put]
              try simp only [List.setIfInBounds_toArray, List.set_cons_zero, List.set_cons_succ]
              refine wpAnyH_take (i := 23) (v := undef) rfl (by kernel_rfl) (by kernel_rfl) (by kernel_rfl) (fun _ _ _ h => h) (Or.inr ⟨by kernel_rfl, rfl⟩) hS ?_
              change wpAnyH _ _ _ _ _ _ _ (Act.put _ (some 150) _) _
              simp only [Act.put]
              try simp only [List.setIfInBounds_toArray, List.set_cons_zero, List.set_cons_succ]
              refine wpAnyH_take (i := 24) (v := .bool true) rfl (by kernel_rfl) (by kernel_rfl) (by kernel_rfl) (fun _ _ _ h => h) (Or.inl ⟨by kernel_rfl, fun u hSw => (by go_simp)⟩) hS ?_
              change wpAnyH _ _ _ _ _ _ _ (Act.put _ (some 151) _) _
              simp only [Act.put]
              try simp only [List.setIfInBounds_toArray, List.set_cons_zero, List.set_cons_succ]
              refine wpAnyH_take (i := 25) (v := .bool true) rfl (by kernel_rfl) (by kernel_rfl) (by kernel_rfl) (fun _ _ _ h => h) (Or.inl ⟨by kernel_rfl, fun u hSw => (by go_simp)⟩) hS ?_
              change wpAnyH _ _ _ _ _ _ _ (Act.put _ (some 152) _) _
              simp only [Act.put]
              try simp only [List.setIfInBounds_toArray, List.set_cons_zero, List.set_cons_succ]
              refine wpAnyH_take (i := 26) (v := .bool true) rfl (by kernel_rfl) (by kernel_rfl) (by kernel_rfl) (fun _ _ _ h => h) (Or.inl ⟨by kernel_rfl, fun u hSw => (by go_simp)⟩) hS ?_
              change wpAnyH _ _ _ _ _ _ _ (Act.put _ (some 2) _) _
              simp only [Act.put]
              try simp only [List.setIfInBounds_toArray, List.set_cons_zero, List.set_cons_succ]
              refine wpAnyH_done (by kernel_rfl) ?_ _
              have hS9 := hS.1
              clear hS
              have HBe := Lib.hid (HGF.out.trans (hS9.mono HGF.out.size))
              clear hS9
              go_wp2_with fail
              go_ret
              exact ⟨rfl, HBe.out⟩
            · obtain ⟨⟨⟨A1, n1, c1, is1⟩, ⟨h1, l1, x1⟩, o1, f1⟩, hx⟩ := elem_at (l := E) (k := 0) (by rw [HEL.out]; omega)
              rw [hx] at HFi
              have hl1 : is1.length = n1 := HQ2.out.len_mem (List.mem_of_getElem? hx)
              have hn1 : n1 ≤ 16 := by have : is1.length ≤ 16 := HML.out _ (List.mem_of_getElem? hx); omega
              have HM1 := Lib.hid (show Reads V4 V4.heap.size 1 A1 n1 (vs is1) from HQ2.out.mem _ (List.mem_of_getElem? hx))
              obtain ⟨ad, rfl, _, _⟩ := HQ2.out.at_ hx
              have HF : Hid (∀ u, Below V4.heap.size V4 u → u.cell? ad = some (.slice A1 n1 c1)) := Lib.hid (fun u hu => by
                obtain ⟨ad2, e2, _, b0, _⟩ := (HQ2.out.below hu).at_ hx
                obtain rfl : ad = ad2 := Option.some.inj e2
                rwa [Nat.zero_mul, Addr.add_zero'] at b0)
              clear hx
              go_wp2_with fail
              refine HFi.out.mono ?_
              rintro e w8 ⟨h9, A3, c3, he, own9⟩
              obtain rfl : e = _ := he
              replace own9 : w8.ownsRow V4.heap.size 3 1 (.slice A3 n1 c3) n1 (vs is1) := own9
              have KE := Blk.new w8 47 #[.slice A3 n1 c3, .int .u64 (h1 : Int), .int .u64 (l1 : Int), .int .u64 (x1 : Int), .int .u64 (o1 : Int), .bool f1]
              have BA := (Below.refl w8.heap.size w8).alloc (Nat.le_refl _) (.cells #[.slice A3 n1 c3, .int .u64 (h1 : Int), .int .u64 (l1 : Int), .int .u64 (x1 : Int), .int .u64 (o1 : Int), .bool f1] 47)
              have BX := h9.trans (BA.mono h9.size)
              have KQ := HK4.out.below BX HK4.out.lt
              have HGF := Lib.hid (HGE.out.trans (BX.mono HGE.out.size))
              have HI3 := Lib.hid (And.intro (Reads.of_own (own_below own9 BA)) BX)
              clear h9 own9 BA BX
              unfold agE
              go_upto_region 34 with fail
              obtain ⟨g19, hg19⟩ : ∃ g, w8.heap.size = g := ⟨_, rfl⟩
              obtain ⟨V9, hV9⟩ : ∃ V9, w8.alloc (.cells #[.slice A3 n1 c3, .int .u64 (h1 : Int), .int .u64 (l1 : Int), .int .u64 (x1 : Int), .int .u64 (o1 : Int), .bool f1] 47) = V9 := ⟨_, rfl⟩
              rw [hV9] at KE KQ HGF HI3 ⊢
              rw [hg19] at KE ⊢
              clear hV9 hg19
              have HEq := Lib.hid (fun (u : World) (hu : Below V9.heap.size V9 u) => iequal_any A3 n1 c3 is1 A1 c1 u ⟨(HI3.out.1.below hu).more hu.size, by omega⟩ ⟨((HM1.out.below HI3.out.2).more HI3.out.2.size |>.below hu).more hu.size, by omega⟩)
              have c0 : decide ((0 : Int) < (k : Int)) = true := decide_eq_true (by omega)
              have c00 : (0 : Int) < (k : Int) := by omega
              have c000 : 0 < k := by omega
              refine wp_region_held_drew (S := fun u => Below V9.heap.size V9 u ∧ Blk u g3 30 #[.slice B1 q d1, .slice B2 m2 d2, .slice B3 m3 d3] ∧ Blk u g19 47 #[.slice A3 n1 c3, .int .u64 (h1 : Int), .int .u64 (l1 : Int), .int .u64 (x1 : Int), .int .u64 (o1 : Int), .bool f1]) (by kernel_rfl) ⟨(Below.refl _ _).drew, KQ, KE⟩ (fun hS => ?_)
              generalize World.drew V9 = V8 at hS ⊢
              clear KQ KE
              refine wpAnyH_take (i := 0) (v := .int .i64 (q : Int)) rfl (by kernel_rfl) (by kernel_rfl) (by kernel_rfl) (fun _ _ _ h => h) (Or.inl ⟨by kernel_rfl, fun u hSw => (by go_simp)⟩) hS ?_
              change wpAnyH _ _ _ _ _ _ _ (Act.put _ (some 127) _) _
              simp only [Act.put]
              try simp only [List.setIfInBounds_toArray, List.set_cons_zero, List.set_cons_succ]
              refine wpAnyH_take (i := 1) (v := .pointer (some ⟨g3, 0, none⟩)) rfl (by kernel_rfl) (by kernel_rfl) (by kernel_rfl) (fun _ _ _ h => h) (Or.inl ⟨by kernel_rfl, fun u hSw => (by go_simp)⟩) hS ?_
              change wpAnyH _ _ _ _ _ _ _ (Act.put _ (some 128) _) _
              simp only [Act.put]
              try simp only [List.setIfInBounds_toArray, List.set_cons_zero, List.set_cons_succ]
              refine wpAnyH_take (i := 2) (v := .pointer (some ⟨g3, 0, none⟩)) rfl (by kernel_rfl) (by kernel_rfl) (by kernel_rfl) (fun _ _ _ h => h) (Or.inl ⟨by kernel_rfl, fun u hSw => (by go_simp)⟩) hS ?_
              change wpAnyH _ _ _ _ _ _ _ (Act.put _ (some 129) _) _
              simp only [Act.put]
              try simp only [List.setIfInBounds_toArray, List.set_cons_zero, List.set_cons_succ]
              refine wpAnyH_take (i := 3) (v := .slice B1 q d1) rfl (by kernel_rfl) (by kernel_rfl) (by kernel_rfl) (fun _ _ _ h => h) (Or.inl ⟨by kernel_rfl, fun u hSw => (by have q0 := hSw.2.1.cell 0; go_simp)⟩) hS ?_
              change wpAnyH _ _ _ _ _ _ _ (Act.put _ (some 130) _) _
              simp only [Act.put]
              try simp only [List.setIfInBounds_toArray, List.set_cons_zero, List.set_cons_succ]
              refine wpAnyH_take (i := 4) (v := .int .i64 (q : Int)) rfl (by kernel_rfl) (by kernel_rfl) (by kernel_rfl) (fun _ _ _ h => h) (Or.inl ⟨by kernel_rfl, fun u hSw => (by go_simp)⟩) hS ?_
              change wpAnyH _ _ _ _ _ _ _ (Act.put _ (some 131) _) _
              simp only [Act.put]
              try simp only [List.setIfInBounds_toArray, List.set_cons_zero, List.set_cons_succ]
              refine wpAnyH_take (i := 5) (v := .bool true) rfl (by kernel_rfl) (by kernel_rfl) (by kernel_rfl) (fun _ _ _ h => h) (Or.inl ⟨by kernel_rfl, fun u hSw => (by go_simp)⟩) hS ?_
              change wpAnyH _ _ _ _ _ _ _ (Act.put _ (some 132) _) _
              simp only [Act.put]
              try simp only [List.setIfInBounds_toArray, List.set_cons_zero, List.set_cons_succ]
              refine wpAnyH_take (i := 6) (v := .bool true) rfl (by kernel_rfl) (by kernel_rfl) (by kernel_rfl) (fun _ _ _ h => h) (Or.inl ⟨by kernel_rfl, fun u hSw => (by go_simp)⟩) hS ?_
              change wpAnyH _ _ _ _ _ _ _ (Act.put _ (some 133) _) _
              simp only [Act.put]
              try simp only [List.setIfInBounds_toArray, List.set_cons_zero, List.set_cons_succ]
              refine wpAnyH_take (i := 7) (v := .bool true) rfl (by kernel_rfl) (by kernel_rfl) (by kernel_rfl) (fun _ _ _ h => h) (Or.inl ⟨by kernel_rfl, fun u hSw => (by go_simp)⟩) hS ?_
              change wpAnyH _ _ _ _ _ _ _ (Act.put _ (some 134) _) _
              simp only [Act.put]
              try simp only [List.setIfInBounds_toArray, List.set_cons_zero, List.set_cons_succ]
              refine wpAnyH_take (i := 8) (v := .slice (some ad) k c9) rfl (by kernel_rfl) (by kernel_rfl) (by kernel_rfl) (fun _ _ _ h => h) (Or.inl ⟨by kernel_rfl, fun u hSw => (by go_simp)⟩) hS ?_
              change wpAnyH _ _ _ _ _ _ _ (Act.put _ (some 135) _) _
              simp only [Act.put]
              try simp only [List.setIfInBounds_toArray, List.set_cons_zero, List.set_cons_succ]
              refine wpAnyH_take (i := 9) (v := .int .i64 (k : Int)) rfl (by kernel_rfl) (by kernel_rfl) (by kernel_rfl) (fun _ _ _ h => h) (Or.inl ⟨by kernel_rfl, fun u hSw => (by go_simp)⟩) hS ?_
              change wpAnyH _ _ _ _ _ _ _ (Act.put _ (some 136) _) _
              simp only [Act.put]
              try simp only [List.setIfInBounds_toArray, List.set_cons_zero, List.set_cons_succ]
              refine wpAnyH_take (i := 10) (v := .bool true) rfl (by kernel_rfl) (by kernel_rfl) (by kernel_rfl) (fun _ _ _ h => h) (Or.inl ⟨by kernel_rfl, fun u hSw => (by go_simp)⟩) hS ?_
              change wpAnyH _ _ _ _ _ _ _ (Act.put _ (some 137) _) _
              simp only [Act.put]
              try simp only [List.setIfInBounds_toArray, List.set_cons_zero, List.set_cons_succ]
              refine wpAnyH_take (i := 11) (v := .bool true) rfl (by kernel_rfl) (by kernel_rfl) (by kernel_rfl) (fun _ _ _ h => h) (Or.inl ⟨by kernel_rfl, fun u hSw => (by go_simp)⟩) hS ?_
              change wpAnyH _ _ _ _ _ _ _ (Act.put _ (some 138) _) _
              simp only [Act.put]
              try simp only [List.setIfInBounds_toArray, List.set_cons_zero, List.set_cons_succ]
              refine wpAnyH_take (i := 12) (v := .bool true) rfl (by kernel_rfl) (by kernel_rfl) (by kernel_rfl) (fun _ _ _ h => h) (Or.inl ⟨by kernel_rfl, fun u hSw => (by go_simp)⟩) hS ?_
              change wpAnyH _ _ _ _ _ _ _ (Act.put _ (some 139) _) _
              simp only [Act.put]
              try simp only [List.setIfInBounds_toArray, List.set_cons_zero, List.set_cons_succ]
              refine wpAnyH_take (i := 13) (v := .bool true) rfl (by kernel_rfl) (by kernel_rfl) (by kernel_rfl) (fun _ _ _ h => h) (Or.inl ⟨by kernel_rfl, fun u hSw => (by go_simp)⟩) hS ?_
              change wpAnyH _ _ _ _ _ _ _ (Act.put _ (some 140) _) _
              simp only [Act.put]
              try simp only [List.setIfInBounds_toArray, List.set_cons_zero, List.set_cons_succ]
              refine wpAnyH_take (i := 14) (v := .bool true) rfl (by kernel_rfl) (by kernel_rfl) (by kernel_rfl) (fun _ _ _ h => h) (Or.inl ⟨by kernel_rfl, fun u hSw => (by go_simp)⟩) hS ?_
              change wpAnyH _ _ _ _ _ _ _ (Act.put _ (some 141) _) _
              simp only [Act.put]
              try simp only [List.setIfInBounds_toArray, List.set_cons_zero, List.set_cons_succ]
              refine wpAnyH_take (i := 15) (v := .bool false) rfl (by kernel_rfl) (by kernel_rfl) (by kernel_rfl) (fun _ _ _ h => h) (Or.inl ⟨by kernel_rfl, fun u hSw => (by go_simp)⟩) hS ?_
              change wpAnyH _ _ _ _ _ _ _ (Act.put _ (some 142) _) _
              simp only [Act.put]
              try simp only [List.setIfInBounds_toArray, List.set_cons_zero, List.set_cons_succ]
              refine wpAnyH_take (i := 16) (v := .bool false) rfl (by kernel_rfl) (by kernel_rfl) (by kernel_rfl) (fun _ _ _ h => h) (Or.inl ⟨by kernel_rfl, fun u hSw => (by go_simp)⟩) hS ?_
              change wpAnyH _ _ _ _ _ _ _ (Act.put _ (some 143) _) _
              simp only [Act.put]
              try simp only [List.setIfInBounds_toArray, List.set_cons_zero, List.set_cons_succ]
              refine wpAnyH_take (i := 17) (v := .pointer (some ⟨g19, 0, none⟩)) rfl (by kernel_rfl) (by kernel_rfl) (by kernel_rfl) (fun _ _ _ h => h) (Or.inl ⟨by kernel_rfl, fun u hSw => (by go_simp)⟩) hS ?_
              change wpAnyH _ _ _ _ _ _ _ (Act.put _ (some 144) _) _
              simp only [Act.put]
              try simp only [List.setIfInBounds_toArray, List.set_cons_zero, List.set_cons_succ]
              refine wpAnyH_take (i := 18) (v := .slice A3 n1 c3) rfl (by kernel_rfl) (by kernel_rfl) (by kernel_rfl) (fun _ _ _ h => h) (Or.inl ⟨by kernel_rfl, fun u hSw => (by have q0 := hSw.2.2.cell 0; go_simp)⟩) hS ?_
              change wpAnyH _ _ _ _ _ _ _ (Act.put _ (some 145) _) _
              simp only [Act.put]
              try simp only [List.setIfInBounds_toArray, List.set_cons_zero, List.set_cons_succ]
              refine wpAnyH_take (i := 19) (v := .slice (some ad) k c9) rfl (by kernel_rfl) (by kernel_rfl) (by kernel_rfl) (fun _ _ _ h => h) (Or.inl ⟨by kernel_rfl, fun u hSw => (by go_simp)⟩) hS ?_
              change wpAnyH _ _ _ _ _ _ _ (Act.put _ (some 146) _) _
              simp only [Act.put]
              try simp only [List.setIfInBounds_toArray, List.set_cons_zero, List.set_cons_succ]
              refine wpAnyH_take (i := 20) (v := .pointer (some (ad))) rfl (by kernel_rfl) (by kernel_rfl) (by kernel_rfl) (fun _ _ _ h => h) (Or.inl ⟨by kernel_rfl, fun u hSw => (by go_simp)⟩) hS ?_
              change wpAnyH _ _ _ _ _ _ _ (Act.put _ (some 147) _) _
              simp only [Act.put]
              try simp only [List.setIfInBounds_toArray, List.set_cons_zero, List.set_cons_succ]
              refine wpAnyH_take (i := 21) (v := .pointer (some (ad))) rfl (by kernel_rfl) (by kernel_rfl) (by kernel_rfl) (fun _ _ _ h => h) (Or.inl ⟨by kernel_rfl, fun u hSw => (by go_simp)⟩) hS ?_
              change wpAnyH _ _ _ _ _ _ _ (Act.put _ (some 148) _) _
              simp only [Act.put]
              try simp only [List.setIfInBounds_toArray, List.set_cons_zero, List.set_cons_succ]
              refine wpAnyH_take (i := 22) (v := .slice A1 n1 c1) rfl (by kernel_rfl) (by kernel_rfl) (by kernel_rfl) (fun _ _ _ h => h) (Or.inl ⟨by kernel_rfl, fun u hSw => (by have q1 := HF.out u (HI3.out.2.trans (hSw.1.mono HI3.out.2.size)); go_simp)⟩) hS ?_
              change wpAnyH _ _ _ _ _ _ _ (Act.put _ (some 149) _) _
              simp only [Act.put]
              try simp only [List.setIfInBounds_toArray, List.set_cons_zero, List.set_cons_succ]
              refine wpAnyH_ready (rs := [23]) (by kernel_rfl) (by simp) ?_
              refine AllReadyH.cons rfl (fun K hK => ?_) AllReadyH.nil
              go_simp
              refine (HEq.out _ hS.1).mono ?_
              rintro e1 w1 ⟨rfl, h9⟩
              have S1 : Below V9.heap.size V9 w1 ∧ Blk w1 g3 30 #[.slice B1 q d1, .slice B2 m2 d2, .slice B3 m3 d3] ∧ Blk w1 g19 47 #[.slice A3 n1 c3, .int .u64 (h1 : Int), .int .u64 (l1 : Int), .int .u64 (x1 : Int), .int .u64 (o1 : Int), .bool f1] := ⟨hS.1.trans (h9.mono hS.1.size), hS.2.1.below h9 hS.2.1.lt, hS.2.2.below h9 hS.2.2.lt⟩
              clear h9 hS
              refine hK.out _ _ S1 (fun hS => ?_)
              clear hK K S1
              refine wpAnyH_take (i := 24) (v := .bool true) rfl (by kernel_rfl) (by kernel_rfl) (by kernel_rfl) (fun _ _ _ h => h) (Or.inl ⟨by kernel_rfl, fun u hSw => (by go_simp)⟩) hS ?_
              change wpAnyH _ _ _ _ _ _ _ (Act.put _ (some 151) _) _
              simp only [Act.put]
              try simp only [List.setIfInBounds_toArray, List.set_cons_zero, List.set_cons_succ]
              refine wpAnyH_take (i := 25) (v := .bool true) rfl (by kernel_rfl) (by kernel_rfl) (by kernel_rfl) (fun _ _ _ h => h) (Or.inl ⟨by kernel_rfl, fun u hSw => (by go_simp)⟩) hS ?_
              change wpAnyH _ _ _ _ _ _ _ (Act.put _ (some 152) _) _
              simp only [Act.put]
              try simp only [List.setIfInBounds_toArray, List.set_cons_zero, List.set_cons_succ]
              refine wpAnyH_take (i := 26) (v := .bool true) rfl (by kernel_rfl) (by kernel_rfl) (by kernel_rfl) (fun _ _ _ h => h) (Or.inl ⟨by kernel_rfl, fun u hSw => (by go_simp)⟩) hS ?_
              change wpAnyH _ _ _ _ _ _ _ (Act.put _ (some 2) _) _
              simp only [Act.put]
              try simp only [List.setIfInBounds_toArray, List.set_cons_zero, List.set_cons_succ]
              refine wpAnyH_done (by kernel_rfl) ?_ _
              have hS9 := hS.1
              clear hS
              have HBe := Lib.hid (HGF.out.trans (hS9.mono HGF.out.size))
              clear hS9
              go_wp2_with fail
              go_ret
              exact ⟨rfl, HBe.out⟩
  · have HEn := Lib.hid (entities_no B1 m1 d1 q5 B2 m2 d2 w5 B3 m3 d3 G Y (HQ.out.below GY) (HW.out.below GY) (HGW.out.below GY) hok)
    obtain ⟨r, hr⟩ : ∃ r, chkO q5 w5 (gsI G) = r := ⟨_, rfl⟩
    rw [hr] at HEn
    have c1 : (r != 0) = true := by rw [← hr]; simpa using hok
    clear hr hok
    go_wp2_with fail
    refine HEn.out.mono ?_
    rintro e w3 ⟨rfl, h9⟩
    have HBe := Lib.hid (HGB.out.trans ((GY.trans (h9.mono GY.size)).mono HGB.out.size))
    clear h9 z0 z1 z2 K3 GY
    go_wp2_with fail
    go_ret
    exact ⟨rfl, HBe.out⟩

end Go.Proofs.Ytniilfcbiliegaa
