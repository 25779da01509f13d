/-
  Several texts as one.
-/
import Derived.Test.YtngbamoffjlodaaZMm
import Derived.Test.YtngbamoffjlodaaZTf
/-
  The document's waits. No statement is proved here.
-/
namespace Go.Proofs.Ytngbamoffjlodaa
open Go.RowKit Go.Maps

set_option maxRecDepth 100000 in
set_option maxHeartbeats 16000000 in
theorem ewaits_any (A' : Option Addr) (n' c' : Nat) (ws : List Wt) (A : Option Addr) (n c : Nat) (qs : List Rn) (w : World) (hW : WT w A' n' c' ws) (hG : QR w A n c qs) :
    Calls Try.prog 34 #[.agg #[.slice A n c], .slice A' n' c'] w (Said (.bool (waitsB qs ws)) w) := by
  have HG := Lib.hid hG
  have HW := Lib.hid hW
  have HN : Hid (n ≤ 1000) := Lib.hid hG.small
  have HL := Lib.hid hG.len
  have HL' := Lib.hid hW.len
  have HNC := Lib.hid hW.nc
  obtain ⟨K0, GB⟩ := box1 w 26 #[.slice A n c]
  clear hG hW
  have z0 := K0.cell 0
  by_cases hnn : n' = n
  · subst hnn
    go_enter Try.func34, Try.ntmps34
    go_wp2_with fail
    clear z0
    generalize World.alloc _ _ = X at K0 GB ⊢
    go_loopw [17] (fun iv wr => ∃ k : Nat, k ≤ n' ∧ iv = .int .i64 (k : Int) ∧ Hid (∀ j, j < k → wOk qs ws j = true) ∧ Hid (Blk wr w.heap.size 26 #[.slice A n' c]) ∧ Hid (Below w.heap.size w wr)) (fun iv _ => n' - (intOf iv).toNat)
    case atStart => exact ⟨0, by omega, rfl, Lib.hid (fun j hj => by omega), Lib.hid K0, Lib.hid GB⟩
    case round =>
      clear K0 GB
      obtain ⟨k, hk, rfl, HA, HK, HB⟩ := hrel
      by_cases hlt : k < n'
      · obtain ⟨⟨ri, a, h, l, x⟩, hx⟩ := elem_at (l := qs) (k := k) (by rw [HL.out]; exact hlt)
        obtain ⟨⟨i, o, f⟩, hy⟩ := elem_at (l := ws) (k := k) (by rw [HL'.out]; exact hlt)
        have HX := Lib.hid hx
        have HY := Lib.hid hy
        have HKL : Hid (k < ws.length) := Lib.hid (by rw [HL'.out]; exact hlt)
        obtain ⟨ad', rfl, hb2, d0, d1, d2⟩ := (HW.out.below HB.out).at_ hy
        have K1 := Blk.new wr 67 #[.int .i64 i, .int .u64 (o : Int), .bool f]
        have B1 := HB.out.alloc HB.out.size (.cells #[.int .i64 i, .int .u64 (o : Int), .bool f] 67)
        have KQ := HK.out.alloc (.cells #[.int .i64 i, .int .u64 (o : Int), .bool f] 67)
        obtain ⟨ad, rfl, hb1, e0, e1, e2, e3, e4⟩ := rn_at ((HG.out.below B1).row) hx
        have i1 : (0 : Int) ≤ (k : Int) := by omega
        have i2 : (k : Int) < (n' : Int) := by omega
        have hn := HN.out
        have HB1 := Lib.hid B1
        have z0 := K1.cell 0
        have z1 := K1.cell 1
        have y0 := KQ.cell 0
        clear hx hy hb1 hb2 e1 e2 e3 e4
        by_cases c1 : i = ri
        · subst c1
          have c1b : (i != i) = false := by simp
          by_cases c2 : o < 1
          · have c2d : decide ((o : Int) < 1) = true := decide_eq_true (by omega)
            have HV : Hid (waitsB qs ws = false) := Lib.hid (waits_no HKL.out (wOk_no HY.out HX.out (.inr (.inl (by omega)))))
            clear K1 B1 KQ
            go_wp2_with fail
            go_quiet (fail)
            go_wp2_with fail
            go_ret
            exact ⟨retB HV.out.symm, below_drewN HB1.out _⟩
          · have c2d : decide ((o : Int) < 1) = false := decide_eq_false (by omega)
            by_cases c3 : 4611686018427387904 < o
            · have c3d : decide ((4611686018427387904 : Int) < (o : Int)) = true := decide_eq_true (by omega)
              have HV : Hid (waitsB qs ws = false) := Lib.hid (waits_no HKL.out (wOk_no HY.out HX.out (.inr (.inr (.inl (by omega))))))
              clear K1 B1 KQ
              go_wp2_with fail
              go_quiet (fail)
              go_wp2_with fail
              go_ret
              exact ⟨retB HV.out.symm, below_drewN HB1.out _⟩
            · have c3d : decide ((4611686018427387904 : Int) < (o : Int)) = false := decide_eq_false (by omega)
              have i3 : (k : Int) ≤ (c' : Int) := by have := HNC.out; omega
              have HK1 := Lib.hid K1
              have HKQ := Lib.hid KQ
              clear K1 B1 KQ
              go_wp2_with fail
              go_quiet (fail)
              go_upto_region 8 with fail
              clear z0 z1 y0 d0 d1 d2 e0 c2d c3d c1b
              generalize hY : World.drewN _ _ = Y
              have BY : Below w.heap.size w Y := by rw [← hY]; exact below_drewN HB1.out _
              have KY : Blk Y wr.heap.size 67 #[.int .i64 i, .int .u64 (o : Int), .bool f] := by rw [← hY]; exact HK1.out
              have KQY : Blk Y w.heap.size 26 #[.slice (some ad) n' c] := by rw [← hY]; exact HKQ.out
              clear hY HK1 HKQ HB1 HB HK
              obtain ⟨g6, hg6⟩ : ∃ g, wr.heap.size = g := ⟨_, rfl⟩
              rw [hg6] at KY ⊢
              have HV2 := Lib.hid (And.intro KY (And.intro KQY BY))
              clear hg6 KY KQY BY
              go_wp2_with fail
              go_loopw [45] (fun iv wr => ∃ j : Nat, j ≤ k ∧ iv = .int .i64 (j : Int) ∧ Hid ((o : Int) ∉ ordL (ws.take j)) ∧ Hid (Below Y.heap.size Y wr)) (fun iv _ => k - (intOf iv).toNat)
              case atStart => exact ⟨0, by omega, rfl, Lib.hid (by unfold ordL; simp), Lib.hid (Below.refl _ _)⟩
              case round =>
                obtain ⟨j, hj, rfl, HNo, HB⟩ := hrel
                by_cases hjt : j < k
                · obtain ⟨⟨i2', o2, f2⟩, hz⟩ := elem_at (l := ws) (k := j) (by rw [HL'.out]; omega)
                  have HGW := Lib.hid (HV2.out.2.2.trans (HB.out.mono HV2.out.2.2.size))
                  obtain ⟨ad2, ee, hb2, d0, d1, d2⟩ := (HW.out.below HGW.out).at_ hz
                  obtain rfl : ad' = ad2 := Option.some.inj ee
                  have KD := (HV2.out.1.below HB.out HV2.out.1.lt).alloc (.cells #[.int .i64 i2', .int .u64 (o2 : Int), .bool f2] 67)
                  have KN := Blk.new wr 67 #[.int .i64 i2', .int .u64 (o2 : Int), .bool f2]
                  have HBX := Lib.hid (HB.out.alloc HB.out.size (.cells #[.int .i64 i2', .int .u64 (o2 : Int), .bool f2] 67))
                  have HSn := Lib.hid (ordL_snoc hz)
                  have HZ := Lib.hid hz
                  have j1 : (0 : Int) ≤ (j : Int) := by omega
                  have j2 : (j : Int) < (k : Int) := by omega
                  have z1 := KD.cell 1
                  have y1 := KN.cell 1
                  clear hz ee hb2 KD KN
                  by_cases ho : o2 = o
                  · have c5 : ((o2 : Int) == (o : Int)) = true := by simp; omega
                    have HV : Hid (waitsB qs ws = false) := Lib.hid (waits_no HKL.out (wOk_no HY.out HX.out (.inr (.inr (.inr (by
                      rw [ordL_mem]
                      refine List.mem_map.2 ⟨(i2', o2, f2), ?_, ho⟩
                      exact List.mem_iff_getElem?.2 ⟨j, by rw [List.getElem?_take, if_pos hjt]; exact HZ.out⟩))))))
                    have HBe := Lib.hid (HV2.out.2.2.trans (HBX.out.mono HV2.out.2.2.size))
                    clear ho
                    go_wp2_with fail
                    go_ret
                    exact ⟨retB HV.out.symm, HBe.out⟩
                  · have c5 : ((o2 : Int) == (o : Int)) = false := by simp; omega
                    have HN2 : Hid ((o : Int) ∉ ordL (ws.take (j + 1))) := Lib.hid (by
                      rw [HSn.out]
                      intro hm
                      rcases List.mem_append.1 hm with h1 | h1
                      · exact HNo.out h1
                      · exact ho (by have := List.mem_singleton.1 h1; omega))
                    clear ho
                    go_wp2_with fail
                    go_roundw
                    case rel => exact ⟨j + 1, by omega, by go_num, HN2, HBX⟩
                    case measure => simp [intOf] <;> omega
                · obtain rfl : j = k := by omega
                  have HA2 : Hid (∀ q, q < j + 1 → wOk qs ws q = true) := Lib.hid (fun q hq => by
                    by_cases e : q = j
                    · subst e; exact wOk_yes HY.out HX.out rfl (by omega) (by omega) HNo.out
                    · exact HA.out q (by omega))
                  have HKe := Lib.hid (HV2.out.2.1.below HB.out HV2.out.2.1.lt)
                  have HBe := Lib.hid (HV2.out.2.2.trans (HB.out.mono HV2.out.2.2.size))
                  go_wp2_with fail
                  go_roundw
                  case rel => exact ⟨j + 1, by omega, by go_num, HA2, HKe, HBe⟩
                  case measure => simp [intOf] <;> omega
        · have c1b : (i != ri) = true := by simpa using c1
          have HV : Hid (waitsB qs ws = false) := Lib.hid (waits_no HKL.out (wOk_no HY.out HX.out (.inl c1)))
          clear K1 B1 KQ
          go_wp2_with fail
          go_quiet (fail)
          go_wp2_with fail
          go_ret
          exact ⟨retB HV.out.symm, below_drewN HB1.out _⟩
      · obtain rfl : k = n' := by omega
        have HV : Hid (waitsB qs ws = true) := Lib.hid (waits_yes (by rw [HL.out, HL'.out]) fun q hq => HA.out q (by rw [HL'.out] at hq; exact hq))
        go_wp2
        go_ret
        exact ⟨retB HV.out.symm, HB.out⟩
  · have HV : Hid (waitsB qs ws = false) := Lib.hid (waits_len (by rw [HL.out, HL'.out]; exact hnn))
    have c1 : ((n' : Int) != (n : Int)) = true := by simp; omega
    have c2 : (n' != n) = true := by simpa using hnn
    go_enter Try.func34, Try.ntmps34
    go_wp2_with fail
    go_ret
    exact ⟨retB HV.out.symm, GB⟩

end Go.Proofs.Ytngbamoffjlodaa
/-
  The document's apart. No statement is proved here.
-/
namespace Go.Proofs.Ytngbamoffjlodaa
open Go.RowKit Go.Maps

set_option maxRecDepth 100000 in
set_option maxHeartbeats 16000000 in
theorem eapart_any (A : Option Addr) (n c : Nat) (gs : List Gg) (w : World) (hG : GW w A n gs) (hc : n ≤ c) : Calls Try.prog 35 #[.slice A n c] w (Said (.bool (gangsB (gsI gs))) w) := by
  have HG := Lib.hid hG
  have hn := hG.small
  have HL := Lib.hid hG.len
  clear hG
  go_enter Try.func35, Try.ntmps35
  go_wp2_with fail
  go_loopw [11] (fun iv wr => ∃ k : Nat, k ≤ n ∧ iv = .int .i64 (k : Int) ∧ wr = w ∧ Hid (∀ j, j < k → gOk (gsI gs) j = true)) (fun iv _ => n - (intOf iv).toNat)
  case atStart => exact ⟨0, by omega, rfl, rfl, Lib.hid (fun j hj => by omega)⟩
  case round =>
    obtain ⟨k, hk, rfl, rfl, HA⟩ := hrel
    by_cases hlt : k < n
    · obtain ⟨⟨A1, n1, c1, is⟩, hx⟩ := elem_at (l := gs) (k := k) (by rw [HL.out]; exact hlt)
      obtain ⟨ad, rfl, _, d0⟩ := HG.out.at_ hx
      have HI := Lib.hid (HG.out.each _ (List.mem_of_getElem? hx))
      have HX := Lib.hid (gsI_at hx)
      have HLI : Hid (is.length = n1) := Lib.hid HI.out.1.len
      have hn1 : n1 ≤ 100 := HI.out.2
      have HKL : Hid (k < (gsI gs).length) := Lib.hid (by rw [gsI_len, HL.out]; exact hlt)
      have i1 : (0 : Int) ≤ (k : Int) := by omega
      have i2 : (k : Int) < (n : Int) := by omega
      have i3 : (k : Int) ≤ (c : Int) := by omega
      clear hx
      go_wp2_with fail
      go_loopw [18] (fun iv w2 => ∃ j : Nat, j ≤ n1 ∧ iv = .int .i64 (j : Int) ∧ w2 = wr ∧ Hid (gPre ((gsI gs).take k) is j)) (fun iv _ => n1 - (intOf iv).toNat)
      case atStart => exact ⟨0, by omega, rfl, rfl, Lib.hid (gPre_zero _ _)⟩
      case round =>
        obtain ⟨j, hj, rfl, rfl, HP⟩ := hrel
        by_cases hjt : j < n1
        · obtain ⟨x, hxj⟩ := elem_at (l := is) (k := j) (by rw [HLI.out]; exact hjt)
          obtain ⟨a1, rfl, _, e0⟩ := HI.out.1.at_ hxj
          have HXJ := Lib.hid hxj
          have HId := Lib.hid (fun (u : World) => rid_any x u)
          have j1 : (0 : Int) ≤ (j : Int) := by omega
          have j2 : (j : Int) < (n1 : Int) := by omega
          clear hxj
          cases hid : idB x with
          | false =>
            have HV : Hid (gangsB (gsI gs) = false) := Lib.hid (gangs_no HKL.out (gOk_rise HX.out HP.out HXJ.out (fun h => by
              have h0 := HP.out.2.2.2.2
              have : idB x = true := by unfold idB; rw [decide_eq_true (by omega), decide_eq_true h.2]; rfl
              rw [this] at hid
              cases hid)))
            rw [hid] at HId
            clear hid
            go_wp2_with fail
            refine (HId.out _).mono ?_
            rintro e w3 ⟨rfl, rfl⟩
            go_wp2_with fail
            go_ret
            exact ⟨retB HV.out.symm, Below.refl _ _⟩
          | true =>
            have hx16 : 1 ≤ x ∧ x ≤ 16 := by unfold idB at hid; simpa using hid
            rw [hid] at HId
            have HRT : Hid (lastI is j < x → ∀ (u : World), True) := Lib.hid (fun _ _ => trivial)
            clear hid HRT
            by_cases hr : lastI is j < x
            · have HRR := Lib.hid hr
              have hj100 : j < 1000 := by omega
              clear hr
              by_cases h0 : j = 0
              · have q1 : decide ((0 : Int) < (j : Int)) = false := decide_eq_false (by omega)
                have q2 : ¬ (0 : Int) < (j : Int) := by omega
                have q5 : ¬ 0 < j := by omega
                clear h0
                go_wp2_with fail
                refine (HId.out _).mono ?_
                rintro e w3 ⟨rfl, rfl⟩
                clear e0
                go_wp2_with fail
                go_loopw [43] (fun iv wx => ∃ q : Nat, q ≤ k ∧ iv = .int .i64 (q : Int) ∧ wx = wr ∧ Hid (∀ g ∈ (gsI gs).take q, x ∉ g)) (fun iv _ => k - (intOf iv).toNat)
                case atStart => exact ⟨0, by omega, rfl, rfl, Lib.hid (by simp)⟩
                case round =>
                  obtain ⟨q, hq, rfl, rfl, HNo⟩ := hrel
                  by_cases hqt : q < k
                  · obtain ⟨⟨A2, n2, c2', is2⟩, hy⟩ := elem_at (l := gs) (k := q) (by rw [HL.out]; omega)
                    obtain ⟨ad2, ee, _, d1⟩ := HG.out.at_ hy
                    obtain rfl : ad = ad2 := Option.some.inj ee
                    have HY := Lib.hid (gsI_at hy)
                    have HH := Lib.hid (fun (u : World) (h : IR u A2 n2 is2) => rhas_any A2 n2 c2' is2 x u h)
                    have HI2 := Lib.hid (HG.out.each _ (List.mem_of_getElem? hy)).1
                    have r1 : (0 : Int) ≤ (q : Int) := by omega
                    have r2 : (q : Int) < (k : Int) := by omega
                    clear hy ee
                    cases hm : decide (x ∈ is2) with
                    | true =>
                      have HV : Hid (gangsB (gsI gs) = false) := Lib.hid (gangs_no HKL.out (gOk_met HX.out HXJ.out (aloneB_false (g := is2) (List.mem_iff_getElem?.2 ⟨q, by rw [List.getElem?_take, if_pos hqt]; exact HY.out⟩) (of_decide_eq_true hm))))
                      rw [hm] at HH
                      clear hm
                      go_wp2_with fail
                      refine (HH.out _ HI2.out).mono ?_
                      rintro e w3 ⟨rfl, rfl⟩
                      go_wp2_with fail
                      go_ret
                      exact ⟨retB HV.out.symm, Below.refl _ _⟩
                    | false =>
                      have HN2 : Hid (∀ g ∈ (gsI gs).take (q + 1), x ∉ g) := Lib.hid (fun g hg => by
                        rw [List.take_add_one, HY.out] at hg
                        rcases List.mem_append.1 hg with h1 | h1
                        · exact HNo.out g h1
                        · rw [show g = is2 from by simpa using h1]; exact of_decide_eq_false hm)
                      rw [hm] at HH
                      clear hm
                      go_wp2_with fail
                      refine (HH.out _ HI2.out).mono ?_
                      rintro e w3 ⟨rfl, rfl⟩
                      go_wp2_with fail
                      go_roundw
                      case rel => exact ⟨q + 1, by omega, by go_num, trivial, HN2⟩
                      case measure => simp [intOf] <;> omega
                  · obtain rfl : q = k := by omega
                    have HP2 := Lib.hid (gPre_step HP.out HXJ.out HRR.out hx16.2 (aloneB_iff.2 HNo.out))
                    go_wp2_with fail
                    go_roundw
                    case rel => exact ⟨j + 1, by omega, by go_num, trivial, HP2⟩
                    case measure => simp [intOf] <;> omega
              · obtain ⟨p, hpj⟩ : ∃ p, j = p + 1 := ⟨j - 1, by omega⟩
                obtain ⟨y, hyp⟩ := elem_at (l := is) (k := p) (by rw [HLI.out]; omega)
                have hr := HRR.out
                rw [hpj, lastI_at hyp] at hr
                obtain ⟨a2, ee, _, e1⟩ := HI.out.1.at_ hyp
                obtain rfl : a1 = a2 := Option.some.inj ee
                have hs1 : (j : Int) - 1 = (p : Int) := by omega
                have hs2 : IntKind.i64.wrap (p : Int) = (p : Int) := IntWalk.i64_in _ (by omega)
                have p1 : (0 : Int) ≤ (p : Int) := by omega
                have p2 : (p : Int) < (n1 : Int) := by omega
                have q1 : decide ((0 : Int) < (j : Int)) = true := decide_eq_true (by omega)
                have q2 : (0 : Int) < (j : Int) := by omega
                have q5 : 0 < j := by omega
                have q3 : decide (x ≤ y) = false := decide_eq_false (by omega)
                have q4 : ¬ x ≤ y := by omega
                clear hyp ee hr hpj
                go_wp2_with fail
                refine (HId.out _).mono ?_
                rintro e w3 ⟨rfl, rfl⟩
                go_wp2_with fail
                clear e0 e1
                go_loopw [43] (fun iv wx => ∃ q : Nat, q ≤ k ∧ iv = .int .i64 (q : Int) ∧ wx = wr ∧ Hid (∀ g ∈ (gsI gs).take q, x ∉ g)) (fun iv _ => k - (intOf iv).toNat)
                case atStart => exact ⟨0, by omega, rfl, rfl, Lib.hid (by simp)⟩
                case round =>
                  obtain ⟨q, hq, rfl, rfl, HNo⟩ := hrel
                  by_cases hqt : q < k
                  · obtain ⟨⟨A2, n2, c2', is2⟩, hy⟩ := elem_at (l := gs) (k := q) (by rw [HL.out]; omega)
                    obtain ⟨ad2, ee, _, d1⟩ := HG.out.at_ hy
                    obtain rfl : ad = ad2 := Option.some.inj ee
                    have HY := Lib.hid (gsI_at hy)
                    have HH := Lib.hid (fun (u : World) (h : IR u A2 n2 is2) => rhas_any A2 n2 c2' is2 x u h)
                    have HI2 := Lib.hid (HG.out.each _ (List.mem_of_getElem? hy)).1
                    have r1 : (0 : Int) ≤ (q : Int) := by omega
                    have r2 : (q : Int) < (k : Int) := by omega
                    clear hy ee
                    cases hm : decide (x ∈ is2) with
                    | true =>
                      have HV : Hid (gangsB (gsI gs) = false) := Lib.hid (gangs_no HKL.out (gOk_met HX.out HXJ.out (aloneB_false (g := is2) (List.mem_iff_getElem?.2 ⟨q, by rw [List.getElem?_take, if_pos hqt]; exact HY.out⟩) (of_decide_eq_true hm))))
                      rw [hm] at HH
                      clear hm
                      go_wp2_with fail
                      refine (HH.out _ HI2.out).mono ?_
                      rintro e w3 ⟨rfl, rfl⟩
                      go_wp2_with fail
                      go_ret
                      exact ⟨retB HV.out.symm, Below.refl _ _⟩
                    | false =>
                      have HN2 : Hid (∀ g ∈ (gsI gs).take (q + 1), x ∉ g) := Lib.hid (fun g hg => by
                        rw [List.take_add_one, HY.out] at hg
                        rcases List.mem_append.1 hg with h1 | h1
                        · exact HNo.out g h1
                        · rw [show g = is2 from by simpa using h1]; exact of_decide_eq_false hm)
                      rw [hm] at HH
                      clear hm
                      go_wp2_with fail
                      refine (HH.out _ HI2.out).mono ?_
                      rintro e w3 ⟨rfl, rfl⟩
                      go_wp2_with fail
                      go_roundw
                      case rel => exact ⟨q + 1, by omega, by go_num, trivial, HN2⟩
                      case measure => simp [intOf] <;> omega
                  · obtain rfl : q = k := by omega
                    have HP2 := Lib.hid (gPre_step HP.out HXJ.out HRR.out hx16.2 (aloneB_iff.2 HNo.out))
                    go_wp2_with fail
                    go_roundw
                    case rel => exact ⟨j + 1, by omega, by go_num, trivial, HP2⟩
                    case measure => simp [intOf] <;> omega
            · obtain ⟨p, hpj⟩ : ∃ p, j = p + 1 := ⟨j - 1, by
                rcases Nat.eq_zero_or_pos j with e | e
                · subst e; exact absurd (show lastI is 0 < x from by show (0 : Int) < x; omega) hr
                · omega⟩
              obtain ⟨y, hyp⟩ := elem_at (l := is) (k := p) (by rw [HLI.out]; omega)
              have HV : Hid (gangsB (gsI gs) = false) := Lib.hid (gangs_no HKL.out (gOk_rise HX.out HP.out HXJ.out (fun h => hr h.1)))
              rw [hpj, lastI_at hyp] at hr
              obtain ⟨a2, ee, _, e1⟩ := HI.out.1.at_ hyp
              obtain rfl : a1 = a2 := Option.some.inj ee
              have hs1 : (j : Int) - 1 = (p : Int) := by omega
              have hs2 : IntKind.i64.wrap (p : Int) = (p : Int) := IntWalk.i64_in _ (by omega)
              have p1 : (0 : Int) ≤ (p : Int) := by omega
              have p2 : (p : Int) < (n1 : Int) := by omega
              have q1 : decide ((0 : Int) < (j : Int)) = true := decide_eq_true (by omega)
              have q2 : (0 : Int) < (j : Int) := by omega
              have q5 : 0 < j := by omega
              have q3 : decide (x ≤ y) = true := decide_eq_true (by omega)
              have q4 : x ≤ y := by omega
              clear hyp ee hr hpj
              go_wp2_with fail
              refine (HId.out _).mono ?_
              rintro e w3 ⟨rfl, rfl⟩
              go_wp2_with fail
              go_ret
              exact ⟨retB HV.out.symm, Below.refl _ _⟩
        · obtain rfl : j = n1 := by omega
          by_cases h0 : j = 0
          · subst h0
            have HV : Hid (gangsB (gsI gs) = false) := Lib.hid (gangs_no HKL.out (gOk_nil (by rw [HX.out]; congr 1; exact List.length_eq_zero_iff.1 HLI.out)))
            go_wp2_with fail
            go_ret
            exact ⟨retB HV.out.symm, Below.refl _ _⟩
          · have c0 : ((j : Int) == 0) = false := by simp; omega
            have c00 : ¬ (j : Int) = 0 := by omega
            have HA2 : Hid (∀ q, q < k + 1 → gOk (gsI gs) q = true) := Lib.hid (fun q hq => by
              by_cases e : q = k
              · subst e
                exact gOk_of HX.out (by rw [HLI.out]; exact HP.out) (fun e => by have := HLI.out; rw [e] at this; simp at this; omega)
              · exact HA.out q (by omega))
            go_wp2_with fail
            go_roundw
            case rel => exact ⟨k + 1, by omega, by go_num, trivial, HA2⟩
            case measure => simp [intOf] <;> omega
    · obtain rfl : k = n := by omega
      have HV : Hid (gangsB (gsI gs) = true) := Lib.hid (gangs_yes fun q hq => HA.out q (by rw [gsI_len, HL.out] at hq; exact hq))
      go_wp2_with fail
      go_ret
      exact ⟨retB HV.out.symm, Below.refl _ _⟩

end Go.Proofs.Ytngbamoffjlodaa
/-
  The document's Check. No statement is proved here.
-/
namespace Go.Proofs.Ytngbamoffjlodaa
open Go.RowKit Go.Maps

set_option maxRecDepth 100000 in
set_option maxHeartbeats 8000000 in
theorem echeck_any (A : Option Addr) (n c : Nat) (qs : List Rn) (A' : Option Addr) (n' c' : Nat) (ws : List Wt) (A2 : Option Addr) (n2 c2 : Nat) (gs : List Gg) (w : World) (hG : QR w A n c qs) (hW : WT w A' n' c' ws) (hS : GW w A2 n2 gs) (hc : n2 ≤ c2) :
    Calls Try.prog 11 #[.agg #[.slice A n c], .slice A' n' c', .slice A2 n2 c2] w (Said (.int .i64 (chkO qs ws (gsI gs))) w) := by
  have HR := Lib.hid (fun (u : World) (h : Below w.heap.size w u) => rrightq_any A n c qs u (hG.below h))
  have HWa := Lib.hid (fun (u : World) (h : Below w.heap.size w u) => ewaits_any A' n' c' ws A n c qs u (hW.below h) (hG.below h))
  have HAp := Lib.hid (fun (u : World) (h : Below w.heap.size w u) => eapart_any A2 n2 c2 gs u (hS.below h) hc)
  obtain ⟨K0, GB⟩ := box1 w 26 #[.slice A n c]
  clear hG hW hS
  have z0 := K0.cell 0
  have HK := Lib.hid K0
  cases hr : rightQ qs with
  | false =>
    have HV : Hid (chkO qs ws (gsI gs) = 200) := Lib.hid (by unfold chkO; rw [if_pos hr])
    rw [hr] at HR
    clear hr K0
    rw [HV.out]
    go_enter Try.func11, Try.ntmps11
    go_wp2_with fail
    refine (HR.out _ GB).mono ?_
    rintro e w1 ⟨rfl, h9⟩
    have HB := Lib.hid (GB.trans (h9.mono GB.size))
    clear h9 GB z0
    go_wp2_with fail
    go_ret
    exact ⟨rfl, HB.out⟩
  | true =>
    rw [hr] at HR
    cases hw : waitsB qs ws with
    | false =>
      have HV : Hid (chkO qs ws (gsI gs) = 220) := Lib.hid (by unfold chkO; rw [if_neg (by rw [hr]; decide), hw]; rfl)
      rw [hw] at HWa
      clear hr hw K0
      rw [HV.out]
      go_enter Try.func11, Try.ntmps11
      go_wp2_with fail
      refine (HR.out _ GB).mono ?_
      rintro e w1 ⟨rfl, h9⟩
      have GB1 := GB.trans (h9.mono GB.size)
      have z1 := (HK.out.below h9 HK.out.lt).cell 0
      clear h9 GB z0
      go_wp2_with fail
      refine (HWa.out _ GB1).mono ?_
      rintro e w2 ⟨rfl, h9⟩
      have HB := Lib.hid (GB1.trans (h9.mono GB1.size))
      clear h9 GB1 z1
      go_wp2_with fail
      go_ret
      exact ⟨rfl, HB.out⟩
    | true =>
      have HV : Hid (chkO qs ws (gsI gs) = if gangsB (gsI gs) = true then 0 else 220) := Lib.hid (by unfold chkO; rw [if_neg (by rw [hr]; decide), hw, Bool.true_and])
      rw [hw] at HWa
      clear hr hw K0
      rw [HV.out]
      cases hg : gangsB (gsI gs) with
      | false =>
        rw [hg] at HAp
        clear hg HV
        rw [if_neg (by decide)]
        go_enter Try.func11, Try.ntmps11
        go_wp2_with fail
        refine (HR.out _ GB).mono ?_
        rintro e w1 ⟨rfl, h9⟩
        have GB1 := GB.trans (h9.mono GB.size)
        have z1 := (HK.out.below h9 HK.out.lt).cell 0
        clear h9 GB z0
        go_wp2_with fail
        refine (HWa.out _ GB1).mono ?_
        rintro e w2 ⟨rfl, h9⟩
        have GB2 := GB1.trans (h9.mono GB1.size)
        clear h9 GB1 z1
        go_wp2_with fail
        refine (HAp.out _ GB2).mono ?_
        rintro e w3 ⟨rfl, h9⟩
        have HB := Lib.hid (GB2.trans (h9.mono GB2.size))
        clear h9 GB2
        go_wp2_with fail
        go_ret
        exact ⟨rfl, HB.out⟩
      | true =>
        rw [hg] at HAp
        clear hg HV
        rw [if_pos rfl]
        go_enter Try.func11, Try.ntmps11
        go_wp2_with fail
        refine (HR.out _ GB).mono ?_
        rintro e w1 ⟨rfl, h9⟩
        have GB1 := GB.trans (h9.mono GB.size)
        have z1 := (HK.out.below h9 HK.out.lt).cell 0
        clear h9 GB z0
        go_wp2_with fail
        refine (HWa.out _ GB1).mono ?_
        rintro e w2 ⟨rfl, h9⟩
        have GB2 := GB1.trans (h9.mono GB1.size)
        clear h9 GB1 z1
        go_wp2_with fail
        refine (HAp.out _ GB2).mono ?_
        rintro e w3 ⟨rfl, h9⟩
        have HB := Lib.hid (GB2.trans (h9.mono GB2.size))
        clear h9 GB2
        go_wp2_with fail
        go_ret
        exact ⟨rfl, HB.out⟩

end Go.Proofs.Ytngbamoffjlodaa
