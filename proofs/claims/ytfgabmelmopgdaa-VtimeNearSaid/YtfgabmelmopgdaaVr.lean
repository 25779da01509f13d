/-
  VtimeNear's walk. No statement is proved here.
-/
import Derived.Test.YtfgabmelmopgdaaVr0
import Derived.Deep.DeepCutAuto
namespace Go.Proofs.Ytfgabmelmopgdaa
open Go.RowKit

set_option maxRecDepth 100000 in
set_option maxHeartbeats 32000000 in
theorem near_walk (A : Option Addr) (n c : Nat) (qs : List Rn) (i e : Int) (h l x boost : Nat) (w : World) (hR : Reads w w.heap.size 5 A n (flat rv qs)) (hnc : n ≤ c) (hU : UQ qs) (hu : UR (i, e, h, l, x)) (hb0 : boost < 2 ^ 64) :
    Calls Try.prog 4 #[.agg #[.slice A n c], .agg #[.int .i64 i, .int .i64 e, .int .u64 (h : Int), .int .u64 (l : Int), .int .u64 (x : Int)], .int .u64 (boost : Int)] w (Said (.bool true) w) := by
  have HWk := Lib.hid (fun (u : World) => wakes_any u)
  have HSh := Lib.hid (fun (u : World) (h : Below w.heap.size w u) => short_any A n c qs u ((hR.below h).more h.size) hnc)
  obtain ⟨n5, hn5⟩ : ∃ k, min n 17 = k := ⟨_, rfl⟩
  obtain ⟨q5, hq5⟩ : ∃ k, qs.take 17 = k := ⟨_, rfl⟩
  have HU5 : Hid (UQ q5) := Lib.hid (by rw [← hq5]; exact take_uq hU 17)
  have HN5 : Hid (n5 ≤ 17) := Lib.hid (by omega)
  rw [hn5, hq5] at HSh
  obtain ⟨K0, K1, GB⟩ := blks2 w 26 40 #[.slice A n c] #[.int .i64 i, .int .i64 e, .int .u64 (h : Int), .int .u64 (l : Int), .int .u64 (x : Int)]
  obtain ⟨⟨L1, E1⟩, hL1⟩ : ∃ R, joinQS q5 (i, e, h, l, x) boost = R := ⟨_, rfl⟩
  have HJo := Lib.hid (fun (A : Option Addr) (n c : Nat) (u : World) (hq : QR u A n c q5) => join_any A n c q5 i e h l x boost u hq hu)
  rw [hL1] at HJo
  obtain ⟨⟨⟨t1, t2, t3⟩, any⟩, hT⟩ : ∃ t, topQ q5 = t := ⟨_, rfl⟩
  have HTo := Lib.hid (fun (A : Option Addr) (n c : Nat) (u : World) (h : QR u A n c q5) (hn : n ≤ 100) => top_any A n c q5 u h hn)
  rw [hT] at HTo
  unfold fr at HTo
  have HGe := Lib.hid (fun (A : Option Addr) (n c : Nat) (l : List Rn) (u : World) (h : QR u A n c l) => get_any A n c l i u h)
  have HL1 := Lib.hid hL1
  have HT1 := Lib.hid hT
  have Hu := Lib.hid hu
  have HBo := Lib.hid hb0
  clear hR hnc hU hn5 hq5 hL1 hT hu hb0
  go_enter Try.func4, Try.ntmps4
  go_wp2_with fail
  refine (HWk.out _).mono ?_
  rintro e w1 ⟨rfl, h9⟩
  replace K0 := K0.below h9 K0.lt
  replace K1 := K1.below h9 K1.lt
  replace GB := GB.trans (h9.mono GB.size)
  clear h9
  have zK00 := K0.cell 0
  go_wp2_with fail
  refine (HSh.out _ GB).mono ?_
  rintro e9 w2 ⟨A5, c5, rfl, own5, h9⟩
  replace K0 := K0.below h9 K0.lt
  replace K1 := K1.below h9 K1.lt
  replace GB := GB.trans (h9.mono GB.size)
  clear zK00
  have G5 := qr_own own5 (by have := HN5.out; omega) HU5.out
  clear own5 h9 HSh HWk K0
  have K7 := Blk.new w2 26 #[.slice A5 n5 c5]
  replace K1 := K1.alloc (.cells #[.slice A5 n5 c5] 26)
  replace G5 := G5.below ((Below.refl _ _).alloc (Nat.le_refl _) (.cells #[.slice A5 n5 c5] 26))
  replace GB := GB.alloc GB.size (.cells #[.slice A5 n5 c5] 26)
  have HL5 := Lib.hid G5.len
  have TX := Lib.hid (HTo.out A5 n5 c5 _ G5 (by have := HN5.out; omega))
  have zK70 := K7.cell 0
  go_wp2_with fail
  refine TX.out.mono ?_
  rintro e9 w3 ⟨rfl, h9⟩
  clear TX HTo
  replace K1 := K1.below h9 K1.lt
  replace K7 := K7.below h9 K7.lt
  replace G5 := G5.below h9
  replace GB := GB.trans (h9.mono GB.size)
  clear h9
  clear zK70
  have K8 := Blk.new w3 36 #[.int .u64 (t1 : Int), .int .u64 (t2 : Int), .int .u64 (t3 : Int)]
  replace K1 := K1.alloc (.cells #[.int .u64 (t1 : Int), .int .u64 (t2 : Int), .int .u64 (t3 : Int)] 36)
  replace K7 := K7.alloc (.cells #[.int .u64 (t1 : Int), .int .u64 (t2 : Int), .int .u64 (t3 : Int)] 36)
  replace G5 := G5.below ((Below.refl _ _).alloc (Nat.le_refl _) (.cells #[.int .u64 (t1 : Int), .int .u64 (t2 : Int), .int .u64 (t3 : Int)] 36))
  replace GB := GB.alloc GB.size (.cells #[.int .u64 (t1 : Int), .int .u64 (t2 : Int), .int .u64 (t3 : Int)] 36)
  have JX := Lib.hid (HJo.out A5 n5 c5 _ G5)
  have zK70 := K7.cell 0
  have zK10 := K1.cell 0
  have zK11 := K1.cell 1
  have zK12 := K1.cell 2
  have zK13 := K1.cell 3
  have zK14 := K1.cell 4
  go_wp2_with fail
  refine JX.out.mono ?_
  rintro e9 w4 ⟨A6, n6, c6, rfl, hl6, own6, h9⟩
  clear JX HJo
  replace K1 := K1.below h9 K1.lt
  replace K7 := K7.below h9 K7.lt
  replace K8 := K8.below h9 K8.lt
  replace G5 := G5.below h9
  replace GB := GB.trans (h9.mono GB.size)
  clear h9
  clear zK70 zK10 zK11 zK12 zK13 zK14
  have K10 := Blk.new w4 26 #[.slice A6 n6 c6]
  replace K1 := K1.alloc (.cells #[.slice A6 n6 c6] 26)
  replace K7 := K7.alloc (.cells #[.slice A6 n6 c6] 26)
  replace K8 := K8.alloc (.cells #[.slice A6 n6 c6] 26)
  replace G5 := G5.below ((Below.refl _ _).alloc (Nat.le_refl _) (.cells #[.slice A6 n6 c6] 26))
  replace GB := GB.alloc GB.size (.cells #[.slice A6 n6 c6] 26)
  replace own6 := own6.alloc (.cells #[.slice A6 n6 c6] 26)
  go_upto_region 6 with fail
  obtain ⟨Y, hY⟩ : ∃ Y, w4.alloc (.cells #[.slice A6 n6 c6] 26) = Y := ⟨_, rfl⟩
  obtain ⟨g7, hg7⟩ : ∃ g, w2.heap.size = g := ⟨_, rfl⟩
  obtain ⟨g8, hg8⟩ : ∃ g, w3.heap.size = g := ⟨_, rfl⟩
  obtain ⟨g10, hg10⟩ : ∃ g, w4.heap.size = g := ⟨_, rfl⟩
  rw [hY] at K1 K7 K8 K10 G5 GB own6 ⊢
  rw [hg7] at K7 ⊢
  rw [hg8] at K8 ⊢
  rw [hg10] at K10 ⊢
  clear hY hg7 hg8 hg10
  by_cases he : E1 = 0
  · have hj := join_one (l := q5) (r := (i, e, h, l, x)) (boost := boost) (by rw [HL1.out]; exact he)
    obtain ⟨hRq, hri, hkn, hbo⟩ := hj
    have hjy := join_yes hRq hri hkn hbo
    rw [HL1.out] at hjy
    have hrr := rightR_iff.1 hri
    have hx : 1 ≤ x ∧ x ≤ 65535 := hrr.2.2.1
    obtain ⟨N, hN⟩ : ∃ N, h * 2 ^ 64 + l = N := ⟨_, rfl⟩
    have hrN : rightN N x = true := by
      have q := right_n hri
      unfold rN rW at q
      rw [← hN]
      exact q
    have HCk := Lib.hid (fun (u : World) (l : List Rn) (hq : QR u A6 n6 c6 l) => qcheck_any A6 n6 c6 l u hq)
    have HLe := Lib.hid (fun (u : World) (l : List Rn) (hq : QR u A6 n6 c6 l) => leave_any A6 n6 c6 l i u hq)
    have e0 : (E1 != 0) = false := by rw [he]; rfl
    have main : ∀ y : Nat, y < 2 ^ 100 → L1 = insK q5 (mkR i e y x) → ∃ yh yl : Nat, y = yh * 2 ^ 64 + yl ∧ yh < 2 ^ 64 ∧ yl < 2 ^ 64 ∧ getQ L1 i = ((i, e, yh, yl, x), true) ∧ UQ L1 ∧ L1.length = q5.length + 1 ∧ chkQ L1 = 0 ∧ leaveQS L1 i = (q5, (i, e, yh, yl, x), 0) := by
      intro y hy hl1
      have hms := mk_right hrr.1 hrr.2.1 hx hy
      have hkm : kf q5 (mkR i e y x).1 = none := hkn
      have hig := ins_get hRq hms.1 hkm
      have hdi := del_ins hRq.rise hkm
      have hiu := ins_uq HU5.out hms.2
      have hil : (insK q5 (mkR i e y x)).length = q5.length + 1 := len_ins _ _
      rw [← hl1] at hig hiu hil hdi
      obtain ⟨yh, hyh⟩ : ∃ k, y / 2 ^ 64 = k := ⟨_, rfl⟩
      obtain ⟨yl, hyl⟩ : ∃ k, y % 2 ^ 64 = k := ⟨_, rfl⟩
      have hmk : mkR i e y x = (i, e, yh, yl, x) := by rw [← hyh, ← hyl]; rfl
      rw [hmk] at hig hdi
      have hyb := split_lt hy hyh hyl
      refine ⟨yh, yl, (split_eq hyh hyl).symm, hyb.1, hyb.2, hig.2.2, hiu, hil, if_pos hig.1, ?_⟩
      unfold leaveQS
      rw [if_pos (get_yes hig.1 hig.2.1).1, (get_yes hig.1 hig.2.1).2]
      rw [show delK L1 i = q5 from hdi]
    have HMain := Lib.hid main
    have Hn6 : Hid (L1.length = n6) := Lib.hid hl6
    by_cases h0 : q5.length = 0
    · have hl1 : L1 = insK q5 (mkR i e N x) := by
        have q := congrArg Prod.fst hjy
        unfold addedQ at q
        rw [if_pos h0] at q
        have hmm := mk_eta Hu.out
        have hmn : mkR i e N x = (i, e, h, l, x) := by rw [← hN]; exact hmm
        rw [hmn]
        exact q
      have hany : topQ q5 = ((0, 0, 0), false) := topQ_none h0
      rw [HT1.out] at hany
      obtain ⟨_, hany⟩ := Prod.mk.inj hany
      subst hany
      obtain ⟨yh, yl, hys, hyh, hyl, hg, hul, hll, hck, hlv⟩ := HMain.out N (rightN_true hrN).2.2 hl1
      have h5 : yh = h ∧ yl = l := by
        have h1 := Hu.out.2.1
        have h2 : l < 2 ^ 64 := h1
        omega
      obtain ⟨rfl, rfl⟩ := h5
      have G6 := qr_own own6 (by have := HN5.out; have := HL5.out; have := Hn6.out; omega) hul
      have GX := Lib.hid (HGe.out A6 n6 c6 L1 Y G6)
      rw [hg] at GX
      unfold agR at GX
      have CX := Lib.hid (fun (u : World) (hq : QR u A6 n6 c6 L1) => hck ▸ HCk.out u L1 hq)
      have Hn : Hid ((n5 : Int) + 1 = (n6 : Int)) := Lib.hid (by have := HL5.out; have := Hn6.out; omega)
      have n17 : n5 ≤ 17 := HN5.out
      have hn := Hn.out
      clear hys hyh hyl hg hul hll hck hlv hl1 h0 hN hrN hx hrr hjy hkn hri hRq hbo he own6 hl6 HCk HLe HMain main hn
      have zK100 := K10.cell 0
      have zK10 := K1.cell 0
      have zK11 := K1.cell 1
      have zK12 := K1.cell 2
      have zK13 := K1.cell 3
      have zK14 := K1.cell 4
      go_wp2_with fail
      refine GX.out.mono ?_
      rintro e9 w5 ⟨rfl, h9⟩
      clear GX
      replace K1 := K1.below h9 K1.lt
      replace K7 := K7.below h9 K7.lt
      replace K8 := K8.below h9 K8.lt
      replace K10 := K10.below h9 K10.lt
      replace G5 := G5.below h9
      replace G6 := G6.below h9
      replace GB := GB.trans (h9.mono GB.size)
      clear h9
      clear zK100 zK10 zK11 zK12 zK13 zK14
      have K12 := Blk.new w5 40 #[.int .i64 i, .int .i64 e, .int .u64 (yh : Int), .int .u64 (yl : Int), .int .u64 (x : Int)]
      replace K1 := K1.alloc (.cells #[.int .i64 i, .int .i64 e, .int .u64 (yh : Int), .int .u64 (yl : Int), .int .u64 (x : Int)] 40)
      replace K7 := K7.alloc (.cells #[.int .i64 i, .int .i64 e, .int .u64 (yh : Int), .int .u64 (yl : Int), .int .u64 (x : Int)] 40)
      replace K8 := K8.alloc (.cells #[.int .i64 i, .int .i64 e, .int .u64 (yh : Int), .int .u64 (yl : Int), .int .u64 (x : Int)] 40)
      replace K10 := K10.alloc (.cells #[.int .i64 i, .int .i64 e, .int .u64 (yh : Int), .int .u64 (yl : Int), .int .u64 (x : Int)] 40)
      replace G5 := G5.below ((Below.refl _ _).alloc (Nat.le_refl _) (.cells #[.int .i64 i, .int .i64 e, .int .u64 (yh : Int), .int .u64 (yl : Int), .int .u64 (x : Int)] 40))
      replace G6 := G6.below ((Below.refl _ _).alloc (Nat.le_refl _) (.cells #[.int .i64 i, .int .i64 e, .int .u64 (yh : Int), .int .u64 (yl : Int), .int .u64 (x : Int)] 40))
      replace GB := GB.alloc GB.size (.cells #[.int .i64 i, .int .i64 e, .int .u64 (yh : Int), .int .u64 (yl : Int), .int .u64 (x : Int)] 40)
      have CY := Lib.hid (CX.out _ G6)
      have zK100 := K10.cell 0
      go_wp2_with fail
      refine CY.out.mono ?_
      rintro e9 w6 ⟨rfl, h9⟩
      clear CY CX
      replace K1 := K1.below h9 K1.lt
      replace K7 := K7.below h9 K7.lt
      replace K8 := K8.below h9 K8.lt
      replace K10 := K10.below h9 K10.lt
      replace K12 := K12.below h9 K12.lt
      replace G5 := G5.below h9
      replace G6 := G6.below h9
      replace GB := GB.trans (h9.mono GB.size)
      clear h9
      clear zK100
      have hn := Hn.out
      have zK100 := K10.cell 0
      have zK70 := K7.cell 0
      have zK120 := K12.cell 0
      have zK121 := K12.cell 1
      have zK122 := K12.cell 2
      have zK123 := K12.cell 3
      have zK124 := K12.cell 4
      have zK10 := K1.cell 0
      have zK11 := K1.cell 1
      have zK12 := K1.cell 2
      have zK13 := K1.cell 3
      have zK14 := K1.cell 4
      have zK80 := K8.cell 0
      have zK81 := K8.cell 1
      have zK82 := K8.cell 2
      go_wp2
      go_ret
      exact ⟨rfl, GB⟩
    · have h1 : 0 < q5.length := by omega
      have ht := top_right HU5.out hRq h1
      have htq := topQ_some hRq h1
      rw [HT1.out] at htq
      obtain ⟨htt, hany⟩ := Prod.mk.inj htq
      subst hany
      rw [← htt] at ht
      obtain ⟨T, hTN⟩ : ∃ k, t1 * 2 ^ 64 + t2 = k := ⟨_, rfl⟩
      have htr : rightN T t3 = true := by
        have q := ht.1
        rw [show fN (t1, t2, t3) = t1 * 2 ^ 64 + t2 from rfl, show fW (t1, t2, t3) = t3 from rfl, hTN] at q
        exact q
      have htb : t1 < 2 ^ 64 ∧ t2 < 2 ^ 64 := ht.2
      have ht3 := rightN_true htr
      have hjt : joinT q5 (i, e, h, l, x) = overW T x t3 := by
        show overW (fN (topT q5)) x (fW (topT q5)) = _
        rw [← htt, show fN (t1, t2, t3) = t1 * 2 ^ 64 + t2 from rfl, show fW (t1, t2, t3) = t3 from rfl, hTN]
      obtain ⟨y, hy⟩ : ∃ y, joinN q5 (i, e, h, l, x) boost = y := ⟨_, rfl⟩
      have hyd : y = heldN N (overW T x t3 - min (268435456 * x) (boost * e.toNat)) (overW T x t3) := by
        rw [← hy]
        unfold joinN
        rw [hjt, show rN (i, e, h, l, x) = h * 2 ^ 64 + l from rfl, hN, show rW (i, e, h, l, x) = x from rfl]
      obtain ⟨jt, hjz⟩ : ∃ k, overW T x t3 = k := ⟨_, rfl⟩
      have hnum := near_num (T := T) (x := x) (z := t3) (N := N) (by omega) rfl (Nat.min_le_left _ _) hyd
      have hge := over_ge (n := T) (m := x) (x := t3) (by omega)
      rw [hjz] at hnum hge hjt
      have hL : jt < 2 ^ 100 ∧ L1 = insK q5 (mkR i e y x) := by
        unfold addedQ at hjy
        rw [if_neg h0, hjt] at hjy
        by_cases hc : jt < 2 ^ 100
        · rw [if_pos hc, hy] at hjy
          exact ⟨hc, congrArg Prod.fst hjy⟩
        · rw [if_neg hc] at hjy
          have q : E1 = 131 := congrArg Prod.snd hjy
          omega
      have hyl100 : y < 2 ^ 100 := Nat.lt_of_le_of_lt hnum.2.2.2 hL.1
      obtain ⟨yh, yl, hys, hyh, hyl, hg, hul, hll, hck, hlv⟩ := HMain.out y hyl100 hL.2
      have G6 := qr_own own6 (by have := HN5.out; have := HL5.out; have := Hn6.out; omega) hul
      have GX := Lib.hid (HGe.out A6 n6 c6 L1 Y G6)
      rw [hg] at GX
      unfold agR at GX
      have CX := Lib.hid (fun (u : World) (hq : QR u A6 n6 c6 L1) => hck ▸ HCk.out u L1 hq)
      have LX := Lib.hid (fun (u : World) (hq : QR u A6 n6 c6 L1) => hlv ▸ HLe.out u L1 hq)
      have Hn : Hid ((n5 : Int) + 1 = (n6 : Int)) := Lib.hid (by have := HL5.out; have := Hn6.out; omega)
      have n17 : n5 ≤ 17 := HN5.out
      have hyr : rightN y x = true := rightN_yes hx.1 hx.2 hyl100
      have NX := Lib.hid (fun (u : World) => near_yes yh yl x t1 t2 t3 u hyh hyl htb.1 htb.2 (by rw [← hys]; exact hyr) (by rw [hTN]; exact htr) (by rw [← hys, hTN]; exact hnum.1) (by rw [← hys, hTN]; exact hnum.2.1))
      have C1 := Lib.hid (fun (u : World) => cmp_call yh yl x t1 t2 t3 u hyh hyl Hu.out.2.2 htb.1 htb.2 (by omega))
      rw [← hys, hTN, cmpR_yes hyr htr] at C1
      obtain ⟨q1, hq1⟩ : ∃ q, cmpW (y * t3) (T * x) = q := ⟨_, rfl⟩
      rw [hq1] at C1
      have HQ1 : Hid (boost = 0 → decide (q1 < 0) = false) := Lib.hid (fun hb => by
        have h5 : y = jt := by rw [hyd, hb, Nat.zero_mul, Nat.min_zero, Nat.sub_zero, held_top]; exact hjz
        rw [← hq1, h5]
        rcases cmpW_ge hge with q | q <;> rw [q] <;> decide)
      have C2 := Lib.hid (fun (u : World) => cmp_call h l x t1 t2 t3 u Hu.out.1 Hu.out.2.1 Hu.out.2.2 htb.1 htb.2 (by omega))
      rw [hN, hTN, cmpR_yes hrN htr] at C2
      obtain ⟨q2, hq2⟩ : ∃ q, cmpW (N * t3) (T * x) = q := ⟨_, rfl⟩
      rw [hq2] at C2
      have HQ2 : Hid (q2 = 0 → yh = h ∧ yl = l) := Lib.hid (fun hq => by
        have h5 : N * t3 = T * x := by
          rw [← hq2] at hq
          unfold cmpW at hq
          split at hq
          · exact absurd hq (by decide)
          · split at hq
            · exact absurd hq (by decide)
            · omega
        have h6 := hnum.2.2.1 h5
        have h7 : l < 2 ^ 64 := Hu.out.2.1
        have h8 : yh * 2 ^ 64 + yl = h * 2 ^ 64 + l := by rw [← hys, h6, hN]
        exact halves_eq hyl h7 h8)
      have hn := Hn.out
      clear hys hyh hyl hg hul hll hck hlv hyl100 hL hjt hge hnum hyd hjz hy ht3 htb htr hTN ht htt htq h1 h0 hN hrN hx hrr hjy hkn hri hRq hbo he own6 hl6 HCk HLe HMain main hn hyr hq1 hq2
      have zK100 := K10.cell 0
      have zK10 := K1.cell 0
      have zK11 := K1.cell 1
      have zK12 := K1.cell 2
      have zK13 := K1.cell 3
      have zK14 := K1.cell 4
      go_wp2_with fail
      refine GX.out.mono ?_
      rintro e9 w5 ⟨rfl, h9⟩
      clear GX
      replace K1 := K1.below h9 K1.lt
      replace K7 := K7.below h9 K7.lt
      replace K8 := K8.below h9 K8.lt
      replace K10 := K10.below h9 K10.lt
      replace G5 := G5.below h9
      replace G6 := G6.below h9
      replace GB := GB.trans (h9.mono GB.size)
      clear h9
      clear zK100 zK10 zK11 zK12 zK13 zK14
      have K12 := Blk.new w5 40 #[.int .i64 i, .int .i64 e, .int .u64 (yh : Int), .int .u64 (yl : Int), .int .u64 (x : Int)]
      replace K1 := K1.alloc (.cells #[.int .i64 i, .int .i64 e, .int .u64 (yh : Int), .int .u64 (yl : Int), .int .u64 (x : Int)] 40)
      replace K7 := K7.alloc (.cells #[.int .i64 i, .int .i64 e, .int .u64 (yh : Int), .int .u64 (yl : Int), .int .u64 (x : Int)] 40)
      replace K8 := K8.alloc (.cells #[.int .i64 i, .int .i64 e, .int .u64 (yh : Int), .int .u64 (yl : Int), .int .u64 (x : Int)] 40)
      replace K10 := K10.alloc (.cells #[.int .i64 i, .int .i64 e, .int .u64 (yh : Int), .int .u64 (yl : Int), .int .u64 (x : Int)] 40)
      replace G5 := G5.below ((Below.refl _ _).alloc (Nat.le_refl _) (.cells #[.int .i64 i, .int .i64 e, .int .u64 (yh : Int), .int .u64 (yl : Int), .int .u64 (x : Int)] 40))
      replace G6 := G6.below ((Below.refl _ _).alloc (Nat.le_refl _) (.cells #[.int .i64 i, .int .i64 e, .int .u64 (yh : Int), .int .u64 (yl : Int), .int .u64 (x : Int)] 40))
      replace GB := GB.alloc GB.size (.cells #[.int .i64 i, .int .i64 e, .int .u64 (yh : Int), .int .u64 (yl : Int), .int .u64 (x : Int)] 40)
      have CY := Lib.hid (CX.out _ G6)
      have zK100 := K10.cell 0
      go_wp2_with fail
      refine CY.out.mono ?_
      rintro e9 w6 ⟨rfl, h9⟩
      clear CY CX
      replace K1 := K1.below h9 K1.lt
      replace K7 := K7.below h9 K7.lt
      replace K8 := K8.below h9 K8.lt
      replace K10 := K10.below h9 K10.lt
      replace K12 := K12.below h9 K12.lt
      replace G5 := G5.below h9
      replace G6 := G6.below h9
      replace GB := GB.trans (h9.mono GB.size)
      clear h9
      clear zK100
      have hn := Hn.out
      have zK100 := K10.cell 0
      have zK70 := K7.cell 0
      have zK120 := K12.cell 0
      have zK121 := K12.cell 1
      have zK122 := K12.cell 2
      have zK123 := K12.cell 3
      have zK124 := K12.cell 4
      have zK10 := K1.cell 0
      have zK11 := K1.cell 1
      have zK12 := K1.cell 2
      have zK13 := K1.cell 3
      have zK14 := K1.cell 4
      have zK80 := K8.cell 0
      have zK81 := K8.cell 1
      have zK82 := K8.cell 2
      go_upto_region 13 with fail
      try clear zK100
      try clear zK70
      try clear zK120
      try clear zK121
      try clear zK122
      try clear zK123
      try clear zK124
      try clear zK10
      try clear zK11
      try clear zK12
      try clear zK13
      try clear zK14
      try clear zK80
      try clear zK81
      try clear zK82
      try clear hn
      go_cut [98] (fun s98 Z2 => s98 = .bool false ∧ Below w6.heap.size w6 Z2)
      case first =>
        have a0 := K12.cell 0
        have a1 := K12.cell 1
        have a2 := K12.cell 2
        have a3 := K12.cell 3
        have a4 := K12.cell 4
        have b0 := K8.cell 0
        have b1 := K8.cell 1
        have b2 := K8.cell 2
        go_wp2_with fail
        refine (NX.out _).mono ?_
        rintro e9 w7 ⟨rfl, h9⟩
        replace K12 := K12.below h9 K12.lt
        replace K8 := K8.below h9 K8.lt
        clear a0 a1 a2 a3 a4 b0 b1 b2
        have a0 := K12.cell 0
        have a1 := K12.cell 1
        have a2 := K12.cell 2
        have a3 := K12.cell 3
        have a4 := K12.cell 4
        have b0 := K8.cell 0
        have b1 := K8.cell 1
        have b2 := K8.cell 2
        by_cases hb : boost = 0
        · have c1 : ((boost : Int) == 0) = true := by rw [hb]; rfl
          have c2 := HQ1.out hb
          clear hb
          go_wp2_with fail
          refine (C1.out _).mono ?_
          rintro e9 w8 ⟨rfl, h10⟩
          go_wp2_with fail
          go_meet
          exact ⟨rfl, h9.trans (h10.mono h9.size)⟩
        · have c1 : ((boost : Int) == 0) = false := by simp; omega
          clear hb
          go_wp2_with fail
          go_meet
          exact ⟨rfl, h9⟩
      case rest =>
        obtain ⟨rfl, h9⟩ := hcut
        rename World => Z2
        replace K1 := K1.below h9 K1.lt
        replace K7 := K7.below h9 K7.lt
        replace K8 := K8.below h9 K8.lt
        replace K10 := K10.below h9 K10.lt
        replace K12 := K12.below h9 K12.lt
        replace G5 := G5.below h9
        replace G6 := G6.below h9
        replace GB := GB.trans (h9.mono GB.size)
        clear h9 NX C1 HQ1
        go_upto_region 15 with fail
        go_cut [110] (fun s110 Z3 => s110 = .bool false ∧ Below Z2.heap.size Z2 Z3)
        case first =>
          have a0 := K12.cell 0
          have a1 := K12.cell 1
          have a2 := K12.cell 2
          have a3 := K12.cell 3
          have a4 := K12.cell 4
          have b0 := K8.cell 0
          have b1 := K8.cell 1
          have b2 := K8.cell 2
          have d0 := K1.cell 0
          have d1 := K1.cell 1
          have d2 := K1.cell 2
          have d3 := K1.cell 3
          have d4 := K1.cell 4
          go_wp2_with fail
          refine (C2.out _).mono ?_
          rintro e9 w7 ⟨rfl, h9⟩
          replace K12 := K12.below h9 K12.lt
          replace K1 := K1.below h9 K1.lt
          clear a0 a1 a2 a3 a4 b0 b1 b2 d0 d1 d2 d3 d4
          have a0 := K12.cell 0
          have a1 := K12.cell 1
          have a2 := K12.cell 2
          have a3 := K12.cell 3
          have a4 := K12.cell 4
          have d0 := K1.cell 0
          have d1 := K1.cell 1
          have d2 := K1.cell 2
          have d3 := K1.cell 3
          have d4 := K1.cell 4
          by_cases hq : q2 = 0
          · have c1 : (q2 == 0) = true := by rw [hq]; rfl
            obtain ⟨e1, e2⟩ := HQ2.out hq
            have c2 : ((yh : Int) == (h : Int)) = true := by rw [e1]; simp
            have c3 : ((yl : Int) == (l : Int)) = true := by rw [e2]; simp
            clear hq e1 e2
            go_wp2_with fail
            go_meet
            exact ⟨rfl, h9⟩
          · have c1 : (q2 == 0) = false := by simpa using hq
            clear hq
            go_wp2_with fail
            go_meet
            exact ⟨rfl, h9⟩
        case rest =>
          obtain ⟨rfl, h9⟩ := hcut
          rename World => Z3
          replace K1 := K1.below h9 K1.lt
          replace K7 := K7.below h9 K7.lt
          replace K8 := K8.below h9 K8.lt
          replace K10 := K10.below h9 K10.lt
          replace K12 := K12.below h9 K12.lt
          replace G5 := G5.below h9
          replace G6 := G6.below h9
          replace GB := GB.trans (h9.mono GB.size)
          clear h9 C2 HQ2 K8
          have LY := Lib.hid (LX.out _ G6)
          have zK100 := K10.cell 0
          have zK10 := K1.cell 0
          have zK11 := K1.cell 1
          have zK12 := K1.cell 2
          have zK13 := K1.cell 3
          have zK14 := K1.cell 4
          go_wp2_with fail
          refine LY.out.mono ?_
          rintro e9 w9 ⟨A9, n9, c9, rfl, hl9, own9, h9⟩
          clear LY LX
          replace K1 := K1.below h9 K1.lt
          replace K7 := K7.below h9 K7.lt
          replace K10 := K10.below h9 K10.lt
          replace K12 := K12.below h9 K12.lt
          replace G5 := G5.below h9
          replace G6 := G6.below h9
          replace GB := GB.trans (h9.mono GB.size)
          clear h9 K1 K10 G6
          clear zK100 zK10 zK11 zK12 zK13 zK14
          have K14 := Blk.new w9 26 #[.slice A9 n9 c9]
          replace K7 := K7.alloc (.cells #[.slice A9 n9 c9] 26)
          replace K12 := K12.alloc (.cells #[.slice A9 n9 c9] 26)
          replace G5 := G5.below ((Below.refl _ _).alloc (Nat.le_refl _) (.cells #[.slice A9 n9 c9] 26))
          replace GB := GB.alloc GB.size (.cells #[.slice A9 n9 c9] 26)
          replace own9 := own9.alloc (.cells #[.slice A9 n9 c9] 26)
          have K15 := Blk.new (w9.alloc (.cells #[.slice A9 n9 c9] 26)) 40 #[.int .i64 i, .int .i64 e, .int .u64 (yh : Int), .int .u64 (yl : Int), .int .u64 (x : Int)]
          replace K7 := K7.alloc (.cells #[.int .i64 i, .int .i64 e, .int .u64 (yh : Int), .int .u64 (yl : Int), .int .u64 (x : Int)] 40)
          replace K12 := K12.alloc (.cells #[.int .i64 i, .int .i64 e, .int .u64 (yh : Int), .int .u64 (yl : Int), .int .u64 (x : Int)] 40)
          replace K14 := K14.alloc (.cells #[.int .i64 i, .int .i64 e, .int .u64 (yh : Int), .int .u64 (yl : Int), .int .u64 (x : Int)] 40)
          replace G5 := G5.below ((Below.refl _ _).alloc (Nat.le_refl _) (.cells #[.int .i64 i, .int .i64 e, .int .u64 (yh : Int), .int .u64 (yl : Int), .int .u64 (x : Int)] 40))
          replace GB := GB.alloc GB.size (.cells #[.int .i64 i, .int .i64 e, .int .u64 (yh : Int), .int .u64 (yl : Int), .int .u64 (x : Int)] 40)
          replace own9 := own9.alloc (.cells #[.int .i64 i, .int .i64 e, .int .u64 (yh : Int), .int .u64 (yl : Int), .int .u64 (x : Int)] 40)
          go_upto_region 18 with fail
          obtain ⟨V, hV⟩ : ∃ V, ((w9.alloc (.cells #[.slice A9 n9 c9] 26)).alloc (.cells #[.int .i64 i, .int .i64 e, .int .u64 (yh : Int), .int .u64 (yl : Int), .int .u64 (x : Int)] 40)) = V := ⟨_, rfl⟩
          obtain ⟨g14, hg14⟩ : ∃ g, w9.heap.size = g := ⟨_, rfl⟩
          rw [show (w9.alloc (.cells #[.slice A9 n9 c9] 26)).heap.size = g14 + 1 by simp [hg14]] at K15
          rw [hV] at K7 K12 K14 K15 G5 GB own9 ⊢
          rw [hg14] at K14 ⊢
          clear hV hg14
          obtain rfl : n5 = n9 := by
            have h8 : q5.length = n9 := hl9
            have := HL5.out
            omega
          have G9 := qr_own own9 (by omega) HU5.out
          have SX := Lib.hid (same_self A9 n5 c9 A5 c5 q5 V G9 G5)
          clear own9 hl9 G9 G5
          have zK70 := K7.cell 0
          have zK120 := K12.cell 0
          have zK121 := K12.cell 1
          have zK122 := K12.cell 2
          have zK123 := K12.cell 3
          have zK124 := K12.cell 4
          have zK140 := K14.cell 0
          have zK150 := K15.cell 0
          have zK151 := K15.cell 1
          have zK152 := K15.cell 2
          have zK153 := K15.cell 3
          have zK154 := K15.cell 4
          go_wp2_with fail
          refine SX.out.mono ?_
          rintro e9 w10 ⟨rfl, h9⟩
          replace GB := GB.trans (h9.mono GB.size)
          clear h9 K7 K12 K14 K15
          go_wp2
          go_ret
          exact ⟨rfl, GB⟩
  · have hl := join_none (l := q5) (r := (i, e, h, l, x)) (boost := boost) (by rw [HL1.out]; exact he)
    rw [HL1.out] at hl
    have hl0 : L1 = [] := hl
    have e0 : (E1 != 0) = true := by simpa using he
    have e1 : ((n6 : Int) == 0) = true := by
      have h6 : L1.length = n6 := hl6
      have : n6 = 0 := by rw [← h6, hl0]; rfl
      rw [this]; rfl
    have z0 := K10.cell 0
    clear hl hl0 he hl6 own6 K1 K7 K8 K10 G5 HL1 HT1 HGe
    go_wp2_with fail
    go_ret
    exact ⟨rfl, GB⟩
end Go.Proofs.Ytfgabmelmopgdaa
