/-
  VtimeGains' walk, and what it stands on (mathematics). No statement is proved here.
-/
import Derived.Test.YtfgabmelmopgdaaVp
import Derived.Deep.DeepCutAuto
namespace Go.Proofs.Ytfgabmelmopgdaa
open Go.RowKit

theorem leave_one {qs : List Rn} {i : Int} (h : (leaveQS qs i).2.2 = 0) : ∃ r, rightQ qs = true ∧ kf qs i = some r ∧ leaveQS qs i = (delK qs i, r, 0) := by
  by_cases hz : unfoundQ qs true [i] = 0
  · have q := unfound_zero hz
    obtain ⟨r, hk⟩ : ∃ r, kf qs i = some r := Option.isSome_iff_exists.1 (q.2.2.2 i (by simp))
    refine ⟨r, rightQ_iff.2 q.1, hk, ?_⟩
    unfold leaveQS
    rw [if_pos hz, (get_yes (rightQ_iff.2 q.1) hk).2]
  · unfold leaveQS at h
    rw [if_neg hz] at h
    exact (hz h).elim
theorem leave_none {qs : List Rn} {i : Int} (h : (leaveQS qs i).2.2 ≠ 0) : leaveQS qs i = ([], zeroR, (leaveQS qs i).2.2) := by
  by_cases hz : unfoundQ qs true [i] = 0
  · unfold leaveQS at h
    rw [if_pos hz] at h
    exact (h rfl).elim
  · unfold leaveQS
    rw [if_neg hz]
theorem join_yes {l : List Rn} {r : Rn} {boost : Nat} (hR : RQ l) (hr : rightR r = true) (hk : kf l r.1 = none) (hb : boost ≤ 10000000) : joinQS l r boost = addedQ l r boost := by
  unfold joinQS
  obtain ⟨bb, hbb⟩ : ∃ b, decide (boost ≤ 10000000) = b := ⟨_, rfl⟩
  have hbt : bb = true := by rw [← hbb]; exact decide_eq_true hb
  rw [hbb, hbt]
  obtain ⟨X, hX⟩ : ∃ X, addedQ l r boost = X := ⟨_, rfl⟩
  unfold addQ
  rw [hX]
  have hu : unfitQ l (true && rightR r) = 0 := by
    unfold unfitQ
    rw [rightQ_iff.2 hR, hr, if_neg (by decide), if_neg (by decide)]
  rw [if_pos hu, hk, if_neg (by decide)]
theorem split_eq {y a b : Nat} (ha : y / 2 ^ 64 = a) (hb : y % 2 ^ 64 = b) : a * 2 ^ 64 + b = y := by omega
theorem split_lt {y a b : Nat} (h : y < 2 ^ 100) (ha : y / 2 ^ 64 = a) (hb : y % 2 ^ 64 = b) : a < 2 ^ 64 ∧ b < 2 ^ 64 := by omega
theorem held_top (N t : Nat) : heldN N t t = t := by
  unfold heldN
  split
  · rfl
  · split
    · rfl
    · omega
theorem join_zero (l : List Rn) (r : Rn) : joinN l r 0 = joinT l r := by
  unfold joinN
  rw [Nat.zero_mul, Nat.min_zero, Nat.sub_zero, held_top]
theorem ins_get {l : List Rn} {r : Rn} (hR : RQ l) (hr : rightR r = true) (hk : kf l r.1 = none) : rightQ (insK l r) = true ∧ kf (insK l r) r.1 = some r ∧ getQ (insK l r) r.1 = (r, true) := by
  have h1 := rightQ_iff.2 (hR.ins hr hk)
  have h2 : kf (insK l r) r.1 = some r := by rw [kf_ins hR.rise hk, if_pos rfl]
  exact ⟨h1, h2, (get_yes h1 h2).2⟩
theorem ins_uq {l : List Rn} {r : Rn} (hU : UQ l) (hr : UR r) : UQ (insK l r) := fun y hy => by
  rcases mem_ins.1 hy with rfl | h
  · exact hr
  · exact hU y h
theorem del_uq {l : List Rn} {i : Int} (hU : UQ l) : UQ (delK l i) := fun y hy => hU y (List.mem_of_mem_eraseIdx hy)
theorem del_none {l : List Rn} {i : Int} {r : Rn} (hR : RQ l) (hk : kf l i = some r) : kf (delK l i) i = none := by
  rw [kf_del hR.rise hk, if_pos rfl]
theorem del_len {l : List Rn} (i : Int) : (delK l i).length ≤ l.length := List.length_eraseIdx_le _ _
theorem topQ_some {l : List Rn} (hR : RQ l) (h0 : 0 < l.length) : topQ l = (topT l, true) := if_pos ⟨rightQ_iff.2 hR, h0⟩
theorem topQ_none {l : List Rn} (h0 : l.length = 0) : topQ l = ((0, 0, 0), false) := if_neg (fun h => by omega)
theorem cmpR_yes {N x M y : Nat} (h1 : rightN N x = true) (h2 : rightN M y = true) : cmpR N x M y = cmpW (N * y) (M * x) := by
  unfold cmpR
  rw [h1, h2, Bool.and_true, if_pos rfl]

set_option maxRecDepth 100000 in
set_option maxHeartbeats 32000000 in
theorem gains_walk (A : Option Addr) (n c : Nat) (qs : List Rn) (id : Int) (w : World) (hR : Reads w w.heap.size 5 A n (flat rv qs)) (hnc : n ≤ c) (hU : UQ qs) :
    Calls Try.prog 5 #[.agg #[.slice A n c], .int .i64 id] w (Said (.bool true) w) := by
  have HWk := Lib.hid (fun (u : World) => wakes_any u)
  have HSh := Lib.hid (fun (u : World) (h : Below w.heap.size w u) => short_any A n c qs u ((hR.below h).more h.size) hnc)
  obtain ⟨n5, hn5⟩ : ∃ k, min n 17 = k := ⟨_, rfl⟩
  obtain ⟨qs5, hq5⟩ : ∃ k, qs.take 17 = k := ⟨_, rfl⟩
  have HU5 : Hid (UQ qs5) := Lib.hid (by rw [← hq5]; exact take_uq hU 17)
  have HN5 : Hid (n5 ≤ 17) := Lib.hid (by omega)
  rw [hn5, hq5] at HSh
  obtain ⟨K0, GB⟩ := box1 w 26 #[.slice A n c]
  obtain ⟨⟨L1, ⟨r1, r2, r3, r4, r5⟩, E1⟩, hL1⟩ : ∃ R, leaveQS qs5 id = R := ⟨_, rfl⟩
  have HLv := Lib.hid (fun (A : Option Addr) (n c : Nat) (u : World) (h : QR u A n c qs5) => leave_any A n c qs5 id u h)
  rw [hL1] at HLv
  have HGe := Lib.hid (fun (A : Option Addr) (n c : Nat) (l : List Rn) (u : World) (h : QR u A n c l) => get_any A n c l id u h)
  have HTo := Lib.hid (fun (A : Option Addr) (n c : Nat) (l : List Rn) (u : World) (h : QR u A n c l) (hn : n ≤ 100) => top_any A n c l u h hn)
  have HL1 := Lib.hid hL1
  clear hR hnc hU hn5 hq5 hL1
  go_enter Try.func5, Try.ntmps5
  go_wp2_with fail
  refine (HWk.out _).mono ?_
  rintro e w1 ⟨rfl, h9⟩
  replace K0 := K0.below h9 K0.lt
  replace GB := GB.trans (h9.mono GB.size)
  clear h9
  have zK00 := K0.cell 0
  go_wp2_with fail
  refine (HSh.out _ GB).mono ?_
  rintro e w2 ⟨A5, c5, rfl, own5, h9⟩
  replace K0 := K0.below h9 K0.lt
  replace GB := GB.trans (h9.mono GB.size)
  clear zK00
  have G5 := qr_own own5 (by have := HN5.out; omega) HU5.out
  clear own5 h9 HSh HWk K0
  have K5 := Blk.new w2 26 #[.slice A5 n5 c5]
  replace G5 := G5.below ((Below.refl _ _).alloc (Nat.le_refl _) (.cells #[.slice A5 n5 c5] 26))
  replace GB := GB.alloc GB.size (.cells #[.slice A5 n5 c5] 26)
  have HL5 := Lib.hid G5.len
  have LX := Lib.hid (HLv.out A5 n5 c5 _ G5)
  have zK50 := K5.cell 0
  go_wp2_with fail
  refine LX.out.mono ?_
  rintro e w3 ⟨A6, n6, c6, rfl, hl6, own6, h9⟩
  clear LX HLv
  replace K5 := K5.below h9 K5.lt
  replace G5 := G5.below h9
  replace GB := GB.trans (h9.mono GB.size)
  clear h9 K5 G5
  clear zK50
  have K6 := Blk.new w3 26 #[.slice A6 n6 c6]
  replace GB := GB.alloc GB.size (.cells #[.slice A6 n6 c6] 26)
  replace own6 := own6.alloc (.cells #[.slice A6 n6 c6] 26)
  have K7 := Blk.new (w3.alloc (.cells #[.slice A6 n6 c6] 26)) 40 #[.int .i64 r1, .int .i64 r2, .int .u64 (r3 : Int), .int .u64 (r4 : Int), .int .u64 (r5 : Int)]
  replace K6 := K6.alloc (.cells #[.int .i64 r1, .int .i64 r2, .int .u64 (r3 : Int), .int .u64 (r4 : Int), .int .u64 (r5 : Int)] 40)
  replace GB := GB.alloc GB.size (.cells #[.int .i64 r1, .int .i64 r2, .int .u64 (r3 : Int), .int .u64 (r4 : Int), .int .u64 (r5 : Int)] 40)
  replace own6 := own6.alloc (.cells #[.int .i64 r1, .int .i64 r2, .int .u64 (r3 : Int), .int .u64 (r4 : Int), .int .u64 (r5 : Int)] 40)
  go_upto_region 5 with fail
  obtain ⟨Y, hY⟩ : ∃ Y, ((w3.alloc (.cells #[.slice A6 n6 c6] 26)).alloc (.cells #[.int .i64 r1, .int .i64 r2, .int .u64 (r3 : Int), .int .u64 (r4 : Int), .int .u64 (r5 : Int)] 40)) = Y := ⟨_, rfl⟩
  obtain ⟨g6, hg6⟩ : ∃ g, w3.heap.size = g := ⟨_, rfl⟩
  rw [show (w3.alloc (.cells #[.slice A6 n6 c6] 26)).heap.size = g6 + 1 by simp [hg6]] at K7
  rw [hY] at K6 K7 GB own6 ⊢
  rw [hg6] at K6 ⊢
  clear hY hg6
  by_cases he : E1 = 0
  · obtain ⟨r, hr, hk, hlv⟩ := leave_one (qs := qs5) (i := id) (by rw [HL1.out]; exact he)
    rw [HL1.out] at hlv
    obtain ⟨hl1, hrest⟩ := Prod.mk.inj hlv
    obtain ⟨hrr, _⟩ := Prod.mk.inj hrest
    subst hrr
    have hRq := rightQ_iff.1 hr
    have hri := hRq.get hk
    have hur : UR (r1, r2, r3, r4, r5) := HU5.out _ (kf_some hk).1
    have hid : r1 = id := kf_id hk
    have hRl : RQ L1 := by rw [hl1]; exact hRq.del hk
    have hkn : kf L1 id = none := by rw [hl1]; exact del_none hRq hk
    have hUl : UQ L1 := by rw [hl1]; exact del_uq HU5.out
    have hll : L1.length ≤ 17 := by
      have := del_len (l := qs5) id
      rw [← hl1] at this
      have := HL5.out
      have := HN5.out
      omega
    have G6 := qr_own own6 (by omega) hUl
    have GG := Lib.hid (HGe.out A6 n6 c6 L1 Y G6)
    rw [(get_no (qs := L1) (i := id) (fun r h1 h2 => by rw [hkn] at h2; cases h2)).2] at GG
    have hrr := rightR_iff.1 hri
    have hx : 1 ≤ r5 ∧ r5 ≤ 65535 := hrr.2.2.1
    obtain ⟨N, hN⟩ : ∃ N, r3 * 2 ^ 64 + r4 = N := ⟨_, rfl⟩
    have hrN : rightN N r5 = true := by
      have q := right_n hri
      unfold rN rW at q
      rw [← hN]
      exact q
    have hkr : kf L1 (r1, r2, r3, r4, r5).1 = none := by show kf L1 r1 = none; rw [hid]; exact hkn
    have hjy := join_yes (boost := 0) hRl hri hkr (by omega)
    have HJo := Lib.hid (fun (u : World) (h : QR u A6 n6 c6 L1) => hjy ▸ join_any A6 n6 c6 L1 r1 r2 r3 r4 r5 0 u h hur)
    have hn6 : n6 = L1.length := hl6.symm
    have HN6 : Hid (n6 ≤ 17) := Lib.hid (by omega)
    have e0 : (E1 != 0) = false := by rw [he]; rfl
    have HTx := Lib.hid (fun (u : World) (h : QR u A6 n6 c6 L1) => HTo.out A6 n6 c6 L1 u h (by omega))
    unfold agR zeroR at GG
    have HPk := Lib.hid (And.intro hRl (And.intro hUl (And.intro hri (And.intro hur (And.intro hkr (And.intro hid (And.intro hrr (And.intro hx (And.intro hN (And.intro hrN (And.intro hll (And.intro hn6 hkn))))))))))))
    clear own6 hl6 hlv hrest he HTo hk hr hRl hUl hri hur hkr hid hrr hx hN hrN hll hn6 hkn hjy hRq hl1
    have zK60 := K6.cell 0
    go_wp2_with fail
    refine GG.out.mono ?_
    rintro e w4 ⟨rfl, h9⟩
    clear GG
    replace K6 := K6.below h9 K6.lt
    replace K7 := K7.below h9 K7.lt
    replace G6 := G6.below h9
    replace GB := GB.trans (h9.mono GB.size)
    clear h9
    clear zK60
    have K9 := Blk.new w4 40 #[.int .i64 0, .int .i64 0, .int .u64 0, .int .u64 0, .int .u64 0]
    replace K6 := K6.alloc (.cells #[.int .i64 0, .int .i64 0, .int .u64 0, .int .u64 0, .int .u64 0] 40)
    replace K7 := K7.alloc (.cells #[.int .i64 0, .int .i64 0, .int .u64 0, .int .u64 0, .int .u64 0] 40)
    replace G6 := G6.below ((Below.refl _ _).alloc (Nat.le_refl _) (.cells #[.int .i64 0, .int .i64 0, .int .u64 0, .int .u64 0, .int .u64 0] 40))
    replace GB := GB.alloc GB.size (.cells #[.int .i64 0, .int .i64 0, .int .u64 0, .int .u64 0, .int .u64 0] 40)
    clear K9
    go_upto_region 10 with fail
    obtain ⟨Y1, hY1⟩ : ∃ Y, w4.alloc (.cells #[.int .i64 0, .int .i64 0, .int .u64 0, .int .u64 0, .int .u64 0] 40) = Y := ⟨_, rfl⟩
    rw [hY1] at K6 K7 GB G6 ⊢
    clear hY1
    obtain ⟨hRl, hUl, hri, hur, hkr, hid, hrr, hx, hN, hrN, hll, hn6, hkn⟩ := HPk.out
    by_cases h0 : L1.length = 0
    · have haq : addedQ L1 (r1, r2, r3, r4, r5) 0 = (insK L1 (r1, r2, r3, r4, r5), 0) := if_pos h0
      rw [haq] at HJo
      have hig := ins_get hRl hri hkr
      have hiu := ins_uq hUl hur
      have hil : (insK L1 (r1, r2, r3, r4, r5)).length = L1.length + 1 := len_ins _ _
      rw [topQ_none h0] at HTx
      obtain ⟨L2, hL2⟩ : ∃ L2, insK L1 (r1, r2, r3, r4, r5) = L2 := ⟨_, rfl⟩
      rw [hL2] at HJo hig hiu hil
      have hg2 : getQ L2 id = ((r1, r2, r3, r4, r5), true) := by have q := hig.2.2; rw [show (r1, r2, r3, r4, r5).1 = id from hid] at q; exact q
      have C1 := Lib.hid (fun (u : World) => cmp_call r3 r4 r5 r3 r4 r5 u hur.1 hur.2.1 hur.2.2 hur.1 hur.2.1 hur.2.2)
      rw [hN, cmpR_yes hrN hrN, cmpW_eq rfl] at C1
      obtain ⟨q1, hq1⟩ : ∃ q : Int, q = 0 := ⟨0, rfl⟩
      rw [← hq1] at C1
      have b1 : decide (0 ≤ q1) = true := decide_eq_true (by omega)
      have HF := Lib.hid (And.intro hg2 (And.intro hiu (show L2.length ≤ 18 by omega)))
      clear hig hiu hil hg2 hq1 haq hL2 h0 hN hrN hx hrr hll hUl hkn hkr hRl hid hri hn6 hur HPk
      have JX := Lib.hid (HJo.out _ G6)
      have zK60 := K6.cell 0
      have zK70 := K7.cell 0
      have zK71 := K7.cell 1
      have zK72 := K7.cell 2
      have zK73 := K7.cell 3
      have zK74 := K7.cell 4
      go_wp2_with fail
      refine JX.out.mono ?_
      rintro e w5 ⟨A8, n8, c8, rfl, hl8, own8, h9⟩
      clear JX HJo
      replace K6 := K6.below h9 K6.lt
      replace K7 := K7.below h9 K7.lt
      replace G6 := G6.below h9
      replace GB := GB.trans (h9.mono GB.size)
      clear h9
      clear zK60 zK70 zK71 zK72 zK73 zK74
      have K11 := Blk.new w5 26 #[.slice A8 n8 c8]
      replace K6 := K6.alloc (.cells #[.slice A8 n8 c8] 26)
      replace K7 := K7.alloc (.cells #[.slice A8 n8 c8] 26)
      replace G6 := G6.below ((Below.refl _ _).alloc (Nat.le_refl _) (.cells #[.slice A8 n8 c8] 26))
      replace GB := GB.alloc GB.size (.cells #[.slice A8 n8 c8] 26)
      replace own8 := own8.alloc (.cells #[.slice A8 n8 c8] 26)
      have G8 := qr_own own8 (by have := HF.out.2.2; have h8 : L2.length = n8 := hl8; omega) HF.out.2.1
      clear own8
      have GX := Lib.hid (HGe.out A8 n8 c8 _ _ G8)
      rw [HF.out.1] at GX
      unfold agR at GX
      have zK110 := K11.cell 0
      go_wp2_with fail
      refine GX.out.mono ?_
      rintro e w6 ⟨rfl, h9⟩
      clear GX
      replace K6 := K6.below h9 K6.lt
      replace K7 := K7.below h9 K7.lt
      replace K11 := K11.below h9 K11.lt
      replace G6 := G6.below h9
      replace G8 := G8.below h9
      replace GB := GB.trans (h9.mono GB.size)
      clear h9 G8 K11
      clear zK110
      have K12 := Blk.new w6 40 #[.int .i64 r1, .int .i64 r2, .int .u64 (r3 : Int), .int .u64 (r4 : Int), .int .u64 (r5 : Int)]
      replace K6 := K6.alloc (.cells #[.int .i64 r1, .int .i64 r2, .int .u64 (r3 : Int), .int .u64 (r4 : Int), .int .u64 (r5 : Int)] 40)
      replace K7 := K7.alloc (.cells #[.int .i64 r1, .int .i64 r2, .int .u64 (r3 : Int), .int .u64 (r4 : Int), .int .u64 (r5 : Int)] 40)
      replace G6 := G6.below ((Below.refl _ _).alloc (Nat.le_refl _) (.cells #[.int .i64 r1, .int .i64 r2, .int .u64 (r3 : Int), .int .u64 (r4 : Int), .int .u64 (r5 : Int)] 40))
      replace GB := GB.alloc GB.size (.cells #[.int .i64 r1, .int .i64 r2, .int .u64 (r3 : Int), .int .u64 (r4 : Int), .int .u64 (r5 : Int)] 40)
      have TX := Lib.hid (HTx.out _ G6)
      unfold fr at TX
      have zK60 := K6.cell 0
      go_wp2_with fail
      refine TX.out.mono ?_
      rintro e w7 ⟨rfl, h9⟩
      clear TX HTx
      replace K6 := K6.below h9 K6.lt
      replace K7 := K7.below h9 K7.lt
      replace K12 := K12.below h9 K12.lt
      replace G6 := G6.below h9
      replace GB := GB.trans (h9.mono GB.size)
      clear h9 G6 K6
      clear zK60
      have K14 := Blk.new w7 36 #[.int .u64 0, .int .u64 0, .int .u64 0]
      replace K7 := K7.alloc (.cells #[.int .u64 0, .int .u64 0, .int .u64 0] 36)
      replace K12 := K12.alloc (.cells #[.int .u64 0, .int .u64 0, .int .u64 0] 36)
      replace GB := GB.alloc GB.size (.cells #[.int .u64 0, .int .u64 0, .int .u64 0] 36)
      have zK70 := K7.cell 0
      have zK71 := K7.cell 1
      have zK72 := K7.cell 2
      have zK73 := K7.cell 3
      have zK74 := K7.cell 4
      have zK120 := K12.cell 0
      have zK121 := K12.cell 1
      have zK122 := K12.cell 2
      have zK123 := K12.cell 3
      have zK124 := K12.cell 4
      have zK140 := K14.cell 0
      have zK141 := K14.cell 1
      have zK142 := K14.cell 2
      go_wp2_with fail
      refine (C1.out _).mono ?_
      rintro e wqC1 ⟨rfl, h9⟩
      clear C1
      replace K7 := K7.below h9 K7.lt
      replace K12 := K12.below h9 K12.lt
      replace K14 := K14.below h9 K14.lt
      replace GB := GB.trans (h9.mono GB.size)
      clear h9
      clear zK70 zK71 zK72 zK73 zK74 zK120 zK121 zK122 zK123 zK124 zK140 zK141 zK142
      go_wp2
      go_ret
      exact ⟨rfl, GB⟩
    · have h1 : 0 < L1.length := by omega
      have ht := top_right hUl hRl h1
      rw [topQ_some hRl h1] at HTx
      have hjt : joinT L1 (r1, r2, r3, r4, r5) = overW (fN (topT L1)) r5 (fW (topT L1)) := rfl
      have hjz := join_zero L1 (r1, r2, r3, r4, r5)
      obtain ⟨⟨t1, t2, t3⟩, htt⟩ : ∃ t, topT L1 = t := ⟨_, rfl⟩
      rw [htt] at HTx ht hjt
      dsimp only at HTx
      obtain ⟨tN, htN⟩ : ∃ k, t1 * 2 ^ 64 + t2 = k := ⟨_, rfl⟩
      have hjt2 : joinT L1 (r1, r2, r3, r4, r5) = overW tN r5 t3 := by
        rw [hjt, show fN (t1, t2, t3) = t1 * 2 ^ 64 + t2 from rfl, show fW (t1, t2, t3) = t3 from rfl, htN]
      have htr : rightN tN t3 = true := by
        have q := ht.1
        rw [show fN (t1, t2, t3) = t1 * 2 ^ 64 + t2 from rfl, show fW (t1, t2, t3) = t3 from rfl, htN] at q
        exact q
      have ht3 := rightN_true htr
      obtain ⟨y, hy⟩ : ∃ y, overW tN r5 t3 = y := ⟨_, rfl⟩
      rw [hy] at hjt2
      rw [hjt2] at hjz
      have hge : tN * r5 ≤ y * t3 := by rw [← hy]; exact over_ge (by omega)
      by_cases hc : y < 2 ^ 100
      · have haq : addedQ L1 (r1, r2, r3, r4, r5) 0 = (insK L1 (mkR r1 r2 y r5), 0) := by
          unfold addedQ
          rw [if_neg h0, hjt2, if_pos hc, hjz]
          rfl
        rw [haq] at HJo
        have hms := mk_right hrr.1 hrr.2.1 hx hc
        have hkm : kf L1 (mkR r1 r2 y r5).1 = none := hkr
        have hig := ins_get hRl hms.1 hkm
        have hiu := ins_uq hUl hms.2
        have hil : (insK L1 (mkR r1 r2 y r5)).length = L1.length + 1 := len_ins _ _
        obtain ⟨L2, hL2⟩ : ∃ L2, insK L1 (mkR r1 r2 y r5) = L2 := ⟨_, rfl⟩
        rw [hL2] at HJo hig hiu hil
        obtain ⟨yh, hyh⟩ : ∃ k, y / 2 ^ 64 = k := ⟨_, rfl⟩
        obtain ⟨yl, hyl⟩ : ∃ k, y % 2 ^ 64 = k := ⟨_, rfl⟩
        have hmk : mkR r1 r2 y r5 = (r1, r2, yh, yl, r5) := by rw [← hyh, ← hyl]; rfl
        have hys := split_eq hyh hyl
        have hyb := split_lt hc hyh hyl
        have hg2 : getQ L2 id = ((r1, r2, yh, yl, r5), true) := by
          have q := hig.2.2
          rw [hmk] at q
          rw [show (r1, r2, yh, yl, r5).1 = id from hid] at q
          exact q
        have hyr : rightN y r5 = true := rightN_yes hx.1 hx.2 hc
        have C1 := Lib.hid (fun (u : World) => cmp_call yh yl r5 r3 r4 r5 u hyb.1 hyb.2 hur.2.2 hur.1 hur.2.1 hur.2.2)
        rw [hN, hys, cmp_one hyr hrN] at C1
        have C3 := Lib.hid (fun (u : World) => cmp_call yh yl r5 t1 t2 t3 u hyb.1 hyb.2 hur.2.2 ht.2.1 ht.2.2 (by omega))
        rw [htN, hys, cmpR_yes hyr htr] at C3
        have C2 := Lib.hid (fun (u : World) => cmp_call r3 r4 r5 t1 t2 t3 u hur.1 hur.2.1 hur.2.2 ht.2.1 ht.2.2 (by omega))
        rw [hN, htN, cmpR_yes hrN htr] at C2
        obtain ⟨q3, hq3⟩ : ∃ q, cmpW (y * t3) (tN * r5) = q := ⟨_, rfl⟩
        have b3 : decide (0 ≤ q3) = true := by
          rw [← hq3]
          rcases cmpW_ge hge with e | e <;> rw [e] <;> decide
        rw [hq3] at C3
        obtain ⟨q1, hq1⟩ : ∃ q, cmpW y N = q := ⟨_, rfl⟩
        rw [hq1] at C1
        obtain ⟨q2, hq2⟩ : ∃ q, cmpW (N * t3) (tN * r5) = q := ⟨_, rfl⟩
        rw [hq2] at C2
        have HF := Lib.hid (And.intro hg2 (And.intro hiu (show L2.length ≤ 18 by omega)))
        by_cases hyn : N ≤ y
        · have b1 : decide (0 ≤ q1) = true := by
            rw [← hq1]
            rcases cmpW_ge hyn with e | e <;> rw [e] <;> rfl
          clear hyn hq1 hq2 hq3 C2 hyr hg2 hyb hys hmk hyh hyl hL2 hil hiu hig hkm hms haq hc hge hjz hjt2 hy ht3 htr htN hjt htt ht h1 h0 hN hrN hx hrr hll hUl hkn hkr hRl hid hri hn6 hur HPk
          have JX := Lib.hid (HJo.out _ G6)
          have zK60 := K6.cell 0
          have zK70 := K7.cell 0
          have zK71 := K7.cell 1
          have zK72 := K7.cell 2
          have zK73 := K7.cell 3
          have zK74 := K7.cell 4
          go_wp2_with fail
          refine JX.out.mono ?_
          rintro e w5 ⟨A8, n8, c8, rfl, hl8, own8, h9⟩
          clear JX HJo
          replace K6 := K6.below h9 K6.lt
          replace K7 := K7.below h9 K7.lt
          replace G6 := G6.below h9
          replace GB := GB.trans (h9.mono GB.size)
          clear h9
          clear zK60 zK70 zK71 zK72 zK73 zK74
          have K11 := Blk.new w5 26 #[.slice A8 n8 c8]
          replace K6 := K6.alloc (.cells #[.slice A8 n8 c8] 26)
          replace K7 := K7.alloc (.cells #[.slice A8 n8 c8] 26)
          replace G6 := G6.below ((Below.refl _ _).alloc (Nat.le_refl _) (.cells #[.slice A8 n8 c8] 26))
          replace GB := GB.alloc GB.size (.cells #[.slice A8 n8 c8] 26)
          replace own8 := own8.alloc (.cells #[.slice A8 n8 c8] 26)
          have G8 := qr_own own8 (by have := HF.out.2.2; have h8 : L2.length = n8 := hl8; omega) HF.out.2.1
          clear own8
          have GX := Lib.hid (HGe.out A8 n8 c8 _ _ G8)
          rw [HF.out.1] at GX
          unfold agR at GX
          have zK110 := K11.cell 0
          go_wp2_with fail
          refine GX.out.mono ?_
          rintro e w6 ⟨rfl, h9⟩
          clear GX
          replace K6 := K6.below h9 K6.lt
          replace K7 := K7.below h9 K7.lt
          replace K11 := K11.below h9 K11.lt
          replace G6 := G6.below h9
          replace G8 := G8.below h9
          replace GB := GB.trans (h9.mono GB.size)
          clear h9 G8 K11
          clear zK110
          have K12 := Blk.new w6 40 #[.int .i64 r1, .int .i64 r2, .int .u64 (yh : Int), .int .u64 (yl : Int), .int .u64 (r5 : Int)]
          replace K6 := K6.alloc (.cells #[.int .i64 r1, .int .i64 r2, .int .u64 (yh : Int), .int .u64 (yl : Int), .int .u64 (r5 : Int)] 40)
          replace K7 := K7.alloc (.cells #[.int .i64 r1, .int .i64 r2, .int .u64 (yh : Int), .int .u64 (yl : Int), .int .u64 (r5 : Int)] 40)
          replace G6 := G6.below ((Below.refl _ _).alloc (Nat.le_refl _) (.cells #[.int .i64 r1, .int .i64 r2, .int .u64 (yh : Int), .int .u64 (yl : Int), .int .u64 (r5 : Int)] 40))
          replace GB := GB.alloc GB.size (.cells #[.int .i64 r1, .int .i64 r2, .int .u64 (yh : Int), .int .u64 (yl : Int), .int .u64 (r5 : Int)] 40)
          have TX := Lib.hid (HTx.out _ G6)
          unfold fr at TX
          have zK60 := K6.cell 0
          go_wp2_with fail
          refine TX.out.mono ?_
          rintro e w7 ⟨rfl, h9⟩
          clear TX HTx
          replace K6 := K6.below h9 K6.lt
          replace K7 := K7.below h9 K7.lt
          replace K12 := K12.below h9 K12.lt
          replace G6 := G6.below h9
          replace GB := GB.trans (h9.mono GB.size)
          clear h9 G6 K6
          clear zK60
          have K14 := Blk.new w7 36 #[.int .u64 (t1 : Int), .int .u64 (t2 : Int), .int .u64 (t3 : Int)]
          replace K7 := K7.alloc (.cells #[.int .u64 (t1 : Int), .int .u64 (t2 : Int), .int .u64 (t3 : Int)] 36)
          replace K12 := K12.alloc (.cells #[.int .u64 (t1 : Int), .int .u64 (t2 : Int), .int .u64 (t3 : Int)] 36)
          replace GB := GB.alloc GB.size (.cells #[.int .u64 (t1 : Int), .int .u64 (t2 : Int), .int .u64 (t3 : Int)] 36)
          have zK70 := K7.cell 0
          have zK71 := K7.cell 1
          have zK72 := K7.cell 2
          have zK73 := K7.cell 3
          have zK74 := K7.cell 4
          have zK120 := K12.cell 0
          have zK121 := K12.cell 1
          have zK122 := K12.cell 2
          have zK123 := K12.cell 3
          have zK124 := K12.cell 4
          have zK140 := K14.cell 0
          have zK141 := K14.cell 1
          have zK142 := K14.cell 2
          go_wp2_with fail
          refine (C1.out _).mono ?_
          rintro e wqC1 ⟨rfl, h9⟩
          clear C1
          replace K7 := K7.below h9 K7.lt
          replace K12 := K12.below h9 K12.lt
          replace K14 := K14.below h9 K14.lt
          replace GB := GB.trans (h9.mono GB.size)
          clear h9
          clear zK70 zK71 zK72 zK73 zK74 zK120 zK121 zK122 zK123 zK124 zK140 zK141 zK142
          have zK70 := K7.cell 0
          have zK71 := K7.cell 1
          have zK72 := K7.cell 2
          have zK73 := K7.cell 3
          have zK74 := K7.cell 4
          have zK120 := K12.cell 0
          have zK121 := K12.cell 1
          have zK122 := K12.cell 2
          have zK123 := K12.cell 3
          have zK124 := K12.cell 4
          have zK140 := K14.cell 0
          have zK141 := K14.cell 1
          have zK142 := K14.cell 2
          go_wp2_with fail
          refine (C3.out _).mono ?_
          rintro e wqC3 ⟨rfl, h9⟩
          clear C3
          replace K7 := K7.below h9 K7.lt
          replace K12 := K12.below h9 K12.lt
          replace K14 := K14.below h9 K14.lt
          replace GB := GB.trans (h9.mono GB.size)
          clear h9
          clear zK70 zK71 zK72 zK73 zK74 zK120 zK121 zK122 zK123 zK124 zK140 zK141 zK142
          go_wp2
          go_ret
          exact ⟨rfl, GB⟩
        · have b1 : decide (0 ≤ q1) = false := by
            rw [← hq1, cmpW_lt (by omega)]
            rfl
          have b2 : decide (0 < q2) = true := by
            rw [← hq2, cmpW_gt (by
              have h5 : (y + 1) * t3 ≤ N * t3 := Nat.mul_le_mul_right _ (by omega)
              rw [Nat.add_mul, Nat.one_mul] at h5
              omega)]
            rfl
          clear hyn hq1 hq2 hq3 hyr hg2 hyb hys hmk hyh hyl hL2 hil hiu hig hkm hms haq hc hge hjz hjt2 hy ht3 htr htN hjt htt ht h1 h0 hN hrN hx hrr hll hUl hkn hkr hRl hid hri hn6 hur HPk
          have JX := Lib.hid (HJo.out _ G6)
          have zK60 := K6.cell 0
          have zK70 := K7.cell 0
          have zK71 := K7.cell 1
          have zK72 := K7.cell 2
          have zK73 := K7.cell 3
          have zK74 := K7.cell 4
          go_wp2_with fail
          refine JX.out.mono ?_
          rintro e w5 ⟨A8, n8, c8, rfl, hl8, own8, h9⟩
          clear JX HJo
          replace K6 := K6.below h9 K6.lt
          replace K7 := K7.below h9 K7.lt
          replace G6 := G6.below h9
          replace GB := GB.trans (h9.mono GB.size)
          clear h9
          clear zK60 zK70 zK71 zK72 zK73 zK74
          have K11 := Blk.new w5 26 #[.slice A8 n8 c8]
          replace K6 := K6.alloc (.cells #[.slice A8 n8 c8] 26)
          replace K7 := K7.alloc (.cells #[.slice A8 n8 c8] 26)
          replace G6 := G6.below ((Below.refl _ _).alloc (Nat.le_refl _) (.cells #[.slice A8 n8 c8] 26))
          replace GB := GB.alloc GB.size (.cells #[.slice A8 n8 c8] 26)
          replace own8 := own8.alloc (.cells #[.slice A8 n8 c8] 26)
          have G8 := qr_own own8 (by have := HF.out.2.2; have h8 : L2.length = n8 := hl8; omega) HF.out.2.1
          clear own8
          have GX := Lib.hid (HGe.out A8 n8 c8 _ _ G8)
          rw [HF.out.1] at GX
          unfold agR at GX
          have zK110 := K11.cell 0
          go_wp2_with fail
          refine GX.out.mono ?_
          rintro e w6 ⟨rfl, h9⟩
          clear GX
          replace K6 := K6.below h9 K6.lt
          replace K7 := K7.below h9 K7.lt
          replace K11 := K11.below h9 K11.lt
          replace G6 := G6.below h9
          replace G8 := G8.below h9
          replace GB := GB.trans (h9.mono GB.size)
          clear h9 G8 K11
          clear zK110
          have K12 := Blk.new w6 40 #[.int .i64 r1, .int .i64 r2, .int .u64 (yh : Int), .int .u64 (yl : Int), .int .u64 (r5 : Int)]
          replace K6 := K6.alloc (.cells #[.int .i64 r1, .int .i64 r2, .int .u64 (yh : Int), .int .u64 (yl : Int), .int .u64 (r5 : Int)] 40)
          replace K7 := K7.alloc (.cells #[.int .i64 r1, .int .i64 r2, .int .u64 (yh : Int), .int .u64 (yl : Int), .int .u64 (r5 : Int)] 40)
          replace G6 := G6.below ((Below.refl _ _).alloc (Nat.le_refl _) (.cells #[.int .i64 r1, .int .i64 r2, .int .u64 (yh : Int), .int .u64 (yl : Int), .int .u64 (r5 : Int)] 40))
          replace GB := GB.alloc GB.size (.cells #[.int .i64 r1, .int .i64 r2, .int .u64 (yh : Int), .int .u64 (yl : Int), .int .u64 (r5 : Int)] 40)
          have TX := Lib.hid (HTx.out _ G6)
          unfold fr at TX
          have zK60 := K6.cell 0
          go_wp2_with fail
          refine TX.out.mono ?_
          rintro e w7 ⟨rfl, h9⟩
          clear TX HTx
          replace K6 := K6.below h9 K6.lt
          replace K7 := K7.below h9 K7.lt
          replace K12 := K12.below h9 K12.lt
          replace G6 := G6.below h9
          replace GB := GB.trans (h9.mono GB.size)
          clear h9 G6 K6
          clear zK60
          have K14 := Blk.new w7 36 #[.int .u64 (t1 : Int), .int .u64 (t2 : Int), .int .u64 (t3 : Int)]
          replace K7 := K7.alloc (.cells #[.int .u64 (t1 : Int), .int .u64 (t2 : Int), .int .u64 (t3 : Int)] 36)
          replace K12 := K12.alloc (.cells #[.int .u64 (t1 : Int), .int .u64 (t2 : Int), .int .u64 (t3 : Int)] 36)
          replace GB := GB.alloc GB.size (.cells #[.int .u64 (t1 : Int), .int .u64 (t2 : Int), .int .u64 (t3 : Int)] 36)
          have zK70 := K7.cell 0
          have zK71 := K7.cell 1
          have zK72 := K7.cell 2
          have zK73 := K7.cell 3
          have zK74 := K7.cell 4
          have zK120 := K12.cell 0
          have zK121 := K12.cell 1
          have zK122 := K12.cell 2
          have zK123 := K12.cell 3
          have zK124 := K12.cell 4
          have zK140 := K14.cell 0
          have zK141 := K14.cell 1
          have zK142 := K14.cell 2
          go_wp2_with fail
          refine (C1.out _).mono ?_
          rintro e wqC1 ⟨rfl, h9⟩
          clear C1
          replace K7 := K7.below h9 K7.lt
          replace K12 := K12.below h9 K12.lt
          replace K14 := K14.below h9 K14.lt
          replace GB := GB.trans (h9.mono GB.size)
          clear h9
          clear zK70 zK71 zK72 zK73 zK74 zK120 zK121 zK122 zK123 zK124 zK140 zK141 zK142
          have zK70 := K7.cell 0
          have zK71 := K7.cell 1
          have zK72 := K7.cell 2
          have zK73 := K7.cell 3
          have zK74 := K7.cell 4
          have zK120 := K12.cell 0
          have zK121 := K12.cell 1
          have zK122 := K12.cell 2
          have zK123 := K12.cell 3
          have zK124 := K12.cell 4
          have zK140 := K14.cell 0
          have zK141 := K14.cell 1
          have zK142 := K14.cell 2
          go_wp2_with fail
          refine (C2.out _).mono ?_
          rintro e wqC2 ⟨rfl, h9⟩
          clear C2
          replace K7 := K7.below h9 K7.lt
          replace K12 := K12.below h9 K12.lt
          replace K14 := K14.below h9 K14.lt
          replace GB := GB.trans (h9.mono GB.size)
          clear h9
          clear zK70 zK71 zK72 zK73 zK74 zK120 zK121 zK122 zK123 zK124 zK140 zK141 zK142
          have zK70 := K7.cell 0
          have zK71 := K7.cell 1
          have zK72 := K7.cell 2
          have zK73 := K7.cell 3
          have zK74 := K7.cell 4
          have zK120 := K12.cell 0
          have zK121 := K12.cell 1
          have zK122 := K12.cell 2
          have zK123 := K12.cell 3
          have zK124 := K12.cell 4
          have zK140 := K14.cell 0
          have zK141 := K14.cell 1
          have zK142 := K14.cell 2
          go_wp2_with fail
          refine (C3.out _).mono ?_
          rintro e wqC3 ⟨rfl, h9⟩
          clear C3
          replace K7 := K7.below h9 K7.lt
          replace K12 := K12.below h9 K12.lt
          replace K14 := K14.below h9 K14.lt
          replace GB := GB.trans (h9.mono GB.size)
          clear h9
          clear zK70 zK71 zK72 zK73 zK74 zK120 zK121 zK122 zK123 zK124 zK140 zK141 zK142
          go_wp2
          go_ret
          exact ⟨rfl, GB⟩
      · have haq : addedQ L1 (r1, r2, r3, r4, r5) 0 = ([], 131) := by
          unfold addedQ
          rw [if_neg h0, hjt2, if_neg hc]
        rw [haq] at HJo
        obtain ⟨E2, hE2⟩ : ∃ E : Int, E = 131 := ⟨131, rfl⟩
        rw [← hE2] at HJo
        have e2 : (E2 != 0) = true := by rw [hE2]; rfl
        have e3 : (E2 == 131) = true := by rw [hE2]; rfl
        clear hE2 haq hc hge hjz hjt2 hy ht3 htr htN hjt htt ht h1 h0 hN hrN hx hrr hll hUl hkn hkr hRl hid hri hn6 hur HPk
        have JX := Lib.hid (HJo.out _ G6)
        have zK60 := K6.cell 0
        have zK70 := K7.cell 0
        have zK71 := K7.cell 1
        have zK72 := K7.cell 2
        have zK73 := K7.cell 3
        have zK74 := K7.cell 4
        go_wp2_with fail
        refine JX.out.mono ?_
        rintro e w5 ⟨A8, n8, c8, rfl, hl8, own8, h9⟩
        clear JX HJo
        replace K6 := K6.below h9 K6.lt
        replace K7 := K7.below h9 K7.lt
        replace G6 := G6.below h9
        replace GB := GB.trans (h9.mono GB.size)
        clear h9 own8 K6 K7 G6
        clear zK60 zK70 zK71 zK72 zK73 zK74
        have K11 := Blk.new w5 26 #[.slice A8 n8 c8]
        replace GB := GB.alloc GB.size (.cells #[.slice A8 n8 c8] 26)
        clear K11
        go_wp2
        go_ret
        exact ⟨rfl, GB⟩
  · have hn := leave_none (qs := qs5) (i := id) (by rw [HL1.out]; exact he)
    rw [HL1.out] at hn
    obtain ⟨hl1, hrest⟩ := Prod.mk.inj hn
    obtain ⟨hrr, _⟩ := Prod.mk.inj hrest
    injection hrr with a1 hrr
    injection hrr with a2 hrr
    injection hrr with a3 hrr
    injection hrr with a4 a5
    have c1 : (r1 == 0) = true := by rw [a1]; rfl
    have c2 : (r2 == 0) = true := by rw [a2]; rfl
    have c3 : ((r3 : Int) == 0) = true := by rw [a3]; rfl
    have c4 : ((r4 : Int) == 0) = true := by rw [a4]; rfl
    have c5 : ((r5 : Int) == 0) = true := by rw [a5]; rfl
    have e0 : (E1 != 0) = true := by simpa using he
    have e1 : ((n6 : Int) == 0) = true := by
      have : n6 = 0 := by rw [← hl6, hl1]; rfl
      rw [this]; rfl
    have z0 := K6.cell 0
    have y0 := K7.cell 0
    have y1 := K7.cell 1
    have y2 := K7.cell 2
    have y3 := K7.cell 3
    have y4 := K7.cell 4
    clear hn hl1 hrest a1 a2 a3 a4 a5 he hl6 own6 K6 K7 HL1 HGe HTo
    go_wp2_with fail
    go_ret
    exact ⟨rfl, GB⟩
end Go.Proofs.Ytfgabmelmopgdaa
