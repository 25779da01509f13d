/-
  DomainMakes' walk. No statement is proved here.
-/
import Derived.Test.YtknimnopopnbhaaFa0
namespace Go.Proofs.Ytknimnopopnbhaa
open Go.RowKit

set_option maxRecDepth 100000 in
set_option maxHeartbeats 16000000 in
theorem makes_walk (A : Option Addr) (n c : Nat) (ds : List Dom) (B : Option Addr) (m d : Nat) (us : List Vc) (x1 x2 x3 x4 : Int) (w : World) (hd : Reads w w.heap.size 4 A n (flat dv ds)) (hv : Reads w w.heap.size 4 B m (flat cv us)) (hnc : n ≤ c) (hmd : m ≤ d) (hU : UV us) :
    Calls Try.prog 3 #[.agg #[.slice A n c, .slice B m d], .agg #[.int .i64 x1, .int .i64 x2, .int .i64 x3, .int .i64 x4]] w (Said (.bool true) w) := by
  have HWk := Lib.hid (fun (u : World) => wakes_any u)
  have HOv := Lib.hid (fun (u : World) => over_any A n c B m d u)
  obtain ⟨K0, K1, GB⟩ := blks2 w 25 27 #[.slice A n c, .slice B m d] #[.int .i64 x1, .int .i64 x2, .int .i64 x3, .int .i64 x4]
  by_cases ho : (decide (100 < n) || decide (100 < m)) = true
  · rw [ho] at HOv
    clear ho hd hv hnc hmd hU
    go_enter Try.func3, Try.ntmps3
    go_wp2_with fail
    refine (HWk.out _).mono ?_
    rintro e w1 ⟨rfl, h9⟩
    replace K0 := K0.below h9 K0.lt
    replace K1 := K1.below h9 K1.lt
    replace GB := GB.trans (h9.mono GB.size)
    clear h9
    have zK00 := K0.cell 0
    have zK01 := K0.cell 1
    go_wp2_with fail
    refine (HOv.out _).mono ?_
    rintro e w2 ⟨rfl, h9⟩
    replace K0 := K0.below h9 K0.lt
    replace K1 := K1.below h9 K1.lt
    replace GB := GB.trans (h9.mono GB.size)
    clear h9
    clear zK00 zK01
    go_wp2
    go_ret
    exact ⟨rfl, GB⟩
  · have ho2 : (decide (100 < n) || decide (100 < m)) = false := by simpa using ho
    rw [ho2] at HOv
    have hn : n ≤ 100 ∧ m ≤ 100 := by simp at ho; omega
    have hGR : GR w A n c ds B m d us := ⟨hd, hv, hnc, hmd, by omega, by omega, hU⟩
    have HG := Lib.hid hGR
    have HL := Lib.hid hGR.len
    have HN := Lib.hid hn
    have HUd := Lib.hid (fun k => made_uv hU zeroV ⟨by decide, by decide⟩ 0 k)
    clear ho ho2 hd hv hnc hmd hn hGR hU
    obtain ⟨r1, hr1⟩ : ∃ r, createQ ds us (x1, x2, x3, x4) = r := ⟨_, rfl⟩
    obtain ⟨r2, hr2⟩ : ∃ r, changeQ ds us (x1, x2, x3, x4) = r := ⟨_, rfl⟩
    obtain ⟨r3, hr3⟩ : ∃ r, destroyQ ds us x1 = r := ⟨_, rfl⟩
    have HI1 := Lib.hid (hr1 ▸ create_is ds us (x1, x2, x3, x4))
    have HI2 := Lib.hid (hr2 ▸ change_is ds us (x1, x2, x3, x4))
    have HI3 := Lib.hid (hr3 ▸ destroy_is ds us x1)
    have HN1 := Lib.hid (q_len HI1.out (madeD_len ds (x1, x2, x3, x4) 0 8) (madeV_len us zeroV 0 16))
    have HN2 := Lib.hid (q_len HI2.out (madeD_len ds (x1, x2, x3, x4) 0 8) (madeV_len us zeroV 0 16))
    have HN3 := Lib.hid (q_len HI3.out (madeD_len ds zeroD x1 8) (madeV_len us zeroV 0 16))
    have HU1 := Lib.hid (q_uv HI1.out (HUd.out 16))
    have HU2 := Lib.hid (q_uv HI2.out (HUd.out 16))
    have HU3 := Lib.hid (q_uv HI3.out (HUd.out 16))
    have HR := Lib.hid (And.intro hr1 (And.intro hr2 hr3))
    have HCr := Lib.hid (fun (A : Option Addr) (c : Nat) (B : Option Addr) (d : Nat) (u : World) (h : GR u A n c ds B m d us) => hr1 ▸ gcreate_any A n c ds B m d us x1 x2 x3 x4 u h)
    have HCg := Lib.hid (fun (A : Option Addr) (c : Nat) (B : Option Addr) (d : Nat) (u : World) (h : GR u A n c ds B m d us) => hr2 ▸ gchange_any A n c ds B m d us x1 x2 x3 x4 u h)
    have HDe := Lib.hid (fun (A : Option Addr) (c : Nat) (B : Option Addr) (d : Nat) (u : World) (h : GR u A n c ds B m d us) => hr3 ▸ gdestroy_any A n c ds B m d us x1 u h)
    obtain ⟨D1, V1, E1⟩ := r1
    obtain ⟨D2, V2, E2⟩ := r2
    obtain ⟨D3, V3, E3⟩ := r3
    clear hr1 hr2 hr3
    go_enter Try.func3, Try.ntmps3
    go_wp2_with fail
    refine (HWk.out _).mono ?_
    rintro e w1 ⟨rfl, h9⟩
    replace K0 := K0.below h9 K0.lt
    replace K1 := K1.below h9 K1.lt
    replace GB := GB.trans (h9.mono GB.size)
    clear h9
    have zK00 := K0.cell 0
    have zK01 := K0.cell 1
    go_wp2_with fail
    refine (HOv.out _).mono ?_
    rintro e w2 ⟨rfl, h9⟩
    replace K0 := K0.below h9 K0.lt
    replace K1 := K1.below h9 K1.lt
    replace GB := GB.trans (h9.mono GB.size)
    clear h9
    clear zK00 zK01
    have zK00 := K0.cell 0
    have zK01 := K0.cell 1
    go_wp2_with fail
    refine (copied_any A n c ds B m d us _ (HG.out.below GB)).mono ?_
    rintro e w3 ⟨A5, c5, B5, d5, rfl, o1, o2, h9⟩
    rw [HL.out.1] at o1 ⊢
    rw [HL.out.2] at o2 ⊢
    replace K0 := K0.below h9 K0.lt
    replace K1 := K1.below h9 K1.lt
    replace GB := GB.trans (h9.mono GB.size)
    clear zK00 zK01
    have G5 := GR.of_own o1 o2 (by have := HN.out; omega) (by have := HN.out; omega) HG.out.u
    clear h9 o1 o2
    have K5 := Blk.new w3 25 #[.slice A5 n c5, .slice B5 m d5]
    replace K0 := K0.alloc (.cells #[.slice A5 n c5, .slice B5 m d5] 25)
    replace K1 := K1.alloc (.cells #[.slice A5 n c5, .slice B5 m d5] 25)
    replace G5 := G5.below ((Below.refl _ _).alloc (Nat.le_refl _) (.cells #[.slice A5 n c5, .slice B5 m d5] 25))
    replace GB := GB.alloc GB.size (.cells #[.slice A5 n c5, .slice B5 m d5] 25)
    have zK50 := K5.cell 0
    have zK51 := K5.cell 1
    have zK10 := K1.cell 0
    have zK11 := K1.cell 1
    have zK12 := K1.cell 2
    have zK13 := K1.cell 3
    go_wp2_with fail
    refine (HCr.out _ _ _ _ _ G5).mono ?_
    rintro e w4 ⟨A6, n6, c6, B6, m6, d6, rfl, hl1, hl2, o1, o2, h9⟩
    replace K0 := K0.below h9 K0.lt
    replace K1 := K1.below h9 K1.lt
    replace K5 := K5.below h9 K5.lt
    replace G5 := G5.below h9
    replace GB := GB.trans (h9.mono GB.size)
    clear zK50 zK51 zK10 zK11 zK12 zK13
    have G6 := GR.of_own o1 o2 (by rw [← hl1]; exact HN1.out.1) (by rw [← hl2]; exact HN1.out.2) HU1.out
    clear h9 o1 o2 hl1 hl2
    have K6 := Blk.new w4 25 #[.slice A6 n6 c6, .slice B6 m6 d6]
    replace K0 := K0.alloc (.cells #[.slice A6 n6 c6, .slice B6 m6 d6] 25)
    replace K1 := K1.alloc (.cells #[.slice A6 n6 c6, .slice B6 m6 d6] 25)
    replace K5 := K5.alloc (.cells #[.slice A6 n6 c6, .slice B6 m6 d6] 25)
    replace G5 := G5.below ((Below.refl _ _).alloc (Nat.le_refl _) (.cells #[.slice A6 n6 c6, .slice B6 m6 d6] 25))
    replace G6 := G6.below ((Below.refl _ _).alloc (Nat.le_refl _) (.cells #[.slice A6 n6 c6, .slice B6 m6 d6] 25))
    replace GB := GB.alloc GB.size (.cells #[.slice A6 n6 c6, .slice B6 m6 d6] 25)
    have zK50 := K5.cell 0
    have zK51 := K5.cell 1
    have zK10 := K1.cell 0
    have zK11 := K1.cell 1
    have zK12 := K1.cell 2
    have zK13 := K1.cell 3
    go_wp2_with fail
    refine (HCg.out _ _ _ _ _ G5).mono ?_
    rintro e w5 ⟨A8, n8, c8, B8, m8, d8, rfl, hl1, hl2, o1, o2, h9⟩
    replace K0 := K0.below h9 K0.lt
    replace K1 := K1.below h9 K1.lt
    replace K5 := K5.below h9 K5.lt
    replace K6 := K6.below h9 K6.lt
    replace G5 := G5.below h9
    replace G6 := G6.below h9
    replace GB := GB.trans (h9.mono GB.size)
    clear zK50 zK51 zK10 zK11 zK12 zK13
    have G8 := GR.of_own o1 o2 (by rw [← hl1]; exact HN2.out.1) (by rw [← hl2]; exact HN2.out.2) HU2.out
    clear h9 o1 o2 hl1 hl2
    have K8 := Blk.new w5 25 #[.slice A8 n8 c8, .slice B8 m8 d8]
    replace K0 := K0.alloc (.cells #[.slice A8 n8 c8, .slice B8 m8 d8] 25)
    replace K1 := K1.alloc (.cells #[.slice A8 n8 c8, .slice B8 m8 d8] 25)
    replace K5 := K5.alloc (.cells #[.slice A8 n8 c8, .slice B8 m8 d8] 25)
    replace K6 := K6.alloc (.cells #[.slice A8 n8 c8, .slice B8 m8 d8] 25)
    replace G5 := G5.below ((Below.refl _ _).alloc (Nat.le_refl _) (.cells #[.slice A8 n8 c8, .slice B8 m8 d8] 25))
    replace G6 := G6.below ((Below.refl _ _).alloc (Nat.le_refl _) (.cells #[.slice A8 n8 c8, .slice B8 m8 d8] 25))
    replace G8 := G8.below ((Below.refl _ _).alloc (Nat.le_refl _) (.cells #[.slice A8 n8 c8, .slice B8 m8 d8] 25))
    replace GB := GB.alloc GB.size (.cells #[.slice A8 n8 c8, .slice B8 m8 d8] 25)
    have zK50 := K5.cell 0
    have zK51 := K5.cell 1
    have zK10 := K1.cell 0
    go_wp2_with fail
    refine (HDe.out _ _ _ _ _ G5).mono ?_
    rintro e w6 ⟨A10, n10, c10, B10, m10, d10, rfl, hl1, hl2, o1, o2, h9⟩
    replace K0 := K0.below h9 K0.lt
    replace K1 := K1.below h9 K1.lt
    replace K5 := K5.below h9 K5.lt
    replace K6 := K6.below h9 K6.lt
    replace K8 := K8.below h9 K8.lt
    replace G5 := G5.below h9
    replace G6 := G6.below h9
    replace G8 := G8.below h9
    replace GB := GB.trans (h9.mono GB.size)
    clear zK50 zK51 zK10
    have G10 := GR.of_own o1 o2 (by rw [← hl1]; exact HN3.out.1) (by rw [← hl2]; exact HN3.out.2) HU3.out
    clear h9 o1 o2 hl1 hl2
    have K10 := Blk.new w6 25 #[.slice A10 n10 c10, .slice B10 m10 d10]
    replace K0 := K0.alloc (.cells #[.slice A10 n10 c10, .slice B10 m10 d10] 25)
    replace K1 := K1.alloc (.cells #[.slice A10 n10 c10, .slice B10 m10 d10] 25)
    replace K5 := K5.alloc (.cells #[.slice A10 n10 c10, .slice B10 m10 d10] 25)
    replace K6 := K6.alloc (.cells #[.slice A10 n10 c10, .slice B10 m10 d10] 25)
    replace K8 := K8.alloc (.cells #[.slice A10 n10 c10, .slice B10 m10 d10] 25)
    replace G5 := G5.below ((Below.refl _ _).alloc (Nat.le_refl _) (.cells #[.slice A10 n10 c10, .slice B10 m10 d10] 25))
    replace G6 := G6.below ((Below.refl _ _).alloc (Nat.le_refl _) (.cells #[.slice A10 n10 c10, .slice B10 m10 d10] 25))
    replace G8 := G8.below ((Below.refl _ _).alloc (Nat.le_refl _) (.cells #[.slice A10 n10 c10, .slice B10 m10 d10] 25))
    replace G10 := G10.below ((Below.refl _ _).alloc (Nat.le_refl _) (.cells #[.slice A10 n10 c10, .slice B10 m10 d10] 25))
    replace GB := GB.alloc GB.size (.cells #[.slice A10 n10 c10, .slice B10 m10 d10] 25)
    have zK00 := K0.cell 0
    have zK01 := K0.cell 1
    have zK50 := K5.cell 0
    have zK51 := K5.cell 1
    go_wp2_with fail
    refine ((sameG_self ds us ▸ rsameG_any A5 n c5 ds B5 m d5 us A n c ds B m d us _ G5 (HG.out.below GB) : Calls _ _ _ _ (Said (.bool true) _))).mono ?_
    rintro e w7 ⟨rfl, h9⟩
    replace K0 := K0.below h9 K0.lt
    replace K1 := K1.below h9 K1.lt
    replace K5 := K5.below h9 K5.lt
    replace K6 := K6.below h9 K6.lt
    replace K8 := K8.below h9 K8.lt
    replace K10 := K10.below h9 K10.lt
    replace G5 := G5.below h9
    replace G6 := G6.below h9
    replace G8 := G8.below h9
    replace G10 := G10.below h9
    replace GB := GB.trans (h9.mono GB.size)
    clear h9
    clear zK00 zK01 zK50 zK51
    clear HCr HCg HDe HWk HOv
    have zK00 := K0.cell 0
    have zK01 := K0.cell 1
    have zK10 := K1.cell 0
    have HRd := Lib.hid (fun (u : World) => rrightD_any x1 x2 x3 x4 u)
    have HRg := Lib.hid (fun (u : World) (h : Below w.heap.size w u) => rrightG_any A n c ds B m d us u (HG.out.below h))
    have HDm := Lib.hid (fun (u : World) (h : Below w.heap.size w u) => rdom_any A n c ds B m d us x1 u (HG.out.below h))
    have HOf := Lib.hid (fun (u : World) (h : Below w.heap.size w u) => rofG_any A n c ds B m d us x1 u (HG.out.below h))
    obtain ⟨Q, hQ⟩ : ∃ Q, (ofL us x1).length = Q := ⟨_, rfl⟩
    have HQ := Lib.hid hQ
    cases hr : rightG ds us with
    | true =>
      rw [hr] at HRg
      cases hrd : rightD (x1, x2, x3, x4) with
      | true =>
        rw [hrd] at HRd
        rcases Option.eq_none_or_eq_some (kf ds x1) with hk | ⟨⟨y1, y2, y3, y4⟩, hk⟩
        · have hth : (kf ds x1).isSome = false := by rw [hk]; rfl
          rw [show domV ds x1 = (zeroD, false) from domV_none hk] at HDm
          obtain ⟨y1, y2, y3, y4, hy⟩ : ∃ y1 y2 y3 y4 : Int, (zeroD : Dom) = (y1, y2, y3, y4) := ⟨0, 0, 0, 0, rfl⟩
          rw [hy] at HDm
          clear hk hQ HOf hy
          have he : E1 = 0 ∧ E2 = 4 ∧ E3 = 4 := by
            have q := HR.out
            unfold createQ changeQ destroyQ at q
            simp [hr, hrd, hth] at q
            exact ⟨q.1.2.2.symm, q.2.1.2.2.symm, q.2.2.2.2.symm⟩
          obtain ⟨rfl, rfl, rfl⟩ := he
          clear hr hrd hth
          go_wp2_with fail
          refine (HDm.out _ GB).mono ?_
          rintro e w8 ⟨rfl, h9⟩
          replace K0 := K0.below h9 K0.lt
          replace K1 := K1.below h9 K1.lt
          replace K5 := K5.below h9 K5.lt
          replace K6 := K6.below h9 K6.lt
          replace K8 := K8.below h9 K8.lt
          replace K10 := K10.below h9 K10.lt
          replace G5 := G5.below h9
          replace G6 := G6.below h9
          replace G8 := G8.below h9
          replace G10 := G10.below h9
          replace GB := GB.trans (h9.mono GB.size)
          clear h9
          clear zK00 zK01 zK10
          have K15 := Blk.new w8 27 #[.int .i64 y1, .int .i64 y2, .int .i64 y3, .int .i64 y4]
          replace K0 := K0.alloc (.cells #[.int .i64 y1, .int .i64 y2, .int .i64 y3, .int .i64 y4] 27)
          replace K1 := K1.alloc (.cells #[.int .i64 y1, .int .i64 y2, .int .i64 y3, .int .i64 y4] 27)
          replace K5 := K5.alloc (.cells #[.int .i64 y1, .int .i64 y2, .int .i64 y3, .int .i64 y4] 27)
          replace K6 := K6.alloc (.cells #[.int .i64 y1, .int .i64 y2, .int .i64 y3, .int .i64 y4] 27)
          replace K8 := K8.alloc (.cells #[.int .i64 y1, .int .i64 y2, .int .i64 y3, .int .i64 y4] 27)
          replace K10 := K10.alloc (.cells #[.int .i64 y1, .int .i64 y2, .int .i64 y3, .int .i64 y4] 27)
          replace G5 := G5.below ((Below.refl _ _).alloc (Nat.le_refl _) (.cells #[.int .i64 y1, .int .i64 y2, .int .i64 y3, .int .i64 y4] 27))
          replace G6 := G6.below ((Below.refl _ _).alloc (Nat.le_refl _) (.cells #[.int .i64 y1, .int .i64 y2, .int .i64 y3, .int .i64 y4] 27))
          replace G8 := G8.below ((Below.refl _ _).alloc (Nat.le_refl _) (.cells #[.int .i64 y1, .int .i64 y2, .int .i64 y3, .int .i64 y4] 27))
          replace G10 := G10.below ((Below.refl _ _).alloc (Nat.le_refl _) (.cells #[.int .i64 y1, .int .i64 y2, .int .i64 y3, .int .i64 y4] 27))
          replace GB := GB.alloc GB.size (.cells #[.int .i64 y1, .int .i64 y2, .int .i64 y3, .int .i64 y4] 27)
          clear K15
          have zK10 := K1.cell 0
          have zK11 := K1.cell 1
          have zK12 := K1.cell 2
          have zK13 := K1.cell 3
          go_wp2_with fail
          refine (HRd.out _).mono ?_
          rintro e w9 ⟨rfl, h9⟩
          replace K0 := K0.below h9 K0.lt
          replace K1 := K1.below h9 K1.lt
          replace K5 := K5.below h9 K5.lt
          replace K6 := K6.below h9 K6.lt
          replace K8 := K8.below h9 K8.lt
          replace K10 := K10.below h9 K10.lt
          replace G5 := G5.below h9
          replace G6 := G6.below h9
          replace G8 := G8.below h9
          replace G10 := G10.below h9
          replace GB := GB.trans (h9.mono GB.size)
          clear h9
          clear zK10 zK11 zK12 zK13
          have zK00 := K0.cell 0
          have zK01 := K0.cell 1
          go_wp2_with fail
          refine (HRg.out _ GB).mono ?_
          rintro e w10 ⟨rfl, h9⟩
          replace K0 := K0.below h9 K0.lt
          replace K1 := K1.below h9 K1.lt
          replace K5 := K5.below h9 K5.lt
          replace K6 := K6.below h9 K6.lt
          replace K8 := K8.below h9 K8.lt
          replace K10 := K10.below h9 K10.lt
          replace G5 := G5.below h9
          replace G6 := G6.below h9
          replace G8 := G8.below h9
          replace G10 := G10.below h9
          replace GB := GB.trans (h9.mono GB.size)
          clear h9
          clear zK00 zK01
          go_upto_region 22 with fail
          have HX := Lib.hid (fun (u : World) (h : Below w10.heap.size w10 u) => And.intro (K0.below h K0.lt) (And.intro (K1.below h K1.lt) (And.intro (K6.below h K6.lt) (And.intro (K8.below h K8.lt) (K10.below h K10.lt)))))
          have HGs := Lib.hid (fun (u : World) (h : Below w10.heap.size w10 u) => And.intro (G6.below h) (And.intro (G8.below h) (G10.below h)))
          have HB := Lib.hid (fun (u : World) (h : Below w10.heap.size w10 u) => GB.trans (h.mono GB.size))
          clear K0 K1 K5 K6 K8 K10 G5 G6 G8 G10 GB
          have HW1 : Hid (∀ u, Below w10.heap.size w10 u → Calls Try.prog 20 #[.agg #[.slice A n c, .slice B m d], .agg #[.int .i64 x1, .int .i64 x2, .int .i64 x3, .int .i64 x4]] u (fun e w' => ∃ A n c B m d, e = .returned (.agg #[.slice A n c, .slice B m d]) ∧ GR w' A n c (madeD ds (x1, x2, x3, x4) 0 8) B m d (madeV us zeroV 0 16) ∧ Below u.heap.size u w')) := Lib.hid (fun u h => (rwithD_any A n c ds B m d us x1 x2 x3 x4 u (HG.out.below (HB.out u h))).mono fun _ _ h => h.gr (by have := madeD_len ds (x1, x2, x3, x4) 0 8; omega) (by have := madeV_len us zeroV 0 16; omega) (HUd.out 16))
          have HW3 : Hid (∀ u, Below w10.heap.size w10 u → Calls Try.prog 21 #[.agg #[.slice A n c, .slice B m d], .int .i64 x1] u (fun e w' => ∃ A n c B m d, e = .returned (.agg #[.slice A n c, .slice B m d]) ∧ GR w' A n c (madeD ds zeroD x1 8) B m d (madeV us zeroV 0 16) ∧ Below u.heap.size u w')) := Lib.hid (fun u h => (rwithoutD_any A n c ds B m d us x1 u (HG.out.below (HB.out u h))).mono fun _ _ h => h.gr (by have := madeD_len ds zeroD x1 8; omega) (by have := madeV_len us zeroV 0 16; omega) (HUd.out 16))
          have D := (Below.refl w10.heap.size w10).drew
          refine wp_region_held_drew (S := fun u => Below w10.heap.size w10 u) (by kernel_rfl) D (fun hS => ?_)
          generalize w10.drew = V at D hS ⊢
          refine wpAnyH_take (i := 0) (v := .agg #[.slice A6 n6 c6, .slice B6 m6 d6]) rfl (by kernel_rfl) (by kernel_rfl) (by kernel_rfl) (fun _ _ _ h => h) (Or.inl ⟨by kernel_rfl, fun u hSw => (by have q0 := (HX.out u hSw).2.2.1.cell 0; have q1 := (HX.out u hSw).2.2.1.cell 1; go_simp)⟩) hS ?_
          change wpAnyH _ _ _ _ _ _ _ (Act.put _ (some 69) _) _
          simp only [Act.put]
          refine wpAnyH_take (i := 1) (v := .int .i64 0) rfl (by kernel_rfl) (by kernel_rfl) (by kernel_rfl) (fun _ _ _ h => h) (Or.inl ⟨by kernel_rfl, fun u hSw => (by go_simp)⟩) hS ?_
          change wpAnyH _ _ _ _ _ _ _ (Act.put _ (some 70) _) _
          simp only [Act.put]
          refine wpAnyH_take (i := 2) (v := .agg #[.slice A n c, .slice B m d]) rfl (by kernel_rfl) (by kernel_rfl) (by kernel_rfl) (fun _ _ _ h => h) (Or.inl ⟨by kernel_rfl, fun u hSw => (by have q0 := (HX.out u hSw).1.cell 0; have q1 := (HX.out u hSw).1.cell 1; go_simp)⟩) hS ?_
          change wpAnyH _ _ _ _ _ _ _ (Act.put _ (some 71) _) _
          simp only [Act.put]
          refine wpAnyH_take (i := 3) (v := .agg #[.int .i64 x1, .int .i64 x2, .int .i64 x3, .int .i64 x4]) rfl (by kernel_rfl) (by kernel_rfl) (by kernel_rfl) (fun _ _ _ h => h) (Or.inl ⟨by kernel_rfl, fun u hSw => (by have q0 := (HX.out u hSw).2.1.cell 0; have q1 := (HX.out u hSw).2.1.cell 1; have q2 := (HX.out u hSw).2.1.cell 2; have q3 := (HX.out u hSw).2.1.cell 3; go_simp)⟩) hS ?_
          change wpAnyH _ _ _ _ _ _ _ (Act.put _ (some 72) _) _
          simp only [Act.put]
          refine wpAnyH_take (i := 5) (v := .int .i64 0) rfl (by kernel_rfl) (by kernel_rfl) (by kernel_rfl) (fun _ _ _ h => h) (Or.inl ⟨by kernel_rfl, fun u hSw => (by go_simp)⟩) hS ?_
          change wpAnyH _ _ _ _ _ _ _ (Act.put _ (some 74) _) _
          simp only [Act.put]
          refine wpAnyH_ready (rs := [4]) (by kernel_rfl) (by simp) ?_
          refine AllReadyH.cons rfl (fun K hK => ?_) AllReadyH.nil
          go_simp
          refine (HW1.out _ D).mono ?_
          rintro e1 w1 ⟨Aw1, nw1, cw1, Bw1, mw1, dw1, rfl, Gw1, h9⟩
          replace D := D.trans (h9.mono D.size)
          clear h9
          refine hK.out _ _ D (fun hS => ?_)
          clear hK K
          refine wpAnyH_ready (rs := [6]) (by kernel_rfl) (by simp) ?_
          refine AllReadyH.cons rfl (fun K hK => ?_) AllReadyH.nil
          go_simp
          refine (is_any _ _ _ _ _ _ _ _ _ _ _ _ _ _ _ _ _ _ ((HGs.out _ D).1) Gw1 HI1.out).mono ?_
          rintro e2 w2 ⟨rfl, h9⟩
          replace D := D.trans (h9.mono D.size)
          clear Gw1
          clear h9
          refine hK.out _ _ D (fun hS => ?_)
          clear hK K
          refine wpAnyH_take (i := 7) (v := .bool true) rfl (by kernel_rfl) (by kernel_rfl) (by kernel_rfl) (fun _ _ _ h => h) (Or.inl ⟨by kernel_rfl, fun u hSw => (by go_simp)⟩) hS ?_
          change wpAnyH _ _ _ _ _ _ _ (Act.put _ (some 76) _) _
          simp only [Act.put]
          refine wpAnyH_take (i := 8) (v := .agg #[.slice A8 n8 c8, .slice B8 m8 d8]) rfl (by kernel_rfl) (by kernel_rfl) (by kernel_rfl) (fun _ _ _ h => h) (Or.inl ⟨by kernel_rfl, fun u hSw => (by have q0 := (HX.out u hSw).2.2.2.1.cell 0; have q1 := (HX.out u hSw).2.2.2.1.cell 1; go_simp)⟩) hS ?_
          change wpAnyH _ _ _ _ _ _ _ (Act.put _ (some 77) _) _
          simp only [Act.put]
          refine wpAnyH_take (i := 9) (v := .int .i64 4) rfl (by kernel_rfl) (by kernel_rfl) (by kernel_rfl) (fun _ _ _ h => h) (Or.inl ⟨by kernel_rfl, fun u hSw => (by go_simp)⟩) hS ?_
          change wpAnyH _ _ _ _ _ _ _ (Act.put _ (some 78) _) _
          simp only [Act.put]
          refine wpAnyH_take (i := 10) (v := .agg #[.slice A n c, .slice B m d]) rfl (by kernel_rfl) (by kernel_rfl) (by kernel_rfl) (fun _ _ _ h => h) (Or.inl ⟨by kernel_rfl, fun u hSw => (by have q0 := (HX.out u hSw).1.cell 0; have q1 := (HX.out u hSw).1.cell 1; go_simp)⟩) hS ?_
          change wpAnyH _ _ _ _ _ _ _ (Act.put _ (some 79) _) _
          simp only [Act.put]
          refine wpAnyH_take (i := 11) (v := .agg #[.int .i64 x1, .int .i64 x2, .int .i64 x3, .int .i64 x4]) rfl (by kernel_rfl) (by kernel_rfl) (by kernel_rfl) (fun _ _ _ h => h) (Or.inl ⟨by kernel_rfl, fun u hSw => (by have q0 := (HX.out u hSw).2.1.cell 0; have q1 := (HX.out u hSw).2.1.cell 1; have q2 := (HX.out u hSw).2.1.cell 2; have q3 := (HX.out u hSw).2.1.cell 3; go_simp)⟩) hS ?_
          change wpAnyH _ _ _ _ _ _ _ (Act.put _ (some 80) _) _
          simp only [Act.put]
          refine wpAnyH_take (i := 13) (v := .int .i64 4) rfl (by kernel_rfl) (by kernel_rfl) (by kernel_rfl) (fun _ _ _ h => h) (Or.inl ⟨by kernel_rfl, fun u hSw => (by go_simp)⟩) hS ?_
          change wpAnyH _ _ _ _ _ _ _ (Act.put _ (some 82) _) _
          simp only [Act.put]
          refine wpAnyH_ready (rs := [12]) (by kernel_rfl) (by simp) ?_
          refine AllReadyH.cons rfl (fun K hK => ?_) AllReadyH.nil
          go_simp
          refine (HW1.out _ D).mono ?_
          rintro e3 w3 ⟨Aw2, nw2, cw2, Bw2, mw2, dw2, rfl, Gw2, h9⟩
          replace D := D.trans (h9.mono D.size)
          clear h9
          refine hK.out _ _ D (fun hS => ?_)
          clear hK K
          refine wpAnyH_ready (rs := [14]) (by kernel_rfl) (by simp) ?_
          refine AllReadyH.cons rfl (fun K hK => ?_) AllReadyH.nil
          go_simp
          refine (is_any _ _ _ _ _ _ _ _ _ _ _ _ _ _ _ _ _ _ ((HGs.out _ D).2.1) Gw2 HI2.out).mono ?_
          rintro e4 w4 ⟨rfl, h9⟩
          replace D := D.trans (h9.mono D.size)
          clear Gw2
          clear h9
          refine hK.out _ _ D (fun hS => ?_)
          clear hK K
          refine wpAnyH_take (i := 15) (v := .bool true) rfl (by kernel_rfl) (by kernel_rfl) (by kernel_rfl) (fun _ _ _ h => h) (Or.inl ⟨by kernel_rfl, fun u hSw => (by go_simp)⟩) hS ?_
          change wpAnyH _ _ _ _ _ _ _ (Act.put _ (some 84) _) _
          simp only [Act.put]
          refine wpAnyH_take (i := 16) (v := .bool true) rfl (by kernel_rfl) (by kernel_rfl) (by kernel_rfl) (fun _ _ _ h => h) (Or.inl ⟨by kernel_rfl, fun u hSw => (by go_simp)⟩) hS ?_
          change wpAnyH _ _ _ _ _ _ _ (Act.put _ (some 85) _) _
          simp only [Act.put]
          refine wpAnyH_take (i := 17) (v := .agg #[.slice A10 n10 c10, .slice B10 m10 d10]) rfl (by kernel_rfl) (by kernel_rfl) (by kernel_rfl) (fun _ _ _ h => h) (Or.inl ⟨by kernel_rfl, fun u hSw => (by have q0 := (HX.out u hSw).2.2.2.2.cell 0; have q1 := (HX.out u hSw).2.2.2.2.cell 1; go_simp)⟩) hS ?_
          change wpAnyH _ _ _ _ _ _ _ (Act.put _ (some 86) _) _
          simp only [Act.put]
          refine wpAnyH_take (i := 18) (v := .int .i64 4) rfl (by kernel_rfl) (by kernel_rfl) (by kernel_rfl) (fun _ _ _ h => h) (Or.inl ⟨by kernel_rfl, fun u hSw => (by go_simp)⟩) hS ?_
          change wpAnyH _ _ _ _ _ _ _ (Act.put _ (some 87) _) _
          simp only [Act.put]
          refine wpAnyH_take (i := 19) (v := .agg #[.slice A n c, .slice B m d]) rfl (by kernel_rfl) (by kernel_rfl) (by kernel_rfl) (fun _ _ _ h => h) (Or.inl ⟨by kernel_rfl, fun u hSw => (by have q0 := (HX.out u hSw).1.cell 0; have q1 := (HX.out u hSw).1.cell 1; go_simp)⟩) hS ?_
          change wpAnyH _ _ _ _ _ _ _ (Act.put _ (some 88) _) _
          simp only [Act.put]
          refine wpAnyH_take (i := 20) (v := .pointer (some ⟨w.heap.size + 1, 0, none⟩)) rfl (by kernel_rfl) (by kernel_rfl) (by kernel_rfl) (fun _ _ _ h => h) (Or.inl ⟨by kernel_rfl, fun u hSw => (by go_simp)⟩) hS ?_
          change wpAnyH _ _ _ _ _ _ _ (Act.put _ (some 89) _) _
          simp only [Act.put]
          refine wpAnyH_take (i := 21) (v := .int .i64 x1) rfl (by kernel_rfl) (by kernel_rfl) (by kernel_rfl) (fun _ _ _ h => h) (Or.inl ⟨by kernel_rfl, fun u hSw => (by have q0 := (HX.out u hSw).2.1.cell 0; go_simp)⟩) hS ?_
          change wpAnyH _ _ _ _ _ _ _ (Act.put _ (some 90) _) _
          simp only [Act.put]
          refine wpAnyH_take (i := 23) (v := .int .i64 4) rfl (by kernel_rfl) (by kernel_rfl) (by kernel_rfl) (fun _ _ _ h => h) (Or.inl ⟨by kernel_rfl, fun u hSw => (by go_simp)⟩) hS ?_
          change wpAnyH _ _ _ _ _ _ _ (Act.put _ (some 92) _) _
          simp only [Act.put]
          refine wpAnyH_ready (rs := [22]) (by kernel_rfl) (by simp) ?_
          refine AllReadyH.cons rfl (fun K hK => ?_) AllReadyH.nil
          go_simp
          refine (HW3.out _ D).mono ?_
          rintro e5 w5 ⟨Aw3, nw3, cw3, Bw3, mw3, dw3, rfl, Gw3, h9⟩
          replace D := D.trans (h9.mono D.size)
          clear h9
          refine hK.out _ _ D (fun hS => ?_)
          clear hK K
          refine wpAnyH_ready (rs := [24]) (by kernel_rfl) (by simp) ?_
          refine AllReadyH.cons rfl (fun K hK => ?_) AllReadyH.nil
          go_simp
          refine (is_any _ _ _ _ _ _ _ _ _ _ _ _ _ _ _ _ _ _ ((HGs.out _ D).2.2) Gw3 HI3.out).mono ?_
          rintro e6 w6 ⟨rfl, h9⟩
          replace D := D.trans (h9.mono D.size)
          clear Gw3
          clear h9
          refine hK.out _ _ D (fun hS => ?_)
          clear hK K
          refine wpAnyH_take (i := 25) (v := .bool true) rfl (by kernel_rfl) (by kernel_rfl) (by kernel_rfl) (fun _ _ _ h => h) (Or.inl ⟨by kernel_rfl, fun u hSw => (by go_simp)⟩) hS ?_
          change wpAnyH _ _ _ _ _ _ _ (Act.put _ (some 94) _) _
          simp only [Act.put]
          refine wpAnyH_take (i := 26) (v := .bool true) rfl (by kernel_rfl) (by kernel_rfl) (by kernel_rfl) (fun _ _ _ h => h) (Or.inl ⟨by kernel_rfl, fun u hSw => (by go_simp)⟩) hS ?_
          change wpAnyH _ _ _ _ _ _ _ (Act.put _ (some 4) _) _
          simp only [Act.put]
          refine wpAnyH_done (by kernel_rfl) ?_ _
          clear hS
          have HF := Lib.hid (HB.out _ D)
          clear D
          go_wp2
          go_ret
          exact ⟨rfl, HF.out⟩
        · have hth : (kf ds x1).isSome = true := by rw [hk]; rfl
          rw [show domV ds x1 = ((y1, y2, y3, y4), true) from domV_some hk] at HDm
          by_cases hbz : 0 < (ofL us x1).length
          · have b1 : decide ((0 : Int) < (Q : Int)) = true := decide_eq_true (by omega)
            have b2 : decide (0 < Q) = true := decide_eq_true (by omega)
            clear hk hQ
            have he : E1 = 5 ∧ E2 = 0 ∧ E3 = 8 := by
              have q := HR.out
              unfold createQ changeQ destroyQ at q
              simp [hr, hrd, hth, hbz] at q
              exact ⟨q.1.2.2.symm, q.2.1.2.2.symm, q.2.2.2.2.symm⟩
            obtain ⟨rfl, rfl, rfl⟩ := he
            clear hr hrd hth hbz
            go_wp2_with fail
            refine (HDm.out _ GB).mono ?_
            rintro e w8 ⟨rfl, h9⟩
            replace K0 := K0.below h9 K0.lt
            replace K1 := K1.below h9 K1.lt
            replace K5 := K5.below h9 K5.lt
            replace K6 := K6.below h9 K6.lt
            replace K8 := K8.below h9 K8.lt
            replace K10 := K10.below h9 K10.lt
            replace G5 := G5.below h9
            replace G6 := G6.below h9
            replace G8 := G8.below h9
            replace G10 := G10.below h9
            replace GB := GB.trans (h9.mono GB.size)
            clear h9
            clear zK00 zK01 zK10
            have K15 := Blk.new w8 27 #[.int .i64 y1, .int .i64 y2, .int .i64 y3, .int .i64 y4]
            replace K0 := K0.alloc (.cells #[.int .i64 y1, .int .i64 y2, .int .i64 y3, .int .i64 y4] 27)
            replace K1 := K1.alloc (.cells #[.int .i64 y1, .int .i64 y2, .int .i64 y3, .int .i64 y4] 27)
            replace K5 := K5.alloc (.cells #[.int .i64 y1, .int .i64 y2, .int .i64 y3, .int .i64 y4] 27)
            replace K6 := K6.alloc (.cells #[.int .i64 y1, .int .i64 y2, .int .i64 y3, .int .i64 y4] 27)
            replace K8 := K8.alloc (.cells #[.int .i64 y1, .int .i64 y2, .int .i64 y3, .int .i64 y4] 27)
            replace K10 := K10.alloc (.cells #[.int .i64 y1, .int .i64 y2, .int .i64 y3, .int .i64 y4] 27)
            replace G5 := G5.below ((Below.refl _ _).alloc (Nat.le_refl _) (.cells #[.int .i64 y1, .int .i64 y2, .int .i64 y3, .int .i64 y4] 27))
            replace G6 := G6.below ((Below.refl _ _).alloc (Nat.le_refl _) (.cells #[.int .i64 y1, .int .i64 y2, .int .i64 y3, .int .i64 y4] 27))
            replace G8 := G8.below ((Below.refl _ _).alloc (Nat.le_refl _) (.cells #[.int .i64 y1, .int .i64 y2, .int .i64 y3, .int .i64 y4] 27))
            replace G10 := G10.below ((Below.refl _ _).alloc (Nat.le_refl _) (.cells #[.int .i64 y1, .int .i64 y2, .int .i64 y3, .int .i64 y4] 27))
            replace GB := GB.alloc GB.size (.cells #[.int .i64 y1, .int .i64 y2, .int .i64 y3, .int .i64 y4] 27)
            clear K15
            have zK10 := K1.cell 0
            have zK11 := K1.cell 1
            have zK12 := K1.cell 2
            have zK13 := K1.cell 3
            go_wp2_with fail
            refine (HRd.out _).mono ?_
            rintro e w9 ⟨rfl, h9⟩
            replace K0 := K0.below h9 K0.lt
            replace K1 := K1.below h9 K1.lt
            replace K5 := K5.below h9 K5.lt
            replace K6 := K6.below h9 K6.lt
            replace K8 := K8.below h9 K8.lt
            replace K10 := K10.below h9 K10.lt
            replace G5 := G5.below h9
            replace G6 := G6.below h9
            replace G8 := G8.below h9
            replace G10 := G10.below h9
            replace GB := GB.trans (h9.mono GB.size)
            clear h9
            clear zK10 zK11 zK12 zK13
            have zK00 := K0.cell 0
            have zK01 := K0.cell 1
            have zK10 := K1.cell 0
            go_wp2_with fail
            refine (HOf.out _ GB).mono ?_
            rintro e w10 ⟨Af, cf, rfl, q1, q2, h9⟩
            rw [HQ.out]
            replace K0 := K0.below h9 K0.lt
            replace K1 := K1.below h9 K1.lt
            replace K5 := K5.below h9 K5.lt
            replace K6 := K6.below h9 K6.lt
            replace K8 := K8.below h9 K8.lt
            replace K10 := K10.below h9 K10.lt
            replace G5 := G5.below h9
            replace G6 := G6.below h9
            replace G8 := G8.below h9
            replace G10 := G10.below h9
            replace GB := GB.trans (h9.mono GB.size)
            clear h9 q1 q2
            clear zK00 zK01 zK10
            have zK00 := K0.cell 0
            have zK01 := K0.cell 1
            go_wp2_with fail
            refine (HRg.out _ GB).mono ?_
            rintro e w11 ⟨rfl, h9⟩
            replace K0 := K0.below h9 K0.lt
            replace K1 := K1.below h9 K1.lt
            replace K5 := K5.below h9 K5.lt
            replace K6 := K6.below h9 K6.lt
            replace K8 := K8.below h9 K8.lt
            replace K10 := K10.below h9 K10.lt
            replace G5 := G5.below h9
            replace G6 := G6.below h9
            replace G8 := G8.below h9
            replace G10 := G10.below h9
            replace GB := GB.trans (h9.mono GB.size)
            clear h9
            clear zK00 zK01
            go_upto_region 22 with fail
            have HX := Lib.hid (fun (u : World) (h : Below w11.heap.size w11 u) => And.intro (K0.below h K0.lt) (And.intro (K1.below h K1.lt) (And.intro (K6.below h K6.lt) (And.intro (K8.below h K8.lt) (K10.below h K10.lt)))))
            have HGs := Lib.hid (fun (u : World) (h : Below w11.heap.size w11 u) => And.intro (G6.below h) (And.intro (G8.below h) (G10.below h)))
            have HB := Lib.hid (fun (u : World) (h : Below w11.heap.size w11 u) => GB.trans (h.mono GB.size))
            clear K0 K1 K5 K6 K8 K10 G5 G6 G8 G10 GB
            have HW1 : Hid (∀ u, Below w11.heap.size w11 u → Calls Try.prog 20 #[.agg #[.slice A n c, .slice B m d], .agg #[.int .i64 x1, .int .i64 x2, .int .i64 x3, .int .i64 x4]] u (fun e w' => ∃ A n c B m d, e = .returned (.agg #[.slice A n c, .slice B m d]) ∧ GR w' A n c (madeD ds (x1, x2, x3, x4) 0 8) B m d (madeV us zeroV 0 16) ∧ Below u.heap.size u w')) := Lib.hid (fun u h => (rwithD_any A n c ds B m d us x1 x2 x3 x4 u (HG.out.below (HB.out u h))).mono fun _ _ h => h.gr (by have := madeD_len ds (x1, x2, x3, x4) 0 8; omega) (by have := madeV_len us zeroV 0 16; omega) (HUd.out 16))
            have HW3 : Hid (∀ u, Below w11.heap.size w11 u → Calls Try.prog 21 #[.agg #[.slice A n c, .slice B m d], .int .i64 x1] u (fun e w' => ∃ A n c B m d, e = .returned (.agg #[.slice A n c, .slice B m d]) ∧ GR w' A n c (madeD ds zeroD x1 8) B m d (madeV us zeroV 0 16) ∧ Below u.heap.size u w')) := Lib.hid (fun u h => (rwithoutD_any A n c ds B m d us x1 u (HG.out.below (HB.out u h))).mono fun _ _ h => h.gr (by have := madeD_len ds zeroD x1 8; omega) (by have := madeV_len us zeroV 0 16; omega) (HUd.out 16))
            have D := (Below.refl w11.heap.size w11).drew
            refine wp_region_held_drew (S := fun u => Below w11.heap.size w11 u) (by kernel_rfl) D (fun hS => ?_)
            generalize w11.drew = V at D hS ⊢
            refine wpAnyH_take (i := 0) (v := .agg #[.slice A6 n6 c6, .slice B6 m6 d6]) rfl (by kernel_rfl) (by kernel_rfl) (by kernel_rfl) (fun _ _ _ h => h) (Or.inl ⟨by kernel_rfl, fun u hSw => (by have q0 := (HX.out u hSw).2.2.1.cell 0; have q1 := (HX.out u hSw).2.2.1.cell 1; go_simp)⟩) hS ?_
            change wpAnyH _ _ _ _ _ _ _ (Act.put _ (some 69) _) _
            simp only [Act.put]
            refine wpAnyH_take (i := 1) (v := .int .i64 5) rfl (by kernel_rfl) (by kernel_rfl) (by kernel_rfl) (fun _ _ _ h => h) (Or.inl ⟨by kernel_rfl, fun u hSw => (by go_simp)⟩) hS ?_
            change wpAnyH _ _ _ _ _ _ _ (Act.put _ (some 70) _) _
            simp only [Act.put]
            refine wpAnyH_take (i := 2) (v := .agg #[.slice A n c, .slice B m d]) rfl (by kernel_rfl) (by kernel_rfl) (by kernel_rfl) (fun _ _ _ h => h) (Or.inl ⟨by kernel_rfl, fun u hSw => (by have q0 := (HX.out u hSw).1.cell 0; have q1 := (HX.out u hSw).1.cell 1; go_simp)⟩) hS ?_
            change wpAnyH _ _ _ _ _ _ _ (Act.put _ (some 71) _) _
            simp only [Act.put]
            refine wpAnyH_take (i := 3) (v := .agg #[.int .i64 x1, .int .i64 x2, .int .i64 x3, .int .i64 x4]) rfl (by kernel_rfl) (by kernel_rfl) (by kernel_rfl) (fun _ _ _ h => h) (Or.inl ⟨by kernel_rfl, fun u hSw => (by have q0 := (HX.out u hSw).2.1.cell 0; have q1 := (HX.out u hSw).2.1.cell 1; have q2 := (HX.out u hSw).2.1.cell 2; have q3 := (HX.out u hSw).2.1.cell 3; go_simp)⟩) hS ?_
            change wpAnyH _ _ _ _ _ _ _ (Act.put _ (some 72) _) _
            simp only [Act.put]
            refine wpAnyH_take (i := 5) (v := .int .i64 5) rfl (by kernel_rfl) (by kernel_rfl) (by kernel_rfl) (fun _ _ _ h => h) (Or.inl ⟨by kernel_rfl, fun u hSw => (by go_simp)⟩) hS ?_
            change wpAnyH _ _ _ _ _ _ _ (Act.put _ (some 74) _) _
            simp only [Act.put]
            refine wpAnyH_ready (rs := [4]) (by kernel_rfl) (by simp) ?_
            refine AllReadyH.cons rfl (fun K hK => ?_) AllReadyH.nil
            go_simp
            refine (HW1.out _ D).mono ?_
            rintro e1 w1 ⟨Aw1, nw1, cw1, Bw1, mw1, dw1, rfl, Gw1, h9⟩
            replace D := D.trans (h9.mono D.size)
            clear h9
            refine hK.out _ _ D (fun hS => ?_)
            clear hK K
            refine wpAnyH_ready (rs := [6]) (by kernel_rfl) (by simp) ?_
            refine AllReadyH.cons rfl (fun K hK => ?_) AllReadyH.nil
            go_simp
            refine (is_any _ _ _ _ _ _ _ _ _ _ _ _ _ _ _ _ _ _ ((HGs.out _ D).1) Gw1 HI1.out).mono ?_
            rintro e2 w2 ⟨rfl, h9⟩
            replace D := D.trans (h9.mono D.size)
            clear Gw1
            clear h9
            refine hK.out _ _ D (fun hS => ?_)
            clear hK K
            refine wpAnyH_take (i := 7) (v := .bool true) rfl (by kernel_rfl) (by kernel_rfl) (by kernel_rfl) (fun _ _ _ h => h) (Or.inl ⟨by kernel_rfl, fun u hSw => (by go_simp)⟩) hS ?_
            change wpAnyH _ _ _ _ _ _ _ (Act.put _ (some 76) _) _
            simp only [Act.put]
            refine wpAnyH_take (i := 8) (v := .agg #[.slice A8 n8 c8, .slice B8 m8 d8]) rfl (by kernel_rfl) (by kernel_rfl) (by kernel_rfl) (fun _ _ _ h => h) (Or.inl ⟨by kernel_rfl, fun u hSw => (by have q0 := (HX.out u hSw).2.2.2.1.cell 0; have q1 := (HX.out u hSw).2.2.2.1.cell 1; go_simp)⟩) hS ?_
            change wpAnyH _ _ _ _ _ _ _ (Act.put _ (some 77) _) _
            simp only [Act.put]
            refine wpAnyH_take (i := 9) (v := .int .i64 0) rfl (by kernel_rfl) (by kernel_rfl) (by kernel_rfl) (fun _ _ _ h => h) (Or.inl ⟨by kernel_rfl, fun u hSw => (by go_simp)⟩) hS ?_
            change wpAnyH _ _ _ _ _ _ _ (Act.put _ (some 78) _) _
            simp only [Act.put]
            refine wpAnyH_take (i := 10) (v := .agg #[.slice A n c, .slice B m d]) rfl (by kernel_rfl) (by kernel_rfl) (by kernel_rfl) (fun _ _ _ h => h) (Or.inl ⟨by kernel_rfl, fun u hSw => (by have q0 := (HX.out u hSw).1.cell 0; have q1 := (HX.out u hSw).1.cell 1; go_simp)⟩) hS ?_
            change wpAnyH _ _ _ _ _ _ _ (Act.put _ (some 79) _) _
            simp only [Act.put]
            refine wpAnyH_take (i := 11) (v := .agg #[.int .i64 x1, .int .i64 x2, .int .i64 x3, .int .i64 x4]) rfl (by kernel_rfl) (by kernel_rfl) (by kernel_rfl) (fun _ _ _ h => h) (Or.inl ⟨by kernel_rfl, fun u hSw => (by have q0 := (HX.out u hSw).2.1.cell 0; have q1 := (HX.out u hSw).2.1.cell 1; have q2 := (HX.out u hSw).2.1.cell 2; have q3 := (HX.out u hSw).2.1.cell 3; go_simp)⟩) hS ?_
            change wpAnyH _ _ _ _ _ _ _ (Act.put _ (some 80) _) _
            simp only [Act.put]
            refine wpAnyH_take (i := 13) (v := .int .i64 0) rfl (by kernel_rfl) (by kernel_rfl) (by kernel_rfl) (fun _ _ _ h => h) (Or.inl ⟨by kernel_rfl, fun u hSw => (by go_simp)⟩) hS ?_
            change wpAnyH _ _ _ _ _ _ _ (Act.put _ (some 82) _) _
            simp only [Act.put]
            refine wpAnyH_ready (rs := [12]) (by kernel_rfl) (by simp) ?_
            refine AllReadyH.cons rfl (fun K hK => ?_) AllReadyH.nil
            go_simp
            refine (HW1.out _ D).mono ?_
            rintro e3 w3 ⟨Aw2, nw2, cw2, Bw2, mw2, dw2, rfl, Gw2, h9⟩
            replace D := D.trans (h9.mono D.size)
            clear h9
            refine hK.out _ _ D (fun hS => ?_)
            clear hK K
            refine wpAnyH_ready (rs := [14]) (by kernel_rfl) (by simp) ?_
            refine AllReadyH.cons rfl (fun K hK => ?_) AllReadyH.nil
            go_simp
            refine (is_any _ _ _ _ _ _ _ _ _ _ _ _ _ _ _ _ _ _ ((HGs.out _ D).2.1) Gw2 HI2.out).mono ?_
            rintro e4 w4 ⟨rfl, h9⟩
            replace D := D.trans (h9.mono D.size)
            clear Gw2
            clear h9
            refine hK.out _ _ D (fun hS => ?_)
            clear hK K
            refine wpAnyH_take (i := 15) (v := .bool true) rfl (by kernel_rfl) (by kernel_rfl) (by kernel_rfl) (fun _ _ _ h => h) (Or.inl ⟨by kernel_rfl, fun u hSw => (by go_simp)⟩) hS ?_
            change wpAnyH _ _ _ _ _ _ _ (Act.put _ (some 84) _) _
            simp only [Act.put]
            refine wpAnyH_take (i := 16) (v := .bool true) rfl (by kernel_rfl) (by kernel_rfl) (by kernel_rfl) (fun _ _ _ h => h) (Or.inl ⟨by kernel_rfl, fun u hSw => (by go_simp)⟩) hS ?_
            change wpAnyH _ _ _ _ _ _ _ (Act.put _ (some 85) _) _
            simp only [Act.put]
            refine wpAnyH_take (i := 17) (v := .agg #[.slice A10 n10 c10, .slice B10 m10 d10]) rfl (by kernel_rfl) (by kernel_rfl) (by kernel_rfl) (fun _ _ _ h => h) (Or.inl ⟨by kernel_rfl, fun u hSw => (by have q0 := (HX.out u hSw).2.2.2.2.cell 0; have q1 := (HX.out u hSw).2.2.2.2.cell 1; go_simp)⟩) hS ?_
            change wpAnyH _ _ _ _ _ _ _ (Act.put _ (some 86) _) _
            simp only [Act.put]
            refine wpAnyH_take (i := 18) (v := .int .i64 8) rfl (by kernel_rfl) (by kernel_rfl) (by kernel_rfl) (fun _ _ _ h => h) (Or.inl ⟨by kernel_rfl, fun u hSw => (by go_simp)⟩) hS ?_
            change wpAnyH _ _ _ _ _ _ _ (Act.put _ (some 87) _) _
            simp only [Act.put]
            refine wpAnyH_take (i := 19) (v := .agg #[.slice A n c, .slice B m d]) rfl (by kernel_rfl) (by kernel_rfl) (by kernel_rfl) (fun _ _ _ h => h) (Or.inl ⟨by kernel_rfl, fun u hSw => (by have q0 := (HX.out u hSw).1.cell 0; have q1 := (HX.out u hSw).1.cell 1; go_simp)⟩) hS ?_
            change wpAnyH _ _ _ _ _ _ _ (Act.put _ (some 88) _) _
            simp only [Act.put]
            refine wpAnyH_take (i := 20) (v := .pointer (some ⟨w.heap.size + 1, 0, none⟩)) rfl (by kernel_rfl) (by kernel_rfl) (by kernel_rfl) (fun _ _ _ h => h) (Or.inl ⟨by kernel_rfl, fun u hSw => (by go_simp)⟩) hS ?_
            change wpAnyH _ _ _ _ _ _ _ (Act.put _ (some 89) _) _
            simp only [Act.put]
            refine wpAnyH_take (i := 21) (v := .int .i64 x1) rfl (by kernel_rfl) (by kernel_rfl) (by kernel_rfl) (fun _ _ _ h => h) (Or.inl ⟨by kernel_rfl, fun u hSw => (by have q0 := (HX.out u hSw).2.1.cell 0; go_simp)⟩) hS ?_
            change wpAnyH _ _ _ _ _ _ _ (Act.put _ (some 90) _) _
            simp only [Act.put]
            refine wpAnyH_take (i := 23) (v := .int .i64 8) rfl (by kernel_rfl) (by kernel_rfl) (by kernel_rfl) (fun _ _ _ h => h) (Or.inl ⟨by kernel_rfl, fun u hSw => (by go_simp)⟩) hS ?_
            change wpAnyH _ _ _ _ _ _ _ (Act.put _ (some 92) _) _
            simp only [Act.put]
            refine wpAnyH_ready (rs := [22]) (by kernel_rfl) (by simp) ?_
            refine AllReadyH.cons rfl (fun K hK => ?_) AllReadyH.nil
            go_simp
            refine (HW3.out _ D).mono ?_
            rintro e5 w5 ⟨Aw3, nw3, cw3, Bw3, mw3, dw3, rfl, Gw3, h9⟩
            replace D := D.trans (h9.mono D.size)
            clear h9
            refine hK.out _ _ D (fun hS => ?_)
            clear hK K
            refine wpAnyH_ready (rs := [24]) (by kernel_rfl) (by simp) ?_
            refine AllReadyH.cons rfl (fun K hK => ?_) AllReadyH.nil
            go_simp
            refine (is_any _ _ _ _ _ _ _ _ _ _ _ _ _ _ _ _ _ _ ((HGs.out _ D).2.2) Gw3 HI3.out).mono ?_
            rintro e6 w6 ⟨rfl, h9⟩
            replace D := D.trans (h9.mono D.size)
            clear Gw3
            clear h9
            refine hK.out _ _ D (fun hS => ?_)
            clear hK K
            refine wpAnyH_take (i := 25) (v := .bool true) rfl (by kernel_rfl) (by kernel_rfl) (by kernel_rfl) (fun _ _ _ h => h) (Or.inl ⟨by kernel_rfl, fun u hSw => (by go_simp)⟩) hS ?_
            change wpAnyH _ _ _ _ _ _ _ (Act.put _ (some 94) _) _
            simp only [Act.put]
            refine wpAnyH_take (i := 26) (v := .bool true) rfl (by kernel_rfl) (by kernel_rfl) (by kernel_rfl) (fun _ _ _ h => h) (Or.inl ⟨by kernel_rfl, fun u hSw => (by go_simp)⟩) hS ?_
            change wpAnyH _ _ _ _ _ _ _ (Act.put _ (some 4) _) _
            simp only [Act.put]
            refine wpAnyH_done (by kernel_rfl) ?_ _
            clear hS
            have HF := Lib.hid (HB.out _ D)
            clear D
            go_wp2
            go_ret
            exact ⟨rfl, HF.out⟩
          · have b1 : decide ((0 : Int) < (Q : Int)) = false := decide_eq_false (by omega)
            have b2 : decide (0 < Q) = false := decide_eq_false (by omega)
            clear hk hQ
            have he : E1 = 5 ∧ E2 = 0 ∧ E3 = 0 := by
              have q := HR.out
              unfold createQ changeQ destroyQ at q
              simp [hr, hrd, hth, hbz] at q
              exact ⟨q.1.2.2.symm, q.2.1.2.2.symm, q.2.2.2.2.symm⟩
            obtain ⟨rfl, rfl, rfl⟩ := he
            clear hr hrd hth hbz
            go_wp2_with fail
            refine (HDm.out _ GB).mono ?_
            rintro e w8 ⟨rfl, h9⟩
            replace K0 := K0.below h9 K0.lt
            replace K1 := K1.below h9 K1.lt
            replace K5 := K5.below h9 K5.lt
            replace K6 := K6.below h9 K6.lt
            replace K8 := K8.below h9 K8.lt
            replace K10 := K10.below h9 K10.lt
            replace G5 := G5.below h9
            replace G6 := G6.below h9
            replace G8 := G8.below h9
            replace G10 := G10.below h9
            replace GB := GB.trans (h9.mono GB.size)
            clear h9
            clear zK00 zK01 zK10
            have K15 := Blk.new w8 27 #[.int .i64 y1, .int .i64 y2, .int .i64 y3, .int .i64 y4]
            replace K0 := K0.alloc (.cells #[.int .i64 y1, .int .i64 y2, .int .i64 y3, .int .i64 y4] 27)
            replace K1 := K1.alloc (.cells #[.int .i64 y1, .int .i64 y2, .int .i64 y3, .int .i64 y4] 27)
            replace K5 := K5.alloc (.cells #[.int .i64 y1, .int .i64 y2, .int .i64 y3, .int .i64 y4] 27)
            replace K6 := K6.alloc (.cells #[.int .i64 y1, .int .i64 y2, .int .i64 y3, .int .i64 y4] 27)
            replace K8 := K8.alloc (.cells #[.int .i64 y1, .int .i64 y2, .int .i64 y3, .int .i64 y4] 27)
            replace K10 := K10.alloc (.cells #[.int .i64 y1, .int .i64 y2, .int .i64 y3, .int .i64 y4] 27)
            replace G5 := G5.below ((Below.refl _ _).alloc (Nat.le_refl _) (.cells #[.int .i64 y1, .int .i64 y2, .int .i64 y3, .int .i64 y4] 27))
            replace G6 := G6.below ((Below.refl _ _).alloc (Nat.le_refl _) (.cells #[.int .i64 y1, .int .i64 y2, .int .i64 y3, .int .i64 y4] 27))
            replace G8 := G8.below ((Below.refl _ _).alloc (Nat.le_refl _) (.cells #[.int .i64 y1, .int .i64 y2, .int .i64 y3, .int .i64 y4] 27))
            replace G10 := G10.below ((Below.refl _ _).alloc (Nat.le_refl _) (.cells #[.int .i64 y1, .int .i64 y2, .int .i64 y3, .int .i64 y4] 27))
            replace GB := GB.alloc GB.size (.cells #[.int .i64 y1, .int .i64 y2, .int .i64 y3, .int .i64 y4] 27)
            clear K15
            have zK10 := K1.cell 0
            have zK11 := K1.cell 1
            have zK12 := K1.cell 2
            have zK13 := K1.cell 3
            go_wp2_with fail
            refine (HRd.out _).mono ?_
            rintro e w9 ⟨rfl, h9⟩
            replace K0 := K0.below h9 K0.lt
            replace K1 := K1.below h9 K1.lt
            replace K5 := K5.below h9 K5.lt
            replace K6 := K6.below h9 K6.lt
            replace K8 := K8.below h9 K8.lt
            replace K10 := K10.below h9 K10.lt
            replace G5 := G5.below h9
            replace G6 := G6.below h9
            replace G8 := G8.below h9
            replace G10 := G10.below h9
            replace GB := GB.trans (h9.mono GB.size)
            clear h9
            clear zK10 zK11 zK12 zK13
            have zK00 := K0.cell 0
            have zK01 := K0.cell 1
            have zK10 := K1.cell 0
            go_wp2_with fail
            refine (HOf.out _ GB).mono ?_
            rintro e w10 ⟨Af, cf, rfl, q1, q2, h9⟩
            rw [HQ.out]
            replace K0 := K0.below h9 K0.lt
            replace K1 := K1.below h9 K1.lt
            replace K5 := K5.below h9 K5.lt
            replace K6 := K6.below h9 K6.lt
            replace K8 := K8.below h9 K8.lt
            replace K10 := K10.below h9 K10.lt
            replace G5 := G5.below h9
            replace G6 := G6.below h9
            replace G8 := G8.below h9
            replace G10 := G10.below h9
            replace GB := GB.trans (h9.mono GB.size)
            clear h9 q1 q2
            clear zK00 zK01 zK10
            have zK00 := K0.cell 0
            have zK01 := K0.cell 1
            go_wp2_with fail
            refine (HRg.out _ GB).mono ?_
            rintro e w11 ⟨rfl, h9⟩
            replace K0 := K0.below h9 K0.lt
            replace K1 := K1.below h9 K1.lt
            replace K5 := K5.below h9 K5.lt
            replace K6 := K6.below h9 K6.lt
            replace K8 := K8.below h9 K8.lt
            replace K10 := K10.below h9 K10.lt
            replace G5 := G5.below h9
            replace G6 := G6.below h9
            replace G8 := G8.below h9
            replace G10 := G10.below h9
            replace GB := GB.trans (h9.mono GB.size)
            clear h9
            clear zK00 zK01
            go_upto_region 22 with fail
            have HX := Lib.hid (fun (u : World) (h : Below w11.heap.size w11 u) => And.intro (K0.below h K0.lt) (And.intro (K1.below h K1.lt) (And.intro (K6.below h K6.lt) (And.intro (K8.below h K8.lt) (K10.below h K10.lt)))))
            have HGs := Lib.hid (fun (u : World) (h : Below w11.heap.size w11 u) => And.intro (G6.below h) (And.intro (G8.below h) (G10.below h)))
            have HB := Lib.hid (fun (u : World) (h : Below w11.heap.size w11 u) => GB.trans (h.mono GB.size))
            clear K0 K1 K5 K6 K8 K10 G5 G6 G8 G10 GB
            have HW1 : Hid (∀ u, Below w11.heap.size w11 u → Calls Try.prog 20 #[.agg #[.slice A n c, .slice B m d], .agg #[.int .i64 x1, .int .i64 x2, .int .i64 x3, .int .i64 x4]] u (fun e w' => ∃ A n c B m d, e = .returned (.agg #[.slice A n c, .slice B m d]) ∧ GR w' A n c (madeD ds (x1, x2, x3, x4) 0 8) B m d (madeV us zeroV 0 16) ∧ Below u.heap.size u w')) := Lib.hid (fun u h => (rwithD_any A n c ds B m d us x1 x2 x3 x4 u (HG.out.below (HB.out u h))).mono fun _ _ h => h.gr (by have := madeD_len ds (x1, x2, x3, x4) 0 8; omega) (by have := madeV_len us zeroV 0 16; omega) (HUd.out 16))
            have HW3 : Hid (∀ u, Below w11.heap.size w11 u → Calls Try.prog 21 #[.agg #[.slice A n c, .slice B m d], .int .i64 x1] u (fun e w' => ∃ A n c B m d, e = .returned (.agg #[.slice A n c, .slice B m d]) ∧ GR w' A n c (madeD ds zeroD x1 8) B m d (madeV us zeroV 0 16) ∧ Below u.heap.size u w')) := Lib.hid (fun u h => (rwithoutD_any A n c ds B m d us x1 u (HG.out.below (HB.out u h))).mono fun _ _ h => h.gr (by have := madeD_len ds zeroD x1 8; omega) (by have := madeV_len us zeroV 0 16; omega) (HUd.out 16))
            have D := (Below.refl w11.heap.size w11).drew
            refine wp_region_held_drew (S := fun u => Below w11.heap.size w11 u) (by kernel_rfl) D (fun hS => ?_)
            generalize w11.drew = V at D hS ⊢
            refine wpAnyH_take (i := 0) (v := .agg #[.slice A6 n6 c6, .slice B6 m6 d6]) rfl (by kernel_rfl) (by kernel_rfl) (by kernel_rfl) (fun _ _ _ h => h) (Or.inl ⟨by kernel_rfl, fun u hSw => (by have q0 := (HX.out u hSw).2.2.1.cell 0; have q1 := (HX.out u hSw).2.2.1.cell 1; go_simp)⟩) hS ?_
            change wpAnyH _ _ _ _ _ _ _ (Act.put _ (some 69) _) _
            simp only [Act.put]
            refine wpAnyH_take (i := 1) (v := .int .i64 5) rfl (by kernel_rfl) (by kernel_rfl) (by kernel_rfl) (fun _ _ _ h => h) (Or.inl ⟨by kernel_rfl, fun u hSw => (by go_simp)⟩) hS ?_
            change wpAnyH _ _ _ _ _ _ _ (Act.put _ (some 70) _) _
            simp only [Act.put]
            refine wpAnyH_take (i := 2) (v := .agg #[.slice A n c, .slice B m d]) rfl (by kernel_rfl) (by kernel_rfl) (by kernel_rfl) (fun _ _ _ h => h) (Or.inl ⟨by kernel_rfl, fun u hSw => (by have q0 := (HX.out u hSw).1.cell 0; have q1 := (HX.out u hSw).1.cell 1; go_simp)⟩) hS ?_
            change wpAnyH _ _ _ _ _ _ _ (Act.put _ (some 71) _) _
            simp only [Act.put]
            refine wpAnyH_take (i := 3) (v := .agg #[.int .i64 x1, .int .i64 x2, .int .i64 x3, .int .i64 x4]) rfl (by kernel_rfl) (by kernel_rfl) (by kernel_rfl) (fun _ _ _ h => h) (Or.inl ⟨by kernel_rfl, fun u hSw => (by have q0 := (HX.out u hSw).2.1.cell 0; have q1 := (HX.out u hSw).2.1.cell 1; have q2 := (HX.out u hSw).2.1.cell 2; have q3 := (HX.out u hSw).2.1.cell 3; go_simp)⟩) hS ?_
            change wpAnyH _ _ _ _ _ _ _ (Act.put _ (some 72) _) _
            simp only [Act.put]
            refine wpAnyH_take (i := 5) (v := .int .i64 5) rfl (by kernel_rfl) (by kernel_rfl) (by kernel_rfl) (fun _ _ _ h => h) (Or.inl ⟨by kernel_rfl, fun u hSw => (by go_simp)⟩) hS ?_
            change wpAnyH _ _ _ _ _ _ _ (Act.put _ (some 74) _) _
            simp only [Act.put]
            refine wpAnyH_ready (rs := [4]) (by kernel_rfl) (by simp) ?_
            refine AllReadyH.cons rfl (fun K hK => ?_) AllReadyH.nil
            go_simp
            refine (HW1.out _ D).mono ?_
            rintro e1 w1 ⟨Aw1, nw1, cw1, Bw1, mw1, dw1, rfl, Gw1, h9⟩
            replace D := D.trans (h9.mono D.size)
            clear h9
            refine hK.out _ _ D (fun hS => ?_)
            clear hK K
            refine wpAnyH_ready (rs := [6]) (by kernel_rfl) (by simp) ?_
            refine AllReadyH.cons rfl (fun K hK => ?_) AllReadyH.nil
            go_simp
            refine (is_any _ _ _ _ _ _ _ _ _ _ _ _ _ _ _ _ _ _ ((HGs.out _ D).1) Gw1 HI1.out).mono ?_
            rintro e2 w2 ⟨rfl, h9⟩
            replace D := D.trans (h9.mono D.size)
            clear Gw1
            clear h9
            refine hK.out _ _ D (fun hS => ?_)
            clear hK K
            refine wpAnyH_take (i := 7) (v := .bool true) rfl (by kernel_rfl) (by kernel_rfl) (by kernel_rfl) (fun _ _ _ h => h) (Or.inl ⟨by kernel_rfl, fun u hSw => (by go_simp)⟩) hS ?_
            change wpAnyH _ _ _ _ _ _ _ (Act.put _ (some 76) _) _
            simp only [Act.put]
            refine wpAnyH_take (i := 8) (v := .agg #[.slice A8 n8 c8, .slice B8 m8 d8]) rfl (by kernel_rfl) (by kernel_rfl) (by kernel_rfl) (fun _ _ _ h => h) (Or.inl ⟨by kernel_rfl, fun u hSw => (by have q0 := (HX.out u hSw).2.2.2.1.cell 0; have q1 := (HX.out u hSw).2.2.2.1.cell 1; go_simp)⟩) hS ?_
            change wpAnyH _ _ _ _ _ _ _ (Act.put _ (some 77) _) _
            simp only [Act.put]
            refine wpAnyH_take (i := 9) (v := .int .i64 0) rfl (by kernel_rfl) (by kernel_rfl) (by kernel_rfl) (fun _ _ _ h => h) (Or.inl ⟨by kernel_rfl, fun u hSw => (by go_simp)⟩) hS ?_
            change wpAnyH _ _ _ _ _ _ _ (Act.put _ (some 78) _) _
            simp only [Act.put]
            refine wpAnyH_take (i := 10) (v := .agg #[.slice A n c, .slice B m d]) rfl (by kernel_rfl) (by kernel_rfl) (by kernel_rfl) (fun _ _ _ h => h) (Or.inl ⟨by kernel_rfl, fun u hSw => (by have q0 := (HX.out u hSw).1.cell 0; have q1 := (HX.out u hSw).1.cell 1; go_simp)⟩) hS ?_
            change wpAnyH _ _ _ _ _ _ _ (Act.put _ (some 79) _) _
            simp only [Act.put]
            refine wpAnyH_take (i := 11) (v := .agg #[.int .i64 x1, .int .i64 x2, .int .i64 x3, .int .i64 x4]) rfl (by kernel_rfl) (by kernel_rfl) (by kernel_rfl) (fun _ _ _ h => h) (Or.inl ⟨by kernel_rfl, fun u hSw => (by have q0 := (HX.out u hSw).2.1.cell 0; have q1 := (HX.out u hSw).2.1.cell 1; have q2 := (HX.out u hSw).2.1.cell 2; have q3 := (HX.out u hSw).2.1.cell 3; go_simp)⟩) hS ?_
            change wpAnyH _ _ _ _ _ _ _ (Act.put _ (some 80) _) _
            simp only [Act.put]
            refine wpAnyH_take (i := 13) (v := .int .i64 0) rfl (by kernel_rfl) (by kernel_rfl) (by kernel_rfl) (fun _ _ _ h => h) (Or.inl ⟨by kernel_rfl, fun u hSw => (by go_simp)⟩) hS ?_
            change wpAnyH _ _ _ _ _ _ _ (Act.put _ (some 82) _) _
            simp only [Act.put]
            refine wpAnyH_ready (rs := [12]) (by kernel_rfl) (by simp) ?_
            refine AllReadyH.cons rfl (fun K hK => ?_) AllReadyH.nil
            go_simp
            refine (HW1.out _ D).mono ?_
            rintro e3 w3 ⟨Aw2, nw2, cw2, Bw2, mw2, dw2, rfl, Gw2, h9⟩
            replace D := D.trans (h9.mono D.size)
            clear h9
            refine hK.out _ _ D (fun hS => ?_)
            clear hK K
            refine wpAnyH_ready (rs := [14]) (by kernel_rfl) (by simp) ?_
            refine AllReadyH.cons rfl (fun K hK => ?_) AllReadyH.nil
            go_simp
            refine (is_any _ _ _ _ _ _ _ _ _ _ _ _ _ _ _ _ _ _ ((HGs.out _ D).2.1) Gw2 HI2.out).mono ?_
            rintro e4 w4 ⟨rfl, h9⟩
            replace D := D.trans (h9.mono D.size)
            clear Gw2
            clear h9
            refine hK.out _ _ D (fun hS => ?_)
            clear hK K
            refine wpAnyH_take (i := 15) (v := .bool true) rfl (by kernel_rfl) (by kernel_rfl) (by kernel_rfl) (fun _ _ _ h => h) (Or.inl ⟨by kernel_rfl, fun u hSw => (by go_simp)⟩) hS ?_
            change wpAnyH _ _ _ _ _ _ _ (Act.put _ (some 84) _) _
            simp only [Act.put]
            refine wpAnyH_take (i := 16) (v := .bool true) rfl (by kernel_rfl) (by kernel_rfl) (by kernel_rfl) (fun _ _ _ h => h) (Or.inl ⟨by kernel_rfl, fun u hSw => (by go_simp)⟩) hS ?_
            change wpAnyH _ _ _ _ _ _ _ (Act.put _ (some 85) _) _
            simp only [Act.put]
            refine wpAnyH_take (i := 17) (v := .agg #[.slice A10 n10 c10, .slice B10 m10 d10]) rfl (by kernel_rfl) (by kernel_rfl) (by kernel_rfl) (fun _ _ _ h => h) (Or.inl ⟨by kernel_rfl, fun u hSw => (by have q0 := (HX.out u hSw).2.2.2.2.cell 0; have q1 := (HX.out u hSw).2.2.2.2.cell 1; go_simp)⟩) hS ?_
            change wpAnyH _ _ _ _ _ _ _ (Act.put _ (some 86) _) _
            simp only [Act.put]
            refine wpAnyH_take (i := 18) (v := .int .i64 0) rfl (by kernel_rfl) (by kernel_rfl) (by kernel_rfl) (fun _ _ _ h => h) (Or.inl ⟨by kernel_rfl, fun u hSw => (by go_simp)⟩) hS ?_
            change wpAnyH _ _ _ _ _ _ _ (Act.put _ (some 87) _) _
            simp only [Act.put]
            refine wpAnyH_take (i := 19) (v := .agg #[.slice A n c, .slice B m d]) rfl (by kernel_rfl) (by kernel_rfl) (by kernel_rfl) (fun _ _ _ h => h) (Or.inl ⟨by kernel_rfl, fun u hSw => (by have q0 := (HX.out u hSw).1.cell 0; have q1 := (HX.out u hSw).1.cell 1; go_simp)⟩) hS ?_
            change wpAnyH _ _ _ _ _ _ _ (Act.put _ (some 88) _) _
            simp only [Act.put]
            refine wpAnyH_take (i := 20) (v := .pointer (some ⟨w.heap.size + 1, 0, none⟩)) rfl (by kernel_rfl) (by kernel_rfl) (by kernel_rfl) (fun _ _ _ h => h) (Or.inl ⟨by kernel_rfl, fun u hSw => (by go_simp)⟩) hS ?_
            change wpAnyH _ _ _ _ _ _ _ (Act.put _ (some 89) _) _
            simp only [Act.put]
            refine wpAnyH_take (i := 21) (v := .int .i64 x1) rfl (by kernel_rfl) (by kernel_rfl) (by kernel_rfl) (fun _ _ _ h => h) (Or.inl ⟨by kernel_rfl, fun u hSw => (by have q0 := (HX.out u hSw).2.1.cell 0; go_simp)⟩) hS ?_
            change wpAnyH _ _ _ _ _ _ _ (Act.put _ (some 90) _) _
            simp only [Act.put]
            refine wpAnyH_take (i := 23) (v := .int .i64 0) rfl (by kernel_rfl) (by kernel_rfl) (by kernel_rfl) (fun _ _ _ h => h) (Or.inl ⟨by kernel_rfl, fun u hSw => (by go_simp)⟩) hS ?_
            change wpAnyH _ _ _ _ _ _ _ (Act.put _ (some 92) _) _
            simp only [Act.put]
            refine wpAnyH_ready (rs := [22]) (by kernel_rfl) (by simp) ?_
            refine AllReadyH.cons rfl (fun K hK => ?_) AllReadyH.nil
            go_simp
            refine (HW3.out _ D).mono ?_
            rintro e5 w5 ⟨Aw3, nw3, cw3, Bw3, mw3, dw3, rfl, Gw3, h9⟩
            replace D := D.trans (h9.mono D.size)
            clear h9
            refine hK.out _ _ D (fun hS => ?_)
            clear hK K
            refine wpAnyH_ready (rs := [24]) (by kernel_rfl) (by simp) ?_
            refine AllReadyH.cons rfl (fun K hK => ?_) AllReadyH.nil
            go_simp
            refine (is_any _ _ _ _ _ _ _ _ _ _ _ _ _ _ _ _ _ _ ((HGs.out _ D).2.2) Gw3 HI3.out).mono ?_
            rintro e6 w6 ⟨rfl, h9⟩
            replace D := D.trans (h9.mono D.size)
            clear Gw3
            clear h9
            refine hK.out _ _ D (fun hS => ?_)
            clear hK K
            refine wpAnyH_take (i := 25) (v := .bool true) rfl (by kernel_rfl) (by kernel_rfl) (by kernel_rfl) (fun _ _ _ h => h) (Or.inl ⟨by kernel_rfl, fun u hSw => (by go_simp)⟩) hS ?_
            change wpAnyH _ _ _ _ _ _ _ (Act.put _ (some 94) _) _
            simp only [Act.put]
            refine wpAnyH_take (i := 26) (v := .bool true) rfl (by kernel_rfl) (by kernel_rfl) (by kernel_rfl) (fun _ _ _ h => h) (Or.inl ⟨by kernel_rfl, fun u hSw => (by go_simp)⟩) hS ?_
            change wpAnyH _ _ _ _ _ _ _ (Act.put _ (some 4) _) _
            simp only [Act.put]
            refine wpAnyH_done (by kernel_rfl) ?_ _
            clear hS
            have HF := Lib.hid (HB.out _ D)
            clear D
            go_wp2
            go_ret
            exact ⟨rfl, HF.out⟩
      | false =>
        rw [hrd] at HRd
        rcases Option.eq_none_or_eq_some (kf ds x1) with hk | ⟨⟨y1, y2, y3, y4⟩, hk⟩
        · have hth : (kf ds x1).isSome = false := by rw [hk]; rfl
          rw [show domV ds x1 = (zeroD, false) from domV_none hk] at HDm
          obtain ⟨y1, y2, y3, y4, hy⟩ : ∃ y1 y2 y3 y4 : Int, (zeroD : Dom) = (y1, y2, y3, y4) := ⟨0, 0, 0, 0, rfl⟩
          rw [hy] at HDm
          clear hk hQ HOf hy
          have he : E1 = 2 ∧ E2 = 2 ∧ E3 = 4 := by
            have q := HR.out
            unfold createQ changeQ destroyQ at q
            simp [hr, hrd, hth] at q
            exact ⟨q.1.2.2.symm, q.2.1.2.2.symm, q.2.2.2.2.symm⟩
          obtain ⟨rfl, rfl, rfl⟩ := he
          clear hr hrd hth
          go_wp2_with fail
          refine (HDm.out _ GB).mono ?_
          rintro e w8 ⟨rfl, h9⟩
          replace K0 := K0.below h9 K0.lt
          replace K1 := K1.below h9 K1.lt
          replace K5 := K5.below h9 K5.lt
          replace K6 := K6.below h9 K6.lt
          replace K8 := K8.below h9 K8.lt
          replace K10 := K10.below h9 K10.lt
          replace G5 := G5.below h9
          replace G6 := G6.below h9
          replace G8 := G8.below h9
          replace G10 := G10.below h9
          replace GB := GB.trans (h9.mono GB.size)
          clear h9
          clear zK00 zK01 zK10
          have K15 := Blk.new w8 27 #[.int .i64 y1, .int .i64 y2, .int .i64 y3, .int .i64 y4]
          replace K0 := K0.alloc (.cells #[.int .i64 y1, .int .i64 y2, .int .i64 y3, .int .i64 y4] 27)
          replace K1 := K1.alloc (.cells #[.int .i64 y1, .int .i64 y2, .int .i64 y3, .int .i64 y4] 27)
          replace K5 := K5.alloc (.cells #[.int .i64 y1, .int .i64 y2, .int .i64 y3, .int .i64 y4] 27)
          replace K6 := K6.alloc (.cells #[.int .i64 y1, .int .i64 y2, .int .i64 y3, .int .i64 y4] 27)
          replace K8 := K8.alloc (.cells #[.int .i64 y1, .int .i64 y2, .int .i64 y3, .int .i64 y4] 27)
          replace K10 := K10.alloc (.cells #[.int .i64 y1, .int .i64 y2, .int .i64 y3, .int .i64 y4] 27)
          replace G5 := G5.below ((Below.refl _ _).alloc (Nat.le_refl _) (.cells #[.int .i64 y1, .int .i64 y2, .int .i64 y3, .int .i64 y4] 27))
          replace G6 := G6.below ((Below.refl _ _).alloc (Nat.le_refl _) (.cells #[.int .i64 y1, .int .i64 y2, .int .i64 y3, .int .i64 y4] 27))
          replace G8 := G8.below ((Below.refl _ _).alloc (Nat.le_refl _) (.cells #[.int .i64 y1, .int .i64 y2, .int .i64 y3, .int .i64 y4] 27))
          replace G10 := G10.below ((Below.refl _ _).alloc (Nat.le_refl _) (.cells #[.int .i64 y1, .int .i64 y2, .int .i64 y3, .int .i64 y4] 27))
          replace GB := GB.alloc GB.size (.cells #[.int .i64 y1, .int .i64 y2, .int .i64 y3, .int .i64 y4] 27)
          clear K15
          have zK10 := K1.cell 0
          have zK11 := K1.cell 1
          have zK12 := K1.cell 2
          have zK13 := K1.cell 3
          go_wp2_with fail
          refine (HRd.out _).mono ?_
          rintro e w9 ⟨rfl, h9⟩
          replace K0 := K0.below h9 K0.lt
          replace K1 := K1.below h9 K1.lt
          replace K5 := K5.below h9 K5.lt
          replace K6 := K6.below h9 K6.lt
          replace K8 := K8.below h9 K8.lt
          replace K10 := K10.below h9 K10.lt
          replace G5 := G5.below h9
          replace G6 := G6.below h9
          replace G8 := G8.below h9
          replace G10 := G10.below h9
          replace GB := GB.trans (h9.mono GB.size)
          clear h9
          clear zK10 zK11 zK12 zK13
          have zK00 := K0.cell 0
          have zK01 := K0.cell 1
          go_wp2_with fail
          refine (HRg.out _ GB).mono ?_
          rintro e w10 ⟨rfl, h9⟩
          replace K0 := K0.below h9 K0.lt
          replace K1 := K1.below h9 K1.lt
          replace K5 := K5.below h9 K5.lt
          replace K6 := K6.below h9 K6.lt
          replace K8 := K8.below h9 K8.lt
          replace K10 := K10.below h9 K10.lt
          replace G5 := G5.below h9
          replace G6 := G6.below h9
          replace G8 := G8.below h9
          replace G10 := G10.below h9
          replace GB := GB.trans (h9.mono GB.size)
          clear h9
          clear zK00 zK01
          go_upto_region 22 with fail
          have HX := Lib.hid (fun (u : World) (h : Below w10.heap.size w10 u) => And.intro (K0.below h K0.lt) (And.intro (K1.below h K1.lt) (And.intro (K6.below h K6.lt) (And.intro (K8.below h K8.lt) (K10.below h K10.lt)))))
          have HGs := Lib.hid (fun (u : World) (h : Below w10.heap.size w10 u) => And.intro (G6.below h) (And.intro (G8.below h) (G10.below h)))
          have HB := Lib.hid (fun (u : World) (h : Below w10.heap.size w10 u) => GB.trans (h.mono GB.size))
          clear K0 K1 K5 K6 K8 K10 G5 G6 G8 G10 GB
          have HW1 : Hid (∀ u, Below w10.heap.size w10 u → Calls Try.prog 20 #[.agg #[.slice A n c, .slice B m d], .agg #[.int .i64 x1, .int .i64 x2, .int .i64 x3, .int .i64 x4]] u (fun e w' => ∃ A n c B m d, e = .returned (.agg #[.slice A n c, .slice B m d]) ∧ GR w' A n c (madeD ds (x1, x2, x3, x4) 0 8) B m d (madeV us zeroV 0 16) ∧ Below u.heap.size u w')) := Lib.hid (fun u h => (rwithD_any A n c ds B m d us x1 x2 x3 x4 u (HG.out.below (HB.out u h))).mono fun _ _ h => h.gr (by have := madeD_len ds (x1, x2, x3, x4) 0 8; omega) (by have := madeV_len us zeroV 0 16; omega) (HUd.out 16))
          have HW3 : Hid (∀ u, Below w10.heap.size w10 u → Calls Try.prog 21 #[.agg #[.slice A n c, .slice B m d], .int .i64 x1] u (fun e w' => ∃ A n c B m d, e = .returned (.agg #[.slice A n c, .slice B m d]) ∧ GR w' A n c (madeD ds zeroD x1 8) B m d (madeV us zeroV 0 16) ∧ Below u.heap.size u w')) := Lib.hid (fun u h => (rwithoutD_any A n c ds B m d us x1 u (HG.out.below (HB.out u h))).mono fun _ _ h => h.gr (by have := madeD_len ds zeroD x1 8; omega) (by have := madeV_len us zeroV 0 16; omega) (HUd.out 16))
          have D := (Below.refl w10.heap.size w10).drew
          refine wp_region_held_drew (S := fun u => Below w10.heap.size w10 u) (by kernel_rfl) D (fun hS => ?_)
          generalize w10.drew = V at D hS ⊢
          refine wpAnyH_take (i := 0) (v := .agg #[.slice A6 n6 c6, .slice B6 m6 d6]) rfl (by kernel_rfl) (by kernel_rfl) (by kernel_rfl) (fun _ _ _ h => h) (Or.inl ⟨by kernel_rfl, fun u hSw => (by have q0 := (HX.out u hSw).2.2.1.cell 0; have q1 := (HX.out u hSw).2.2.1.cell 1; go_simp)⟩) hS ?_
          change wpAnyH _ _ _ _ _ _ _ (Act.put _ (some 69) _) _
          simp only [Act.put]
          refine wpAnyH_take (i := 1) (v := .int .i64 2) rfl (by kernel_rfl) (by kernel_rfl) (by kernel_rfl) (fun _ _ _ h => h) (Or.inl ⟨by kernel_rfl, fun u hSw => (by go_simp)⟩) hS ?_
          change wpAnyH _ _ _ _ _ _ _ (Act.put _ (some 70) _) _
          simp only [Act.put]
          refine wpAnyH_take (i := 2) (v := .agg #[.slice A n c, .slice B m d]) rfl (by kernel_rfl) (by kernel_rfl) (by kernel_rfl) (fun _ _ _ h => h) (Or.inl ⟨by kernel_rfl, fun u hSw => (by have q0 := (HX.out u hSw).1.cell 0; have q1 := (HX.out u hSw).1.cell 1; go_simp)⟩) hS ?_
          change wpAnyH _ _ _ _ _ _ _ (Act.put _ (some 71) _) _
          simp only [Act.put]
          refine wpAnyH_take (i := 3) (v := .agg #[.int .i64 x1, .int .i64 x2, .int .i64 x3, .int .i64 x4]) rfl (by kernel_rfl) (by kernel_rfl) (by kernel_rfl) (fun _ _ _ h => h) (Or.inl ⟨by kernel_rfl, fun u hSw => (by have q0 := (HX.out u hSw).2.1.cell 0; have q1 := (HX.out u hSw).2.1.cell 1; have q2 := (HX.out u hSw).2.1.cell 2; have q3 := (HX.out u hSw).2.1.cell 3; go_simp)⟩) hS ?_
          change wpAnyH _ _ _ _ _ _ _ (Act.put _ (some 72) _) _
          simp only [Act.put]
          refine wpAnyH_take (i := 5) (v := .int .i64 2) rfl (by kernel_rfl) (by kernel_rfl) (by kernel_rfl) (fun _ _ _ h => h) (Or.inl ⟨by kernel_rfl, fun u hSw => (by go_simp)⟩) hS ?_
          change wpAnyH _ _ _ _ _ _ _ (Act.put _ (some 74) _) _
          simp only [Act.put]
          refine wpAnyH_ready (rs := [4]) (by kernel_rfl) (by simp) ?_
          refine AllReadyH.cons rfl (fun K hK => ?_) AllReadyH.nil
          go_simp
          refine (HW1.out _ D).mono ?_
          rintro e1 w1 ⟨Aw1, nw1, cw1, Bw1, mw1, dw1, rfl, Gw1, h9⟩
          replace D := D.trans (h9.mono D.size)
          clear h9
          refine hK.out _ _ D (fun hS => ?_)
          clear hK K
          refine wpAnyH_ready (rs := [6]) (by kernel_rfl) (by simp) ?_
          refine AllReadyH.cons rfl (fun K hK => ?_) AllReadyH.nil
          go_simp
          refine (is_any _ _ _ _ _ _ _ _ _ _ _ _ _ _ _ _ _ _ ((HGs.out _ D).1) Gw1 HI1.out).mono ?_
          rintro e2 w2 ⟨rfl, h9⟩
          replace D := D.trans (h9.mono D.size)
          clear Gw1
          clear h9
          refine hK.out _ _ D (fun hS => ?_)
          clear hK K
          refine wpAnyH_take (i := 7) (v := .bool true) rfl (by kernel_rfl) (by kernel_rfl) (by kernel_rfl) (fun _ _ _ h => h) (Or.inl ⟨by kernel_rfl, fun u hSw => (by go_simp)⟩) hS ?_
          change wpAnyH _ _ _ _ _ _ _ (Act.put _ (some 76) _) _
          simp only [Act.put]
          refine wpAnyH_take (i := 8) (v := .agg #[.slice A8 n8 c8, .slice B8 m8 d8]) rfl (by kernel_rfl) (by kernel_rfl) (by kernel_rfl) (fun _ _ _ h => h) (Or.inl ⟨by kernel_rfl, fun u hSw => (by have q0 := (HX.out u hSw).2.2.2.1.cell 0; have q1 := (HX.out u hSw).2.2.2.1.cell 1; go_simp)⟩) hS ?_
          change wpAnyH _ _ _ _ _ _ _ (Act.put _ (some 77) _) _
          simp only [Act.put]
          refine wpAnyH_take (i := 9) (v := .int .i64 2) rfl (by kernel_rfl) (by kernel_rfl) (by kernel_rfl) (fun _ _ _ h => h) (Or.inl ⟨by kernel_rfl, fun u hSw => (by go_simp)⟩) hS ?_
          change wpAnyH _ _ _ _ _ _ _ (Act.put _ (some 78) _) _
          simp only [Act.put]
          refine wpAnyH_take (i := 10) (v := .agg #[.slice A n c, .slice B m d]) rfl (by kernel_rfl) (by kernel_rfl) (by kernel_rfl) (fun _ _ _ h => h) (Or.inl ⟨by kernel_rfl, fun u hSw => (by have q0 := (HX.out u hSw).1.cell 0; have q1 := (HX.out u hSw).1.cell 1; go_simp)⟩) hS ?_
          change wpAnyH _ _ _ _ _ _ _ (Act.put _ (some 79) _) _
          simp only [Act.put]
          refine wpAnyH_take (i := 11) (v := .agg #[.int .i64 x1, .int .i64 x2, .int .i64 x3, .int .i64 x4]) rfl (by kernel_rfl) (by kernel_rfl) (by kernel_rfl) (fun _ _ _ h => h) (Or.inl ⟨by kernel_rfl, fun u hSw => (by have q0 := (HX.out u hSw).2.1.cell 0; have q1 := (HX.out u hSw).2.1.cell 1; have q2 := (HX.out u hSw).2.1.cell 2; have q3 := (HX.out u hSw).2.1.cell 3; go_simp)⟩) hS ?_
          change wpAnyH _ _ _ _ _ _ _ (Act.put _ (some 80) _) _
          simp only [Act.put]
          refine wpAnyH_take (i := 13) (v := .int .i64 2) rfl (by kernel_rfl) (by kernel_rfl) (by kernel_rfl) (fun _ _ _ h => h) (Or.inl ⟨by kernel_rfl, fun u hSw => (by go_simp)⟩) hS ?_
          change wpAnyH _ _ _ _ _ _ _ (Act.put _ (some 82) _) _
          simp only [Act.put]
          refine wpAnyH_ready (rs := [12]) (by kernel_rfl) (by simp) ?_
          refine AllReadyH.cons rfl (fun K hK => ?_) AllReadyH.nil
          go_simp
          refine (HW1.out _ D).mono ?_
          rintro e3 w3 ⟨Aw2, nw2, cw2, Bw2, mw2, dw2, rfl, Gw2, h9⟩
          replace D := D.trans (h9.mono D.size)
          clear h9
          refine hK.out _ _ D (fun hS => ?_)
          clear hK K
          refine wpAnyH_ready (rs := [14]) (by kernel_rfl) (by simp) ?_
          refine AllReadyH.cons rfl (fun K hK => ?_) AllReadyH.nil
          go_simp
          refine (is_any _ _ _ _ _ _ _ _ _ _ _ _ _ _ _ _ _ _ ((HGs.out _ D).2.1) Gw2 HI2.out).mono ?_
          rintro e4 w4 ⟨rfl, h9⟩
          replace D := D.trans (h9.mono D.size)
          clear Gw2
          clear h9
          refine hK.out _ _ D (fun hS => ?_)
          clear hK K
          refine wpAnyH_take (i := 15) (v := .bool true) rfl (by kernel_rfl) (by kernel_rfl) (by kernel_rfl) (fun _ _ _ h => h) (Or.inl ⟨by kernel_rfl, fun u hSw => (by go_simp)⟩) hS ?_
          change wpAnyH _ _ _ _ _ _ _ (Act.put _ (some 84) _) _
          simp only [Act.put]
          refine wpAnyH_take (i := 16) (v := .bool true) rfl (by kernel_rfl) (by kernel_rfl) (by kernel_rfl) (fun _ _ _ h => h) (Or.inl ⟨by kernel_rfl, fun u hSw => (by go_simp)⟩) hS ?_
          change wpAnyH _ _ _ _ _ _ _ (Act.put _ (some 85) _) _
          simp only [Act.put]
          refine wpAnyH_take (i := 17) (v := .agg #[.slice A10 n10 c10, .slice B10 m10 d10]) rfl (by kernel_rfl) (by kernel_rfl) (by kernel_rfl) (fun _ _ _ h => h) (Or.inl ⟨by kernel_rfl, fun u hSw => (by have q0 := (HX.out u hSw).2.2.2.2.cell 0; have q1 := (HX.out u hSw).2.2.2.2.cell 1; go_simp)⟩) hS ?_
          change wpAnyH _ _ _ _ _ _ _ (Act.put _ (some 86) _) _
          simp only [Act.put]
          refine wpAnyH_take (i := 18) (v := .int .i64 4) rfl (by kernel_rfl) (by kernel_rfl) (by kernel_rfl) (fun _ _ _ h => h) (Or.inl ⟨by kernel_rfl, fun u hSw => (by go_simp)⟩) hS ?_
          change wpAnyH _ _ _ _ _ _ _ (Act.put _ (some 87) _) _
          simp only [Act.put]
          refine wpAnyH_take (i := 19) (v := .agg #[.slice A n c, .slice B m d]) rfl (by kernel_rfl) (by kernel_rfl) (by kernel_rfl) (fun _ _ _ h => h) (Or.inl ⟨by kernel_rfl, fun u hSw => (by have q0 := (HX.out u hSw).1.cell 0; have q1 := (HX.out u hSw).1.cell 1; go_simp)⟩) hS ?_
          change wpAnyH _ _ _ _ _ _ _ (Act.put _ (some 88) _) _
          simp only [Act.put]
          refine wpAnyH_take (i := 20) (v := .pointer (some ⟨w.heap.size + 1, 0, none⟩)) rfl (by kernel_rfl) (by kernel_rfl) (by kernel_rfl) (fun _ _ _ h => h) (Or.inl ⟨by kernel_rfl, fun u hSw => (by go_simp)⟩) hS ?_
          change wpAnyH _ _ _ _ _ _ _ (Act.put _ (some 89) _) _
          simp only [Act.put]
          refine wpAnyH_take (i := 21) (v := .int .i64 x1) rfl (by kernel_rfl) (by kernel_rfl) (by kernel_rfl) (fun _ _ _ h => h) (Or.inl ⟨by kernel_rfl, fun u hSw => (by have q0 := (HX.out u hSw).2.1.cell 0; go_simp)⟩) hS ?_
          change wpAnyH _ _ _ _ _ _ _ (Act.put _ (some 90) _) _
          simp only [Act.put]
          refine wpAnyH_take (i := 23) (v := .int .i64 4) rfl (by kernel_rfl) (by kernel_rfl) (by kernel_rfl) (fun _ _ _ h => h) (Or.inl ⟨by kernel_rfl, fun u hSw => (by go_simp)⟩) hS ?_
          change wpAnyH _ _ _ _ _ _ _ (Act.put _ (some 92) _) _
          simp only [Act.put]
          refine wpAnyH_ready (rs := [22]) (by kernel_rfl) (by simp) ?_
          refine AllReadyH.cons rfl (fun K hK => ?_) AllReadyH.nil
          go_simp
          refine (HW3.out _ D).mono ?_
          rintro e5 w5 ⟨Aw3, nw3, cw3, Bw3, mw3, dw3, rfl, Gw3, h9⟩
          replace D := D.trans (h9.mono D.size)
          clear h9
          refine hK.out _ _ D (fun hS => ?_)
          clear hK K
          refine wpAnyH_ready (rs := [24]) (by kernel_rfl) (by simp) ?_
          refine AllReadyH.cons rfl (fun K hK => ?_) AllReadyH.nil
          go_simp
          refine (is_any _ _ _ _ _ _ _ _ _ _ _ _ _ _ _ _ _ _ ((HGs.out _ D).2.2) Gw3 HI3.out).mono ?_
          rintro e6 w6 ⟨rfl, h9⟩
          replace D := D.trans (h9.mono D.size)
          clear Gw3
          clear h9
          refine hK.out _ _ D (fun hS => ?_)
          clear hK K
          refine wpAnyH_take (i := 25) (v := .bool true) rfl (by kernel_rfl) (by kernel_rfl) (by kernel_rfl) (fun _ _ _ h => h) (Or.inl ⟨by kernel_rfl, fun u hSw => (by go_simp)⟩) hS ?_
          change wpAnyH _ _ _ _ _ _ _ (Act.put _ (some 94) _) _
          simp only [Act.put]
          refine wpAnyH_take (i := 26) (v := .bool true) rfl (by kernel_rfl) (by kernel_rfl) (by kernel_rfl) (fun _ _ _ h => h) (Or.inl ⟨by kernel_rfl, fun u hSw => (by go_simp)⟩) hS ?_
          change wpAnyH _ _ _ _ _ _ _ (Act.put _ (some 4) _) _
          simp only [Act.put]
          refine wpAnyH_done (by kernel_rfl) ?_ _
          clear hS
          have HF := Lib.hid (HB.out _ D)
          clear D
          go_wp2
          go_ret
          exact ⟨rfl, HF.out⟩
        · have hth : (kf ds x1).isSome = true := by rw [hk]; rfl
          rw [show domV ds x1 = ((y1, y2, y3, y4), true) from domV_some hk] at HDm
          by_cases hbz : 0 < (ofL us x1).length
          · have b1 : decide ((0 : Int) < (Q : Int)) = true := decide_eq_true (by omega)
            have b2 : decide (0 < Q) = true := decide_eq_true (by omega)
            clear hk hQ
            have he : E1 = 2 ∧ E2 = 2 ∧ E3 = 8 := by
              have q := HR.out
              unfold createQ changeQ destroyQ at q
              simp [hr, hrd, hth, hbz] at q
              exact ⟨q.1.2.2.symm, q.2.1.2.2.symm, q.2.2.2.2.symm⟩
            obtain ⟨rfl, rfl, rfl⟩ := he
            clear hr hrd hth hbz
            go_wp2_with fail
            refine (HDm.out _ GB).mono ?_
            rintro e w8 ⟨rfl, h9⟩
            replace K0 := K0.below h9 K0.lt
            replace K1 := K1.below h9 K1.lt
            replace K5 := K5.below h9 K5.lt
            replace K6 := K6.below h9 K6.lt
            replace K8 := K8.below h9 K8.lt
            replace K10 := K10.below h9 K10.lt
            replace G5 := G5.below h9
            replace G6 := G6.below h9
            replace G8 := G8.below h9
            replace G10 := G10.below h9
            replace GB := GB.trans (h9.mono GB.size)
            clear h9
            clear zK00 zK01 zK10
            have K15 := Blk.new w8 27 #[.int .i64 y1, .int .i64 y2, .int .i64 y3, .int .i64 y4]
            replace K0 := K0.alloc (.cells #[.int .i64 y1, .int .i64 y2, .int .i64 y3, .int .i64 y4] 27)
            replace K1 := K1.alloc (.cells #[.int .i64 y1, .int .i64 y2, .int .i64 y3, .int .i64 y4] 27)
            replace K5 := K5.alloc (.cells #[.int .i64 y1, .int .i64 y2, .int .i64 y3, .int .i64 y4] 27)
            replace K6 := K6.alloc (.cells #[.int .i64 y1, .int .i64 y2, .int .i64 y3, .int .i64 y4] 27)
            replace K8 := K8.alloc (.cells #[.int .i64 y1, .int .i64 y2, .int .i64 y3, .int .i64 y4] 27)
            replace K10 := K10.alloc (.cells #[.int .i64 y1, .int .i64 y2, .int .i64 y3, .int .i64 y4] 27)
            replace G5 := G5.below ((Below.refl _ _).alloc (Nat.le_refl _) (.cells #[.int .i64 y1, .int .i64 y2, .int .i64 y3, .int .i64 y4] 27))
            replace G6 := G6.below ((Below.refl _ _).alloc (Nat.le_refl _) (.cells #[.int .i64 y1, .int .i64 y2, .int .i64 y3, .int .i64 y4] 27))
            replace G8 := G8.below ((Below.refl _ _).alloc (Nat.le_refl _) (.cells #[.int .i64 y1, .int .i64 y2, .int .i64 y3, .int .i64 y4] 27))
            replace G10 := G10.below ((Below.refl _ _).alloc (Nat.le_refl _) (.cells #[.int .i64 y1, .int .i64 y2, .int .i64 y3, .int .i64 y4] 27))
            replace GB := GB.alloc GB.size (.cells #[.int .i64 y1, .int .i64 y2, .int .i64 y3, .int .i64 y4] 27)
            clear K15
            have zK10 := K1.cell 0
            have zK11 := K1.cell 1
            have zK12 := K1.cell 2
            have zK13 := K1.cell 3
            go_wp2_with fail
            refine (HRd.out _).mono ?_
            rintro e w9 ⟨rfl, h9⟩
            replace K0 := K0.below h9 K0.lt
            replace K1 := K1.below h9 K1.lt
            replace K5 := K5.below h9 K5.lt
            replace K6 := K6.below h9 K6.lt
            replace K8 := K8.below h9 K8.lt
            replace K10 := K10.below h9 K10.lt
            replace G5 := G5.below h9
            replace G6 := G6.below h9
            replace G8 := G8.below h9
            replace G10 := G10.below h9
            replace GB := GB.trans (h9.mono GB.size)
            clear h9
            clear zK10 zK11 zK12 zK13
            have zK00 := K0.cell 0
            have zK01 := K0.cell 1
            have zK10 := K1.cell 0
            go_wp2_with fail
            refine (HOf.out _ GB).mono ?_
            rintro e w10 ⟨Af, cf, rfl, q1, q2, h9⟩
            rw [HQ.out]
            replace K0 := K0.below h9 K0.lt
            replace K1 := K1.below h9 K1.lt
            replace K5 := K5.below h9 K5.lt
            replace K6 := K6.below h9 K6.lt
            replace K8 := K8.below h9 K8.lt
            replace K10 := K10.below h9 K10.lt
            replace G5 := G5.below h9
            replace G6 := G6.below h9
            replace G8 := G8.below h9
            replace G10 := G10.below h9
            replace GB := GB.trans (h9.mono GB.size)
            clear h9 q1 q2
            clear zK00 zK01 zK10
            have zK00 := K0.cell 0
            have zK01 := K0.cell 1
            go_wp2_with fail
            refine (HRg.out _ GB).mono ?_
            rintro e w11 ⟨rfl, h9⟩
            replace K0 := K0.below h9 K0.lt
            replace K1 := K1.below h9 K1.lt
            replace K5 := K5.below h9 K5.lt
            replace K6 := K6.below h9 K6.lt
            replace K8 := K8.below h9 K8.lt
            replace K10 := K10.below h9 K10.lt
            replace G5 := G5.below h9
            replace G6 := G6.below h9
            replace G8 := G8.below h9
            replace G10 := G10.below h9
            replace GB := GB.trans (h9.mono GB.size)
            clear h9
            clear zK00 zK01
            go_upto_region 22 with fail
            have HX := Lib.hid (fun (u : World) (h : Below w11.heap.size w11 u) => And.intro (K0.below h K0.lt) (And.intro (K1.below h K1.lt) (And.intro (K6.below h K6.lt) (And.intro (K8.below h K8.lt) (K10.below h K10.lt)))))
            have HGs := Lib.hid (fun (u : World) (h : Below w11.heap.size w11 u) => And.intro (G6.below h) (And.intro (G8.below h) (G10.below h)))
            have HB := Lib.hid (fun (u : World) (h : Below w11.heap.size w11 u) => GB.trans (h.mono GB.size))
            clear K0 K1 K5 K6 K8 K10 G5 G6 G8 G10 GB
            have HW1 : Hid (∀ u, Below w11.heap.size w11 u → Calls Try.prog 20 #[.agg #[.slice A n c, .slice B m d], .agg #[.int .i64 x1, .int .i64 x2, .int .i64 x3, .int .i64 x4]] u (fun e w' => ∃ A n c B m d, e = .returned (.agg #[.slice A n c, .slice B m d]) ∧ GR w' A n c (madeD ds (x1, x2, x3, x4) 0 8) B m d (madeV us zeroV 0 16) ∧ Below u.heap.size u w')) := Lib.hid (fun u h => (rwithD_any A n c ds B m d us x1 x2 x3 x4 u (HG.out.below (HB.out u h))).mono fun _ _ h => h.gr (by have := madeD_len ds (x1, x2, x3, x4) 0 8; omega) (by have := madeV_len us zeroV 0 16; omega) (HUd.out 16))
            have HW3 : Hid (∀ u, Below w11.heap.size w11 u → Calls Try.prog 21 #[.agg #[.slice A n c, .slice B m d], .int .i64 x1] u (fun e w' => ∃ A n c B m d, e = .returned (.agg #[.slice A n c, .slice B m d]) ∧ GR w' A n c (madeD ds zeroD x1 8) B m d (madeV us zeroV 0 16) ∧ Below u.heap.size u w')) := Lib.hid (fun u h => (rwithoutD_any A n c ds B m d us x1 u (HG.out.below (HB.out u h))).mono fun _ _ h => h.gr (by have := madeD_len ds zeroD x1 8; omega) (by have := madeV_len us zeroV 0 16; omega) (HUd.out 16))
            have D := (Below.refl w11.heap.size w11).drew
            refine wp_region_held_drew (S := fun u => Below w11.heap.size w11 u) (by kernel_rfl) D (fun hS => ?_)
            generalize w11.drew = V at D hS ⊢
            refine wpAnyH_take (i := 0) (v := .agg #[.slice A6 n6 c6, .slice B6 m6 d6]) rfl (by kernel_rfl) (by kernel_rfl) (by kernel_rfl) (fun _ _ _ h => h) (Or.inl ⟨by kernel_rfl, fun u hSw => (by have q0 := (HX.out u hSw).2.2.1.cell 0; have q1 := (HX.out u hSw).2.2.1.cell 1; go_simp)⟩) hS ?_
            change wpAnyH _ _ _ _ _ _ _ (Act.put _ (some 69) _) _
            simp only [Act.put]
            refine wpAnyH_take (i := 1) (v := .int .i64 2) rfl (by kernel_rfl) (by kernel_rfl) (by kernel_rfl) (fun _ _ _ h => h) (Or.inl ⟨by kernel_rfl, fun u hSw => (by go_simp)⟩) hS ?_
            change wpAnyH _ _ _ _ _ _ _ (Act.put _ (some 70) _) _
            simp only [Act.put]
            refine wpAnyH_take (i := 2) (v := .agg #[.slice A n c, .slice B m d]) rfl (by kernel_rfl) (by kernel_rfl) (by kernel_rfl) (fun _ _ _ h => h) (Or.inl ⟨by kernel_rfl, fun u hSw => (by have q0 := (HX.out u hSw).1.cell 0; have q1 := (HX.out u hSw).1.cell 1; go_simp)⟩) hS ?_
            change wpAnyH _ _ _ _ _ _ _ (Act.put _ (some 71) _) _
            simp only [Act.put]
            refine wpAnyH_take (i := 3) (v := .agg #[.int .i64 x1, .int .i64 x2, .int .i64 x3, .int .i64 x4]) rfl (by kernel_rfl) (by kernel_rfl) (by kernel_rfl) (fun _ _ _ h => h) (Or.inl ⟨by kernel_rfl, fun u hSw => (by have q0 := (HX.out u hSw).2.1.cell 0; have q1 := (HX.out u hSw).2.1.cell 1; have q2 := (HX.out u hSw).2.1.cell 2; have q3 := (HX.out u hSw).2.1.cell 3; go_simp)⟩) hS ?_
            change wpAnyH _ _ _ _ _ _ _ (Act.put _ (some 72) _) _
            simp only [Act.put]
            refine wpAnyH_take (i := 5) (v := .int .i64 2) rfl (by kernel_rfl) (by kernel_rfl) (by kernel_rfl) (fun _ _ _ h => h) (Or.inl ⟨by kernel_rfl, fun u hSw => (by go_simp)⟩) hS ?_
            change wpAnyH _ _ _ _ _ _ _ (Act.put _ (some 74) _) _
            simp only [Act.put]
            refine wpAnyH_ready (rs := [4]) (by kernel_rfl) (by simp) ?_
            refine AllReadyH.cons rfl (fun K hK => ?_) AllReadyH.nil
            go_simp
            refine (HW1.out _ D).mono ?_
            rintro e1 w1 ⟨Aw1, nw1, cw1, Bw1, mw1, dw1, rfl, Gw1, h9⟩
            replace D := D.trans (h9.mono D.size)
            clear h9
            refine hK.out _ _ D (fun hS => ?_)
            clear hK K
            refine wpAnyH_ready (rs := [6]) (by kernel_rfl) (by simp) ?_
            refine AllReadyH.cons rfl (fun K hK => ?_) AllReadyH.nil
            go_simp
            refine (is_any _ _ _ _ _ _ _ _ _ _ _ _ _ _ _ _ _ _ ((HGs.out _ D).1) Gw1 HI1.out).mono ?_
            rintro e2 w2 ⟨rfl, h9⟩
            replace D := D.trans (h9.mono D.size)
            clear Gw1
            clear h9
            refine hK.out _ _ D (fun hS => ?_)
            clear hK K
            refine wpAnyH_take (i := 7) (v := .bool true) rfl (by kernel_rfl) (by kernel_rfl) (by kernel_rfl) (fun _ _ _ h => h) (Or.inl ⟨by kernel_rfl, fun u hSw => (by go_simp)⟩) hS ?_
            change wpAnyH _ _ _ _ _ _ _ (Act.put _ (some 76) _) _
            simp only [Act.put]
            refine wpAnyH_take (i := 8) (v := .agg #[.slice A8 n8 c8, .slice B8 m8 d8]) rfl (by kernel_rfl) (by kernel_rfl) (by kernel_rfl) (fun _ _ _ h => h) (Or.inl ⟨by kernel_rfl, fun u hSw => (by have q0 := (HX.out u hSw).2.2.2.1.cell 0; have q1 := (HX.out u hSw).2.2.2.1.cell 1; go_simp)⟩) hS ?_
            change wpAnyH _ _ _ _ _ _ _ (Act.put _ (some 77) _) _
            simp only [Act.put]
            refine wpAnyH_take (i := 9) (v := .int .i64 2) rfl (by kernel_rfl) (by kernel_rfl) (by kernel_rfl) (fun _ _ _ h => h) (Or.inl ⟨by kernel_rfl, fun u hSw => (by go_simp)⟩) hS ?_
            change wpAnyH _ _ _ _ _ _ _ (Act.put _ (some 78) _) _
            simp only [Act.put]
            refine wpAnyH_take (i := 10) (v := .agg #[.slice A n c, .slice B m d]) rfl (by kernel_rfl) (by kernel_rfl) (by kernel_rfl) (fun _ _ _ h => h) (Or.inl ⟨by kernel_rfl, fun u hSw => (by have q0 := (HX.out u hSw).1.cell 0; have q1 := (HX.out u hSw).1.cell 1; go_simp)⟩) hS ?_
            change wpAnyH _ _ _ _ _ _ _ (Act.put _ (some 79) _) _
            simp only [Act.put]
            refine wpAnyH_take (i := 11) (v := .agg #[.int .i64 x1, .int .i64 x2, .int .i64 x3, .int .i64 x4]) rfl (by kernel_rfl) (by kernel_rfl) (by kernel_rfl) (fun _ _ _ h => h) (Or.inl ⟨by kernel_rfl, fun u hSw => (by have q0 := (HX.out u hSw).2.1.cell 0; have q1 := (HX.out u hSw).2.1.cell 1; have q2 := (HX.out u hSw).2.1.cell 2; have q3 := (HX.out u hSw).2.1.cell 3; go_simp)⟩) hS ?_
            change wpAnyH _ _ _ _ _ _ _ (Act.put _ (some 80) _) _
            simp only [Act.put]
            refine wpAnyH_take (i := 13) (v := .int .i64 2) rfl (by kernel_rfl) (by kernel_rfl) (by kernel_rfl) (fun _ _ _ h => h) (Or.inl ⟨by kernel_rfl, fun u hSw => (by go_simp)⟩) hS ?_
            change wpAnyH _ _ _ _ _ _ _ (Act.put _ (some 82) _) _
            simp only [Act.put]
            refine wpAnyH_ready (rs := [12]) (by kernel_rfl) (by simp) ?_
            refine AllReadyH.cons rfl (fun K hK => ?_) AllReadyH.nil
            go_simp
            refine (HW1.out _ D).mono ?_
            rintro e3 w3 ⟨Aw2, nw2, cw2, Bw2, mw2, dw2, rfl, Gw2, h9⟩
            replace D := D.trans (h9.mono D.size)
            clear h9
            refine hK.out _ _ D (fun hS => ?_)
            clear hK K
            refine wpAnyH_ready (rs := [14]) (by kernel_rfl) (by simp) ?_
            refine AllReadyH.cons rfl (fun K hK => ?_) AllReadyH.nil
            go_simp
            refine (is_any _ _ _ _ _ _ _ _ _ _ _ _ _ _ _ _ _ _ ((HGs.out _ D).2.1) Gw2 HI2.out).mono ?_
            rintro e4 w4 ⟨rfl, h9⟩
            replace D := D.trans (h9.mono D.size)
            clear Gw2
            clear h9
            refine hK.out _ _ D (fun hS => ?_)
            clear hK K
            refine wpAnyH_take (i := 15) (v := .bool true) rfl (by kernel_rfl) (by kernel_rfl) (by kernel_rfl) (fun _ _ _ h => h) (Or.inl ⟨by kernel_rfl, fun u hSw => (by go_simp)⟩) hS ?_
            change wpAnyH _ _ _ _ _ _ _ (Act.put _ (some 84) _) _
            simp only [Act.put]
            refine wpAnyH_take (i := 16) (v := .bool true) rfl (by kernel_rfl) (by kernel_rfl) (by kernel_rfl) (fun _ _ _ h => h) (Or.inl ⟨by kernel_rfl, fun u hSw => (by go_simp)⟩) hS ?_
            change wpAnyH _ _ _ _ _ _ _ (Act.put _ (some 85) _) _
            simp only [Act.put]
            refine wpAnyH_take (i := 17) (v := .agg #[.slice A10 n10 c10, .slice B10 m10 d10]) rfl (by kernel_rfl) (by kernel_rfl) (by kernel_rfl) (fun _ _ _ h => h) (Or.inl ⟨by kernel_rfl, fun u hSw => (by have q0 := (HX.out u hSw).2.2.2.2.cell 0; have q1 := (HX.out u hSw).2.2.2.2.cell 1; go_simp)⟩) hS ?_
            change wpAnyH _ _ _ _ _ _ _ (Act.put _ (some 86) _) _
            simp only [Act.put]
            refine wpAnyH_take (i := 18) (v := .int .i64 8) rfl (by kernel_rfl) (by kernel_rfl) (by kernel_rfl) (fun _ _ _ h => h) (Or.inl ⟨by kernel_rfl, fun u hSw => (by go_simp)⟩) hS ?_
            change wpAnyH _ _ _ _ _ _ _ (Act.put _ (some 87) _) _
            simp only [Act.put]
            refine wpAnyH_take (i := 19) (v := .agg #[.slice A n c, .slice B m d]) rfl (by kernel_rfl) (by kernel_rfl) (by kernel_rfl) (fun _ _ _ h => h) (Or.inl ⟨by kernel_rfl, fun u hSw => (by have q0 := (HX.out u hSw).1.cell 0; have q1 := (HX.out u hSw).1.cell 1; go_simp)⟩) hS ?_
            change wpAnyH _ _ _ _ _ _ _ (Act.put _ (some 88) _) _
            simp only [Act.put]
            refine wpAnyH_take (i := 20) (v := .pointer (some ⟨w.heap.size + 1, 0, none⟩)) rfl (by kernel_rfl) (by kernel_rfl) (by kernel_rfl) (fun _ _ _ h => h) (Or.inl ⟨by kernel_rfl, fun u hSw => (by go_simp)⟩) hS ?_
            change wpAnyH _ _ _ _ _ _ _ (Act.put _ (some 89) _) _
            simp only [Act.put]
            refine wpAnyH_take (i := 21) (v := .int .i64 x1) rfl (by kernel_rfl) (by kernel_rfl) (by kernel_rfl) (fun _ _ _ h => h) (Or.inl ⟨by kernel_rfl, fun u hSw => (by have q0 := (HX.out u hSw).2.1.cell 0; go_simp)⟩) hS ?_
            change wpAnyH _ _ _ _ _ _ _ (Act.put _ (some 90) _) _
            simp only [Act.put]
            refine wpAnyH_take (i := 23) (v := .int .i64 8) rfl (by kernel_rfl) (by kernel_rfl) (by kernel_rfl) (fun _ _ _ h => h) (Or.inl ⟨by kernel_rfl, fun u hSw => (by go_simp)⟩) hS ?_
            change wpAnyH _ _ _ _ _ _ _ (Act.put _ (some 92) _) _
            simp only [Act.put]
            refine wpAnyH_ready (rs := [22]) (by kernel_rfl) (by simp) ?_
            refine AllReadyH.cons rfl (fun K hK => ?_) AllReadyH.nil
            go_simp
            refine (HW3.out _ D).mono ?_
            rintro e5 w5 ⟨Aw3, nw3, cw3, Bw3, mw3, dw3, rfl, Gw3, h9⟩
            replace D := D.trans (h9.mono D.size)
            clear h9
            refine hK.out _ _ D (fun hS => ?_)
            clear hK K
            refine wpAnyH_ready (rs := [24]) (by kernel_rfl) (by simp) ?_
            refine AllReadyH.cons rfl (fun K hK => ?_) AllReadyH.nil
            go_simp
            refine (is_any _ _ _ _ _ _ _ _ _ _ _ _ _ _ _ _ _ _ ((HGs.out _ D).2.2) Gw3 HI3.out).mono ?_
            rintro e6 w6 ⟨rfl, h9⟩
            replace D := D.trans (h9.mono D.size)
            clear Gw3
            clear h9
            refine hK.out _ _ D (fun hS => ?_)
            clear hK K
            refine wpAnyH_take (i := 25) (v := .bool true) rfl (by kernel_rfl) (by kernel_rfl) (by kernel_rfl) (fun _ _ _ h => h) (Or.inl ⟨by kernel_rfl, fun u hSw => (by go_simp)⟩) hS ?_
            change wpAnyH _ _ _ _ _ _ _ (Act.put _ (some 94) _) _
            simp only [Act.put]
            refine wpAnyH_take (i := 26) (v := .bool true) rfl (by kernel_rfl) (by kernel_rfl) (by kernel_rfl) (fun _ _ _ h => h) (Or.inl ⟨by kernel_rfl, fun u hSw => (by go_simp)⟩) hS ?_
            change wpAnyH _ _ _ _ _ _ _ (Act.put _ (some 4) _) _
            simp only [Act.put]
            refine wpAnyH_done (by kernel_rfl) ?_ _
            clear hS
            have HF := Lib.hid (HB.out _ D)
            clear D
            go_wp2
            go_ret
            exact ⟨rfl, HF.out⟩
          · have b1 : decide ((0 : Int) < (Q : Int)) = false := decide_eq_false (by omega)
            have b2 : decide (0 < Q) = false := decide_eq_false (by omega)
            clear hk hQ
            have he : E1 = 2 ∧ E2 = 2 ∧ E3 = 0 := by
              have q := HR.out
              unfold createQ changeQ destroyQ at q
              simp [hr, hrd, hth, hbz] at q
              exact ⟨q.1.2.2.symm, q.2.1.2.2.symm, q.2.2.2.2.symm⟩
            obtain ⟨rfl, rfl, rfl⟩ := he
            clear hr hrd hth hbz
            go_wp2_with fail
            refine (HDm.out _ GB).mono ?_
            rintro e w8 ⟨rfl, h9⟩
            replace K0 := K0.below h9 K0.lt
            replace K1 := K1.below h9 K1.lt
            replace K5 := K5.below h9 K5.lt
            replace K6 := K6.below h9 K6.lt
            replace K8 := K8.below h9 K8.lt
            replace K10 := K10.below h9 K10.lt
            replace G5 := G5.below h9
            replace G6 := G6.below h9
            replace G8 := G8.below h9
            replace G10 := G10.below h9
            replace GB := GB.trans (h9.mono GB.size)
            clear h9
            clear zK00 zK01 zK10
            have K15 := Blk.new w8 27 #[.int .i64 y1, .int .i64 y2, .int .i64 y3, .int .i64 y4]
            replace K0 := K0.alloc (.cells #[.int .i64 y1, .int .i64 y2, .int .i64 y3, .int .i64 y4] 27)
            replace K1 := K1.alloc (.cells #[.int .i64 y1, .int .i64 y2, .int .i64 y3, .int .i64 y4] 27)
            replace K5 := K5.alloc (.cells #[.int .i64 y1, .int .i64 y2, .int .i64 y3, .int .i64 y4] 27)
            replace K6 := K6.alloc (.cells #[.int .i64 y1, .int .i64 y2, .int .i64 y3, .int .i64 y4] 27)
            replace K8 := K8.alloc (.cells #[.int .i64 y1, .int .i64 y2, .int .i64 y3, .int .i64 y4] 27)
            replace K10 := K10.alloc (.cells #[.int .i64 y1, .int .i64 y2, .int .i64 y3, .int .i64 y4] 27)
            replace G5 := G5.below ((Below.refl _ _).alloc (Nat.le_refl _) (.cells #[.int .i64 y1, .int .i64 y2, .int .i64 y3, .int .i64 y4] 27))
            replace G6 := G6.below ((Below.refl _ _).alloc (Nat.le_refl _) (.cells #[.int .i64 y1, .int .i64 y2, .int .i64 y3, .int .i64 y4] 27))
            replace G8 := G8.below ((Below.refl _ _).alloc (Nat.le_refl _) (.cells #[.int .i64 y1, .int .i64 y2, .int .i64 y3, .int .i64 y4] 27))
            replace G10 := G10.below ((Below.refl _ _).alloc (Nat.le_refl _) (.cells #[.int .i64 y1, .int .i64 y2, .int .i64 y3, .int .i64 y4] 27))
            replace GB := GB.alloc GB.size (.cells #[.int .i64 y1, .int .i64 y2, .int .i64 y3, .int .i64 y4] 27)
            clear K15
            have zK10 := K1.cell 0
            have zK11 := K1.cell 1
            have zK12 := K1.cell 2
            have zK13 := K1.cell 3
            go_wp2_with fail
            refine (HRd.out _).mono ?_
            rintro e w9 ⟨rfl, h9⟩
            replace K0 := K0.below h9 K0.lt
            replace K1 := K1.below h9 K1.lt
            replace K5 := K5.below h9 K5.lt
            replace K6 := K6.below h9 K6.lt
            replace K8 := K8.below h9 K8.lt
            replace K10 := K10.below h9 K10.lt
            replace G5 := G5.below h9
            replace G6 := G6.below h9
            replace G8 := G8.below h9
            replace G10 := G10.below h9
            replace GB := GB.trans (h9.mono GB.size)
            clear h9
            clear zK10 zK11 zK12 zK13
            have zK00 := K0.cell 0
            have zK01 := K0.cell 1
            have zK10 := K1.cell 0
            go_wp2_with fail
            refine (HOf.out _ GB).mono ?_
            rintro e w10 ⟨Af, cf, rfl, q1, q2, h9⟩
            rw [HQ.out]
            replace K0 := K0.below h9 K0.lt
            replace K1 := K1.below h9 K1.lt
            replace K5 := K5.below h9 K5.lt
            replace K6 := K6.below h9 K6.lt
            replace K8 := K8.below h9 K8.lt
            replace K10 := K10.below h9 K10.lt
            replace G5 := G5.below h9
            replace G6 := G6.below h9
            replace G8 := G8.below h9
            replace G10 := G10.below h9
            replace GB := GB.trans (h9.mono GB.size)
            clear h9 q1 q2
            clear zK00 zK01 zK10
            have zK00 := K0.cell 0
            have zK01 := K0.cell 1
            go_wp2_with fail
            refine (HRg.out _ GB).mono ?_
            rintro e w11 ⟨rfl, h9⟩
            replace K0 := K0.below h9 K0.lt
            replace K1 := K1.below h9 K1.lt
            replace K5 := K5.below h9 K5.lt
            replace K6 := K6.below h9 K6.lt
            replace K8 := K8.below h9 K8.lt
            replace K10 := K10.below h9 K10.lt
            replace G5 := G5.below h9
            replace G6 := G6.below h9
            replace G8 := G8.below h9
            replace G10 := G10.below h9
            replace GB := GB.trans (h9.mono GB.size)
            clear h9
            clear zK00 zK01
            go_upto_region 22 with fail
            have HX := Lib.hid (fun (u : World) (h : Below w11.heap.size w11 u) => And.intro (K0.below h K0.lt) (And.intro (K1.below h K1.lt) (And.intro (K6.below h K6.lt) (And.intro (K8.below h K8.lt) (K10.below h K10.lt)))))
            have HGs := Lib.hid (fun (u : World) (h : Below w11.heap.size w11 u) => And.intro (G6.below h) (And.intro (G8.below h) (G10.below h)))
            have HB := Lib.hid (fun (u : World) (h : Below w11.heap.size w11 u) => GB.trans (h.mono GB.size))
            clear K0 K1 K5 K6 K8 K10 G5 G6 G8 G10 GB
            have HW1 : Hid (∀ u, Below w11.heap.size w11 u → Calls Try.prog 20 #[.agg #[.slice A n c, .slice B m d], .agg #[.int .i64 x1, .int .i64 x2, .int .i64 x3, .int .i64 x4]] u (fun e w' => ∃ A n c B m d, e = .returned (.agg #[.slice A n c, .slice B m d]) ∧ GR w' A n c (madeD ds (x1, x2, x3, x4) 0 8) B m d (madeV us zeroV 0 16) ∧ Below u.heap.size u w')) := Lib.hid (fun u h => (rwithD_any A n c ds B m d us x1 x2 x3 x4 u (HG.out.below (HB.out u h))).mono fun _ _ h => h.gr (by have := madeD_len ds (x1, x2, x3, x4) 0 8; omega) (by have := madeV_len us zeroV 0 16; omega) (HUd.out 16))
            have HW3 : Hid (∀ u, Below w11.heap.size w11 u → Calls Try.prog 21 #[.agg #[.slice A n c, .slice B m d], .int .i64 x1] u (fun e w' => ∃ A n c B m d, e = .returned (.agg #[.slice A n c, .slice B m d]) ∧ GR w' A n c (madeD ds zeroD x1 8) B m d (madeV us zeroV 0 16) ∧ Below u.heap.size u w')) := Lib.hid (fun u h => (rwithoutD_any A n c ds B m d us x1 u (HG.out.below (HB.out u h))).mono fun _ _ h => h.gr (by have := madeD_len ds zeroD x1 8; omega) (by have := madeV_len us zeroV 0 16; omega) (HUd.out 16))
            have D := (Below.refl w11.heap.size w11).drew
            refine wp_region_held_drew (S := fun u => Below w11.heap.size w11 u) (by kernel_rfl) D (fun hS => ?_)
            generalize w11.drew = V at D hS ⊢
            refine wpAnyH_take (i := 0) (v := .agg #[.slice A6 n6 c6, .slice B6 m6 d6]) rfl (by kernel_rfl) (by kernel_rfl) (by kernel_rfl) (fun _ _ _ h => h) (Or.inl ⟨by kernel_rfl, fun u hSw => (by have q0 := (HX.out u hSw).2.2.1.cell 0; have q1 := (HX.out u hSw).2.2.1.cell 1; go_simp)⟩) hS ?_
            change wpAnyH _ _ _ _ _ _ _ (Act.put _ (some 69) _) _
            simp only [Act.put]
            refine wpAnyH_take (i := 1) (v := .int .i64 2) rfl (by kernel_rfl) (by kernel_rfl) (by kernel_rfl) (fun _ _ _ h => h) (Or.inl ⟨by kernel_rfl, fun u hSw => (by go_simp)⟩) hS ?_
            change wpAnyH _ _ _ _ _ _ _ (Act.put _ (some 70) _) _
            simp only [Act.put]
            refine wpAnyH_take (i := 2) (v := .agg #[.slice A n c, .slice B m d]) rfl (by kernel_rfl) (by kernel_rfl) (by kernel_rfl) (fun _ _ _ h => h) (Or.inl ⟨by kernel_rfl, fun u hSw => (by have q0 := (HX.out u hSw).1.cell 0; have q1 := (HX.out u hSw).1.cell 1; go_simp)⟩) hS ?_
            change wpAnyH _ _ _ _ _ _ _ (Act.put _ (some 71) _) _
            simp only [Act.put]
            refine wpAnyH_take (i := 3) (v := .agg #[.int .i64 x1, .int .i64 x2, .int .i64 x3, .int .i64 x4]) rfl (by kernel_rfl) (by kernel_rfl) (by kernel_rfl) (fun _ _ _ h => h) (Or.inl ⟨by kernel_rfl, fun u hSw => (by have q0 := (HX.out u hSw).2.1.cell 0; have q1 := (HX.out u hSw).2.1.cell 1; have q2 := (HX.out u hSw).2.1.cell 2; have q3 := (HX.out u hSw).2.1.cell 3; go_simp)⟩) hS ?_
            change wpAnyH _ _ _ _ _ _ _ (Act.put _ (some 72) _) _
            simp only [Act.put]
            refine wpAnyH_take (i := 5) (v := .int .i64 2) rfl (by kernel_rfl) (by kernel_rfl) (by kernel_rfl) (fun _ _ _ h => h) (Or.inl ⟨by kernel_rfl, fun u hSw => (by go_simp)⟩) hS ?_
            change wpAnyH _ _ _ _ _ _ _ (Act.put _ (some 74) _) _
            simp only [Act.put]
            refine wpAnyH_ready (rs := [4]) (by kernel_rfl) (by simp) ?_
            refine AllReadyH.cons rfl (fun K hK => ?_) AllReadyH.nil
            go_simp
            refine (HW1.out _ D).mono ?_
            rintro e1 w1 ⟨Aw1, nw1, cw1, Bw1, mw1, dw1, rfl, Gw1, h9⟩
            replace D := D.trans (h9.mono D.size)
            clear h9
            refine hK.out _ _ D (fun hS => ?_)
            clear hK K
            refine wpAnyH_ready (rs := [6]) (by kernel_rfl) (by simp) ?_
            refine AllReadyH.cons rfl (fun K hK => ?_) AllReadyH.nil
            go_simp
            refine (is_any _ _ _ _ _ _ _ _ _ _ _ _ _ _ _ _ _ _ ((HGs.out _ D).1) Gw1 HI1.out).mono ?_
            rintro e2 w2 ⟨rfl, h9⟩
            replace D := D.trans (h9.mono D.size)
            clear Gw1
            clear h9
            refine hK.out _ _ D (fun hS => ?_)
            clear hK K
            refine wpAnyH_take (i := 7) (v := .bool true) rfl (by kernel_rfl) (by kernel_rfl) (by kernel_rfl) (fun _ _ _ h => h) (Or.inl ⟨by kernel_rfl, fun u hSw => (by go_simp)⟩) hS ?_
            change wpAnyH _ _ _ _ _ _ _ (Act.put _ (some 76) _) _
            simp only [Act.put]
            refine wpAnyH_take (i := 8) (v := .agg #[.slice A8 n8 c8, .slice B8 m8 d8]) rfl (by kernel_rfl) (by kernel_rfl) (by kernel_rfl) (fun _ _ _ h => h) (Or.inl ⟨by kernel_rfl, fun u hSw => (by have q0 := (HX.out u hSw).2.2.2.1.cell 0; have q1 := (HX.out u hSw).2.2.2.1.cell 1; go_simp)⟩) hS ?_
            change wpAnyH _ _ _ _ _ _ _ (Act.put _ (some 77) _) _
            simp only [Act.put]
            refine wpAnyH_take (i := 9) (v := .int .i64 2) rfl (by kernel_rfl) (by kernel_rfl) (by kernel_rfl) (fun _ _ _ h => h) (Or.inl ⟨by kernel_rfl, fun u hSw => (by go_simp)⟩) hS ?_
            change wpAnyH _ _ _ _ _ _ _ (Act.put _ (some 78) _) _
            simp only [Act.put]
            refine wpAnyH_take (i := 10) (v := .agg #[.slice A n c, .slice B m d]) rfl (by kernel_rfl) (by kernel_rfl) (by kernel_rfl) (fun _ _ _ h => h) (Or.inl ⟨by kernel_rfl, fun u hSw => (by have q0 := (HX.out u hSw).1.cell 0; have q1 := (HX.out u hSw).1.cell 1; go_simp)⟩) hS ?_
            change wpAnyH _ _ _ _ _ _ _ (Act.put _ (some 79) _) _
            simp only [Act.put]
            refine wpAnyH_take (i := 11) (v := .agg #[.int .i64 x1, .int .i64 x2, .int .i64 x3, .int .i64 x4]) rfl (by kernel_rfl) (by kernel_rfl) (by kernel_rfl) (fun _ _ _ h => h) (Or.inl ⟨by kernel_rfl, fun u hSw => (by have q0 := (HX.out u hSw).2.1.cell 0; have q1 := (HX.out u hSw).2.1.cell 1; have q2 := (HX.out u hSw).2.1.cell 2; have q3 := (HX.out u hSw).2.1.cell 3; go_simp)⟩) hS ?_
            change wpAnyH _ _ _ _ _ _ _ (Act.put _ (some 80) _) _
            simp only [Act.put]
            refine wpAnyH_take (i := 13) (v := .int .i64 2) rfl (by kernel_rfl) (by kernel_rfl) (by kernel_rfl) (fun _ _ _ h => h) (Or.inl ⟨by kernel_rfl, fun u hSw => (by go_simp)⟩) hS ?_
            change wpAnyH _ _ _ _ _ _ _ (Act.put _ (some 82) _) _
            simp only [Act.put]
            refine wpAnyH_ready (rs := [12]) (by kernel_rfl) (by simp) ?_
            refine AllReadyH.cons rfl (fun K hK => ?_) AllReadyH.nil
            go_simp
            refine (HW1.out _ D).mono ?_
            rintro e3 w3 ⟨Aw2, nw2, cw2, Bw2, mw2, dw2, rfl, Gw2, h9⟩
            replace D := D.trans (h9.mono D.size)
            clear h9
            refine hK.out _ _ D (fun hS => ?_)
            clear hK K
            refine wpAnyH_ready (rs := [14]) (by kernel_rfl) (by simp) ?_
            refine AllReadyH.cons rfl (fun K hK => ?_) AllReadyH.nil
            go_simp
            refine (is_any _ _ _ _ _ _ _ _ _ _ _ _ _ _ _ _ _ _ ((HGs.out _ D).2.1) Gw2 HI2.out).mono ?_
            rintro e4 w4 ⟨rfl, h9⟩
            replace D := D.trans (h9.mono D.size)
            clear Gw2
            clear h9
            refine hK.out _ _ D (fun hS => ?_)
            clear hK K
            refine wpAnyH_take (i := 15) (v := .bool true) rfl (by kernel_rfl) (by kernel_rfl) (by kernel_rfl) (fun _ _ _ h => h) (Or.inl ⟨by kernel_rfl, fun u hSw => (by go_simp)⟩) hS ?_
            change wpAnyH _ _ _ _ _ _ _ (Act.put _ (some 84) _) _
            simp only [Act.put]
            refine wpAnyH_take (i := 16) (v := .bool true) rfl (by kernel_rfl) (by kernel_rfl) (by kernel_rfl) (fun _ _ _ h => h) (Or.inl ⟨by kernel_rfl, fun u hSw => (by go_simp)⟩) hS ?_
            change wpAnyH _ _ _ _ _ _ _ (Act.put _ (some 85) _) _
            simp only [Act.put]
            refine wpAnyH_take (i := 17) (v := .agg #[.slice A10 n10 c10, .slice B10 m10 d10]) rfl (by kernel_rfl) (by kernel_rfl) (by kernel_rfl) (fun _ _ _ h => h) (Or.inl ⟨by kernel_rfl, fun u hSw => (by have q0 := (HX.out u hSw).2.2.2.2.cell 0; have q1 := (HX.out u hSw).2.2.2.2.cell 1; go_simp)⟩) hS ?_
            change wpAnyH _ _ _ _ _ _ _ (Act.put _ (some 86) _) _
            simp only [Act.put]
            refine wpAnyH_take (i := 18) (v := .int .i64 0) rfl (by kernel_rfl) (by kernel_rfl) (by kernel_rfl) (fun _ _ _ h => h) (Or.inl ⟨by kernel_rfl, fun u hSw => (by go_simp)⟩) hS ?_
            change wpAnyH _ _ _ _ _ _ _ (Act.put _ (some 87) _) _
            simp only [Act.put]
            refine wpAnyH_take (i := 19) (v := .agg #[.slice A n c, .slice B m d]) rfl (by kernel_rfl) (by kernel_rfl) (by kernel_rfl) (fun _ _ _ h => h) (Or.inl ⟨by kernel_rfl, fun u hSw => (by have q0 := (HX.out u hSw).1.cell 0; have q1 := (HX.out u hSw).1.cell 1; go_simp)⟩) hS ?_
            change wpAnyH _ _ _ _ _ _ _ (Act.put _ (some 88) _) _
            simp only [Act.put]
            refine wpAnyH_take (i := 20) (v := .pointer (some ⟨w.heap.size + 1, 0, none⟩)) rfl (by kernel_rfl) (by kernel_rfl) (by kernel_rfl) (fun _ _ _ h => h) (Or.inl ⟨by kernel_rfl, fun u hSw => (by go_simp)⟩) hS ?_
            change wpAnyH _ _ _ _ _ _ _ (Act.put _ (some 89) _) _
            simp only [Act.put]
            refine wpAnyH_take (i := 21) (v := .int .i64 x1) rfl (by kernel_rfl) (by kernel_rfl) (by kernel_rfl) (fun _ _ _ h => h) (Or.inl ⟨by kernel_rfl, fun u hSw => (by have q0 := (HX.out u hSw).2.1.cell 0; go_simp)⟩) hS ?_
            change wpAnyH _ _ _ _ _ _ _ (Act.put _ (some 90) _) _
            simp only [Act.put]
            refine wpAnyH_take (i := 23) (v := .int .i64 0) rfl (by kernel_rfl) (by kernel_rfl) (by kernel_rfl) (fun _ _ _ h => h) (Or.inl ⟨by kernel_rfl, fun u hSw => (by go_simp)⟩) hS ?_
            change wpAnyH _ _ _ _ _ _ _ (Act.put _ (some 92) _) _
            simp only [Act.put]
            refine wpAnyH_ready (rs := [22]) (by kernel_rfl) (by simp) ?_
            refine AllReadyH.cons rfl (fun K hK => ?_) AllReadyH.nil
            go_simp
            refine (HW3.out _ D).mono ?_
            rintro e5 w5 ⟨Aw3, nw3, cw3, Bw3, mw3, dw3, rfl, Gw3, h9⟩
            replace D := D.trans (h9.mono D.size)
            clear h9
            refine hK.out _ _ D (fun hS => ?_)
            clear hK K
            refine wpAnyH_ready (rs := [24]) (by kernel_rfl) (by simp) ?_
            refine AllReadyH.cons rfl (fun K hK => ?_) AllReadyH.nil
            go_simp
            refine (is_any _ _ _ _ _ _ _ _ _ _ _ _ _ _ _ _ _ _ ((HGs.out _ D).2.2) Gw3 HI3.out).mono ?_
            rintro e6 w6 ⟨rfl, h9⟩
            replace D := D.trans (h9.mono D.size)
            clear Gw3
            clear h9
            refine hK.out _ _ D (fun hS => ?_)
            clear hK K
            refine wpAnyH_take (i := 25) (v := .bool true) rfl (by kernel_rfl) (by kernel_rfl) (by kernel_rfl) (fun _ _ _ h => h) (Or.inl ⟨by kernel_rfl, fun u hSw => (by go_simp)⟩) hS ?_
            change wpAnyH _ _ _ _ _ _ _ (Act.put _ (some 94) _) _
            simp only [Act.put]
            refine wpAnyH_take (i := 26) (v := .bool true) rfl (by kernel_rfl) (by kernel_rfl) (by kernel_rfl) (fun _ _ _ h => h) (Or.inl ⟨by kernel_rfl, fun u hSw => (by go_simp)⟩) hS ?_
            change wpAnyH _ _ _ _ _ _ _ (Act.put _ (some 4) _) _
            simp only [Act.put]
            refine wpAnyH_done (by kernel_rfl) ?_ _
            clear hS
            have HF := Lib.hid (HB.out _ D)
            clear D
            go_wp2
            go_ret
            exact ⟨rfl, HF.out⟩
    | false =>
      rw [hr] at HRg
      cases hrd : rightD (x1, x2, x3, x4) with
      | true =>
        rw [hrd] at HRd
        rcases Option.eq_none_or_eq_some (kf ds x1) with hk | ⟨⟨y1, y2, y3, y4⟩, hk⟩
        · have hth : (kf ds x1).isSome = false := by rw [hk]; rfl
          rw [show domV ds x1 = (zeroD, false) from domV_none hk] at HDm
          obtain ⟨y1, y2, y3, y4, hy⟩ : ∃ y1 y2 y3 y4 : Int, (zeroD : Dom) = (y1, y2, y3, y4) := ⟨0, 0, 0, 0, rfl⟩
          rw [hy] at HDm
          clear hk hQ HOf hy
          have he : E1 = 190 ∧ E2 = 190 ∧ E3 = 190 := by
            have q := HR.out
            unfold createQ changeQ destroyQ at q
            simp [hr] at q
            exact ⟨q.1.2.2.symm, q.2.1.2.2.symm, q.2.2.2.2.symm⟩
          obtain ⟨rfl, rfl, rfl⟩ := he
          clear hr hrd hth
          go_wp2_with fail
          refine (HDm.out _ GB).mono ?_
          rintro e w8 ⟨rfl, h9⟩
          replace K0 := K0.below h9 K0.lt
          replace K1 := K1.below h9 K1.lt
          replace K5 := K5.below h9 K5.lt
          replace K6 := K6.below h9 K6.lt
          replace K8 := K8.below h9 K8.lt
          replace K10 := K10.below h9 K10.lt
          replace G5 := G5.below h9
          replace G6 := G6.below h9
          replace G8 := G8.below h9
          replace G10 := G10.below h9
          replace GB := GB.trans (h9.mono GB.size)
          clear h9
          clear zK00 zK01 zK10
          have K15 := Blk.new w8 27 #[.int .i64 y1, .int .i64 y2, .int .i64 y3, .int .i64 y4]
          replace K0 := K0.alloc (.cells #[.int .i64 y1, .int .i64 y2, .int .i64 y3, .int .i64 y4] 27)
          replace K1 := K1.alloc (.cells #[.int .i64 y1, .int .i64 y2, .int .i64 y3, .int .i64 y4] 27)
          replace K5 := K5.alloc (.cells #[.int .i64 y1, .int .i64 y2, .int .i64 y3, .int .i64 y4] 27)
          replace K6 := K6.alloc (.cells #[.int .i64 y1, .int .i64 y2, .int .i64 y3, .int .i64 y4] 27)
          replace K8 := K8.alloc (.cells #[.int .i64 y1, .int .i64 y2, .int .i64 y3, .int .i64 y4] 27)
          replace K10 := K10.alloc (.cells #[.int .i64 y1, .int .i64 y2, .int .i64 y3, .int .i64 y4] 27)
          replace G5 := G5.below ((Below.refl _ _).alloc (Nat.le_refl _) (.cells #[.int .i64 y1, .int .i64 y2, .int .i64 y3, .int .i64 y4] 27))
          replace G6 := G6.below ((Below.refl _ _).alloc (Nat.le_refl _) (.cells #[.int .i64 y1, .int .i64 y2, .int .i64 y3, .int .i64 y4] 27))
          replace G8 := G8.below ((Below.refl _ _).alloc (Nat.le_refl _) (.cells #[.int .i64 y1, .int .i64 y2, .int .i64 y3, .int .i64 y4] 27))
          replace G10 := G10.below ((Below.refl _ _).alloc (Nat.le_refl _) (.cells #[.int .i64 y1, .int .i64 y2, .int .i64 y3, .int .i64 y4] 27))
          replace GB := GB.alloc GB.size (.cells #[.int .i64 y1, .int .i64 y2, .int .i64 y3, .int .i64 y4] 27)
          clear K15
          have zK10 := K1.cell 0
          have zK11 := K1.cell 1
          have zK12 := K1.cell 2
          have zK13 := K1.cell 3
          go_wp2_with fail
          refine (HRd.out _).mono ?_
          rintro e w9 ⟨rfl, h9⟩
          replace K0 := K0.below h9 K0.lt
          replace K1 := K1.below h9 K1.lt
          replace K5 := K5.below h9 K5.lt
          replace K6 := K6.below h9 K6.lt
          replace K8 := K8.below h9 K8.lt
          replace K10 := K10.below h9 K10.lt
          replace G5 := G5.below h9
          replace G6 := G6.below h9
          replace G8 := G8.below h9
          replace G10 := G10.below h9
          replace GB := GB.trans (h9.mono GB.size)
          clear h9
          clear zK10 zK11 zK12 zK13
          have zK00 := K0.cell 0
          have zK01 := K0.cell 1
          go_wp2_with fail
          refine (HRg.out _ GB).mono ?_
          rintro e w10 ⟨rfl, h9⟩
          replace K0 := K0.below h9 K0.lt
          replace K1 := K1.below h9 K1.lt
          replace K5 := K5.below h9 K5.lt
          replace K6 := K6.below h9 K6.lt
          replace K8 := K8.below h9 K8.lt
          replace K10 := K10.below h9 K10.lt
          replace G5 := G5.below h9
          replace G6 := G6.below h9
          replace G8 := G8.below h9
          replace G10 := G10.below h9
          replace GB := GB.trans (h9.mono GB.size)
          clear h9
          clear zK00 zK01
          go_upto_region 22 with fail
          have HX := Lib.hid (fun (u : World) (h : Below w10.heap.size w10 u) => And.intro (K0.below h K0.lt) (And.intro (K1.below h K1.lt) (And.intro (K6.below h K6.lt) (And.intro (K8.below h K8.lt) (K10.below h K10.lt)))))
          have HGs := Lib.hid (fun (u : World) (h : Below w10.heap.size w10 u) => And.intro (G6.below h) (And.intro (G8.below h) (G10.below h)))
          have HB := Lib.hid (fun (u : World) (h : Below w10.heap.size w10 u) => GB.trans (h.mono GB.size))
          clear K0 K1 K5 K6 K8 K10 G5 G6 G8 G10 GB
          have HW1 : Hid (∀ u, Below w10.heap.size w10 u → Calls Try.prog 20 #[.agg #[.slice A n c, .slice B m d], .agg #[.int .i64 x1, .int .i64 x2, .int .i64 x3, .int .i64 x4]] u (fun e w' => ∃ A n c B m d, e = .returned (.agg #[.slice A n c, .slice B m d]) ∧ GR w' A n c (madeD ds (x1, x2, x3, x4) 0 8) B m d (madeV us zeroV 0 16) ∧ Below u.heap.size u w')) := Lib.hid (fun u h => (rwithD_any A n c ds B m d us x1 x2 x3 x4 u (HG.out.below (HB.out u h))).mono fun _ _ h => h.gr (by have := madeD_len ds (x1, x2, x3, x4) 0 8; omega) (by have := madeV_len us zeroV 0 16; omega) (HUd.out 16))
          have HW3 : Hid (∀ u, Below w10.heap.size w10 u → Calls Try.prog 21 #[.agg #[.slice A n c, .slice B m d], .int .i64 x1] u (fun e w' => ∃ A n c B m d, e = .returned (.agg #[.slice A n c, .slice B m d]) ∧ GR w' A n c (madeD ds zeroD x1 8) B m d (madeV us zeroV 0 16) ∧ Below u.heap.size u w')) := Lib.hid (fun u h => (rwithoutD_any A n c ds B m d us x1 u (HG.out.below (HB.out u h))).mono fun _ _ h => h.gr (by have := madeD_len ds zeroD x1 8; omega) (by have := madeV_len us zeroV 0 16; omega) (HUd.out 16))
          have D := (Below.refl w10.heap.size w10).drew
          refine wp_region_held_drew (S := fun u => Below w10.heap.size w10 u) (by kernel_rfl) D (fun hS => ?_)
          generalize w10.drew = V at D hS ⊢
          refine wpAnyH_take (i := 0) (v := .agg #[.slice A6 n6 c6, .slice B6 m6 d6]) rfl (by kernel_rfl) (by kernel_rfl) (by kernel_rfl) (fun _ _ _ h => h) (Or.inl ⟨by kernel_rfl, fun u hSw => (by have q0 := (HX.out u hSw).2.2.1.cell 0; have q1 := (HX.out u hSw).2.2.1.cell 1; go_simp)⟩) hS ?_
          change wpAnyH _ _ _ _ _ _ _ (Act.put _ (some 69) _) _
          simp only [Act.put]
          refine wpAnyH_take (i := 1) (v := .int .i64 190) rfl (by kernel_rfl) (by kernel_rfl) (by kernel_rfl) (fun _ _ _ h => h) (Or.inl ⟨by kernel_rfl, fun u hSw => (by go_simp)⟩) hS ?_
          change wpAnyH _ _ _ _ _ _ _ (Act.put _ (some 70) _) _
          simp only [Act.put]
          refine wpAnyH_take (i := 2) (v := .agg #[.slice A n c, .slice B m d]) rfl (by kernel_rfl) (by kernel_rfl) (by kernel_rfl) (fun _ _ _ h => h) (Or.inl ⟨by kernel_rfl, fun u hSw => (by have q0 := (HX.out u hSw).1.cell 0; have q1 := (HX.out u hSw).1.cell 1; go_simp)⟩) hS ?_
          change wpAnyH _ _ _ _ _ _ _ (Act.put _ (some 71) _) _
          simp only [Act.put]
          refine wpAnyH_take (i := 3) (v := .agg #[.int .i64 x1, .int .i64 x2, .int .i64 x3, .int .i64 x4]) rfl (by kernel_rfl) (by kernel_rfl) (by kernel_rfl) (fun _ _ _ h => h) (Or.inl ⟨by kernel_rfl, fun u hSw => (by have q0 := (HX.out u hSw).2.1.cell 0; have q1 := (HX.out u hSw).2.1.cell 1; have q2 := (HX.out u hSw).2.1.cell 2; have q3 := (HX.out u hSw).2.1.cell 3; go_simp)⟩) hS ?_
          change wpAnyH _ _ _ _ _ _ _ (Act.put _ (some 72) _) _
          simp only [Act.put]
          refine wpAnyH_take (i := 5) (v := .int .i64 190) rfl (by kernel_rfl) (by kernel_rfl) (by kernel_rfl) (fun _ _ _ h => h) (Or.inl ⟨by kernel_rfl, fun u hSw => (by go_simp)⟩) hS ?_
          change wpAnyH _ _ _ _ _ _ _ (Act.put _ (some 74) _) _
          simp only [Act.put]
          refine wpAnyH_ready (rs := [4]) (by kernel_rfl) (by simp) ?_
          refine AllReadyH.cons rfl (fun K hK => ?_) AllReadyH.nil
          go_simp
          refine (HW1.out _ D).mono ?_
          rintro e1 w1 ⟨Aw1, nw1, cw1, Bw1, mw1, dw1, rfl, Gw1, h9⟩
          replace D := D.trans (h9.mono D.size)
          clear h9
          refine hK.out _ _ D (fun hS => ?_)
          clear hK K
          refine wpAnyH_ready (rs := [6]) (by kernel_rfl) (by simp) ?_
          refine AllReadyH.cons rfl (fun K hK => ?_) AllReadyH.nil
          go_simp
          refine (is_any _ _ _ _ _ _ _ _ _ _ _ _ _ _ _ _ _ _ ((HGs.out _ D).1) Gw1 HI1.out).mono ?_
          rintro e2 w2 ⟨rfl, h9⟩
          replace D := D.trans (h9.mono D.size)
          clear Gw1
          clear h9
          refine hK.out _ _ D (fun hS => ?_)
          clear hK K
          refine wpAnyH_take (i := 7) (v := .bool true) rfl (by kernel_rfl) (by kernel_rfl) (by kernel_rfl) (fun _ _ _ h => h) (Or.inl ⟨by kernel_rfl, fun u hSw => (by go_simp)⟩) hS ?_
          change wpAnyH _ _ _ _ _ _ _ (Act.put _ (some 76) _) _
          simp only [Act.put]
          refine wpAnyH_take (i := 8) (v := .agg #[.slice A8 n8 c8, .slice B8 m8 d8]) rfl (by kernel_rfl) (by kernel_rfl) (by kernel_rfl) (fun _ _ _ h => h) (Or.inl ⟨by kernel_rfl, fun u hSw => (by have q0 := (HX.out u hSw).2.2.2.1.cell 0; have q1 := (HX.out u hSw).2.2.2.1.cell 1; go_simp)⟩) hS ?_
          change wpAnyH _ _ _ _ _ _ _ (Act.put _ (some 77) _) _
          simp only [Act.put]
          refine wpAnyH_take (i := 9) (v := .int .i64 190) rfl (by kernel_rfl) (by kernel_rfl) (by kernel_rfl) (fun _ _ _ h => h) (Or.inl ⟨by kernel_rfl, fun u hSw => (by go_simp)⟩) hS ?_
          change wpAnyH _ _ _ _ _ _ _ (Act.put _ (some 78) _) _
          simp only [Act.put]
          refine wpAnyH_take (i := 10) (v := .agg #[.slice A n c, .slice B m d]) rfl (by kernel_rfl) (by kernel_rfl) (by kernel_rfl) (fun _ _ _ h => h) (Or.inl ⟨by kernel_rfl, fun u hSw => (by have q0 := (HX.out u hSw).1.cell 0; have q1 := (HX.out u hSw).1.cell 1; go_simp)⟩) hS ?_
          change wpAnyH _ _ _ _ _ _ _ (Act.put _ (some 79) _) _
          simp only [Act.put]
          refine wpAnyH_take (i := 11) (v := .agg #[.int .i64 x1, .int .i64 x2, .int .i64 x3, .int .i64 x4]) rfl (by kernel_rfl) (by kernel_rfl) (by kernel_rfl) (fun _ _ _ h => h) (Or.inl ⟨by kernel_rfl, fun u hSw => (by have q0 := (HX.out u hSw).2.1.cell 0; have q1 := (HX.out u hSw).2.1.cell 1; have q2 := (HX.out u hSw).2.1.cell 2; have q3 := (HX.out u hSw).2.1.cell 3; go_simp)⟩) hS ?_
          change wpAnyH _ _ _ _ _ _ _ (Act.put _ (some 80) _) _
          simp only [Act.put]
          refine wpAnyH_take (i := 13) (v := .int .i64 190) rfl (by kernel_rfl) (by kernel_rfl) (by kernel_rfl) (fun _ _ _ h => h) (Or.inl ⟨by kernel_rfl, fun u hSw => (by go_simp)⟩) hS ?_
          change wpAnyH _ _ _ _ _ _ _ (Act.put _ (some 82) _) _
          simp only [Act.put]
          refine wpAnyH_ready (rs := [12]) (by kernel_rfl) (by simp) ?_
          refine AllReadyH.cons rfl (fun K hK => ?_) AllReadyH.nil
          go_simp
          refine (HW1.out _ D).mono ?_
          rintro e3 w3 ⟨Aw2, nw2, cw2, Bw2, mw2, dw2, rfl, Gw2, h9⟩
          replace D := D.trans (h9.mono D.size)
          clear h9
          refine hK.out _ _ D (fun hS => ?_)
          clear hK K
          refine wpAnyH_ready (rs := [14]) (by kernel_rfl) (by simp) ?_
          refine AllReadyH.cons rfl (fun K hK => ?_) AllReadyH.nil
          go_simp
          refine (is_any _ _ _ _ _ _ _ _ _ _ _ _ _ _ _ _ _ _ ((HGs.out _ D).2.1) Gw2 HI2.out).mono ?_
          rintro e4 w4 ⟨rfl, h9⟩
          replace D := D.trans (h9.mono D.size)
          clear Gw2
          clear h9
          refine hK.out _ _ D (fun hS => ?_)
          clear hK K
          refine wpAnyH_take (i := 15) (v := .bool true) rfl (by kernel_rfl) (by kernel_rfl) (by kernel_rfl) (fun _ _ _ h => h) (Or.inl ⟨by kernel_rfl, fun u hSw => (by go_simp)⟩) hS ?_
          change wpAnyH _ _ _ _ _ _ _ (Act.put _ (some 84) _) _
          simp only [Act.put]
          refine wpAnyH_take (i := 16) (v := .bool true) rfl (by kernel_rfl) (by kernel_rfl) (by kernel_rfl) (fun _ _ _ h => h) (Or.inl ⟨by kernel_rfl, fun u hSw => (by go_simp)⟩) hS ?_
          change wpAnyH _ _ _ _ _ _ _ (Act.put _ (some 85) _) _
          simp only [Act.put]
          refine wpAnyH_take (i := 17) (v := .agg #[.slice A10 n10 c10, .slice B10 m10 d10]) rfl (by kernel_rfl) (by kernel_rfl) (by kernel_rfl) (fun _ _ _ h => h) (Or.inl ⟨by kernel_rfl, fun u hSw => (by have q0 := (HX.out u hSw).2.2.2.2.cell 0; have q1 := (HX.out u hSw).2.2.2.2.cell 1; go_simp)⟩) hS ?_
          change wpAnyH _ _ _ _ _ _ _ (Act.put _ (some 86) _) _
          simp only [Act.put]
          refine wpAnyH_take (i := 18) (v := .int .i64 190) rfl (by kernel_rfl) (by kernel_rfl) (by kernel_rfl) (fun _ _ _ h => h) (Or.inl ⟨by kernel_rfl, fun u hSw => (by go_simp)⟩) hS ?_
          change wpAnyH _ _ _ _ _ _ _ (Act.put _ (some 87) _) _
          simp only [Act.put]
          refine wpAnyH_take (i := 19) (v := .agg #[.slice A n c, .slice B m d]) rfl (by kernel_rfl) (by kernel_rfl) (by kernel_rfl) (fun _ _ _ h => h) (Or.inl ⟨by kernel_rfl, fun u hSw => (by have q0 := (HX.out u hSw).1.cell 0; have q1 := (HX.out u hSw).1.cell 1; go_simp)⟩) hS ?_
          change wpAnyH _ _ _ _ _ _ _ (Act.put _ (some 88) _) _
          simp only [Act.put]
          refine wpAnyH_take (i := 20) (v := .pointer (some ⟨w.heap.size + 1, 0, none⟩)) rfl (by kernel_rfl) (by kernel_rfl) (by kernel_rfl) (fun _ _ _ h => h) (Or.inl ⟨by kernel_rfl, fun u hSw => (by go_simp)⟩) hS ?_
          change wpAnyH _ _ _ _ _ _ _ (Act.put _ (some 89) _) _
          simp only [Act.put]
          refine wpAnyH_take (i := 21) (v := .int .i64 x1) rfl (by kernel_rfl) (by kernel_rfl) (by kernel_rfl) (fun _ _ _ h => h) (Or.inl ⟨by kernel_rfl, fun u hSw => (by have q0 := (HX.out u hSw).2.1.cell 0; go_simp)⟩) hS ?_
          change wpAnyH _ _ _ _ _ _ _ (Act.put _ (some 90) _) _
          simp only [Act.put]
          refine wpAnyH_take (i := 23) (v := .int .i64 190) rfl (by kernel_rfl) (by kernel_rfl) (by kernel_rfl) (fun _ _ _ h => h) (Or.inl ⟨by kernel_rfl, fun u hSw => (by go_simp)⟩) hS ?_
          change wpAnyH _ _ _ _ _ _ _ (Act.put _ (some 92) _) _
          simp only [Act.put]
          refine wpAnyH_ready (rs := [22]) (by kernel_rfl) (by simp) ?_
          refine AllReadyH.cons rfl (fun K hK => ?_) AllReadyH.nil
          go_simp
          refine (HW3.out _ D).mono ?_
          rintro e5 w5 ⟨Aw3, nw3, cw3, Bw3, mw3, dw3, rfl, Gw3, h9⟩
          replace D := D.trans (h9.mono D.size)
          clear h9
          refine hK.out _ _ D (fun hS => ?_)
          clear hK K
          refine wpAnyH_ready (rs := [24]) (by kernel_rfl) (by simp) ?_
          refine AllReadyH.cons rfl (fun K hK => ?_) AllReadyH.nil
          go_simp
          refine (is_any _ _ _ _ _ _ _ _ _ _ _ _ _ _ _ _ _ _ ((HGs.out _ D).2.2) Gw3 HI3.out).mono ?_
          rintro e6 w6 ⟨rfl, h9⟩
          replace D := D.trans (h9.mono D.size)
          clear Gw3
          clear h9
          refine hK.out _ _ D (fun hS => ?_)
          clear hK K
          refine wpAnyH_take (i := 25) (v := .bool true) rfl (by kernel_rfl) (by kernel_rfl) (by kernel_rfl) (fun _ _ _ h => h) (Or.inl ⟨by kernel_rfl, fun u hSw => (by go_simp)⟩) hS ?_
          change wpAnyH _ _ _ _ _ _ _ (Act.put _ (some 94) _) _
          simp only [Act.put]
          refine wpAnyH_take (i := 26) (v := .bool true) rfl (by kernel_rfl) (by kernel_rfl) (by kernel_rfl) (fun _ _ _ h => h) (Or.inl ⟨by kernel_rfl, fun u hSw => (by go_simp)⟩) hS ?_
          change wpAnyH _ _ _ _ _ _ _ (Act.put _ (some 4) _) _
          simp only [Act.put]
          refine wpAnyH_done (by kernel_rfl) ?_ _
          clear hS
          have HF := Lib.hid (HB.out _ D)
          clear D
          go_wp2
          go_ret
          exact ⟨rfl, HF.out⟩
        · have hth : (kf ds x1).isSome = true := by rw [hk]; rfl
          rw [show domV ds x1 = ((y1, y2, y3, y4), true) from domV_some hk] at HDm
          by_cases hbz : 0 < (ofL us x1).length
          · have b1 : decide ((0 : Int) < (Q : Int)) = true := decide_eq_true (by omega)
            have b2 : decide (0 < Q) = true := decide_eq_true (by omega)
            clear hk hQ
            have he : E1 = 190 ∧ E2 = 190 ∧ E3 = 190 := by
              have q := HR.out
              unfold createQ changeQ destroyQ at q
              simp [hr] at q
              exact ⟨q.1.2.2.symm, q.2.1.2.2.symm, q.2.2.2.2.symm⟩
            obtain ⟨rfl, rfl, rfl⟩ := he
            clear hr hrd hth hbz
            go_wp2_with fail
            refine (HDm.out _ GB).mono ?_
            rintro e w8 ⟨rfl, h9⟩
            replace K0 := K0.below h9 K0.lt
            replace K1 := K1.below h9 K1.lt
            replace K5 := K5.below h9 K5.lt
            replace K6 := K6.below h9 K6.lt
            replace K8 := K8.below h9 K8.lt
            replace K10 := K10.below h9 K10.lt
            replace G5 := G5.below h9
            replace G6 := G6.below h9
            replace G8 := G8.below h9
            replace G10 := G10.below h9
            replace GB := GB.trans (h9.mono GB.size)
            clear h9
            clear zK00 zK01 zK10
            have K15 := Blk.new w8 27 #[.int .i64 y1, .int .i64 y2, .int .i64 y3, .int .i64 y4]
            replace K0 := K0.alloc (.cells #[.int .i64 y1, .int .i64 y2, .int .i64 y3, .int .i64 y4] 27)
            replace K1 := K1.alloc (.cells #[.int .i64 y1, .int .i64 y2, .int .i64 y3, .int .i64 y4] 27)
            replace K5 := K5.alloc (.cells #[.int .i64 y1, .int .i64 y2, .int .i64 y3, .int .i64 y4] 27)
            replace K6 := K6.alloc (.cells #[.int .i64 y1, .int .i64 y2, .int .i64 y3, .int .i64 y4] 27)
            replace K8 := K8.alloc (.cells #[.int .i64 y1, .int .i64 y2, .int .i64 y3, .int .i64 y4] 27)
            replace K10 := K10.alloc (.cells #[.int .i64 y1, .int .i64 y2, .int .i64 y3, .int .i64 y4] 27)
            replace G5 := G5.below ((Below.refl _ _).alloc (Nat.le_refl _) (.cells #[.int .i64 y1, .int .i64 y2, .int .i64 y3, .int .i64 y4] 27))
            replace G6 := G6.below ((Below.refl _ _).alloc (Nat.le_refl _) (.cells #[.int .i64 y1, .int .i64 y2, .int .i64 y3, .int .i64 y4] 27))
            replace G8 := G8.below ((Below.refl _ _).alloc (Nat.le_refl _) (.cells #[.int .i64 y1, .int .i64 y2, .int .i64 y3, .int .i64 y4] 27))
            replace G10 := G10.below ((Below.refl _ _).alloc (Nat.le_refl _) (.cells #[.int .i64 y1, .int .i64 y2, .int .i64 y3, .int .i64 y4] 27))
            replace GB := GB.alloc GB.size (.cells #[.int .i64 y1, .int .i64 y2, .int .i64 y3, .int .i64 y4] 27)
            clear K15
            have zK10 := K1.cell 0
            have zK11 := K1.cell 1
            have zK12 := K1.cell 2
            have zK13 := K1.cell 3
            go_wp2_with fail
            refine (HRd.out _).mono ?_
            rintro e w9 ⟨rfl, h9⟩
            replace K0 := K0.below h9 K0.lt
            replace K1 := K1.below h9 K1.lt
            replace K5 := K5.below h9 K5.lt
            replace K6 := K6.below h9 K6.lt
            replace K8 := K8.below h9 K8.lt
            replace K10 := K10.below h9 K10.lt
            replace G5 := G5.below h9
            replace G6 := G6.below h9
            replace G8 := G8.below h9
            replace G10 := G10.below h9
            replace GB := GB.trans (h9.mono GB.size)
            clear h9
            clear zK10 zK11 zK12 zK13
            have zK00 := K0.cell 0
            have zK01 := K0.cell 1
            have zK10 := K1.cell 0
            go_wp2_with fail
            refine (HOf.out _ GB).mono ?_
            rintro e w10 ⟨Af, cf, rfl, q1, q2, h9⟩
            rw [HQ.out]
            replace K0 := K0.below h9 K0.lt
            replace K1 := K1.below h9 K1.lt
            replace K5 := K5.below h9 K5.lt
            replace K6 := K6.below h9 K6.lt
            replace K8 := K8.below h9 K8.lt
            replace K10 := K10.below h9 K10.lt
            replace G5 := G5.below h9
            replace G6 := G6.below h9
            replace G8 := G8.below h9
            replace G10 := G10.below h9
            replace GB := GB.trans (h9.mono GB.size)
            clear h9 q1 q2
            clear zK00 zK01 zK10
            have zK00 := K0.cell 0
            have zK01 := K0.cell 1
            go_wp2_with fail
            refine (HRg.out _ GB).mono ?_
            rintro e w11 ⟨rfl, h9⟩
            replace K0 := K0.below h9 K0.lt
            replace K1 := K1.below h9 K1.lt
            replace K5 := K5.below h9 K5.lt
            replace K6 := K6.below h9 K6.lt
            replace K8 := K8.below h9 K8.lt
            replace K10 := K10.below h9 K10.lt
            replace G5 := G5.below h9
            replace G6 := G6.below h9
            replace G8 := G8.below h9
            replace G10 := G10.below h9
            replace GB := GB.trans (h9.mono GB.size)
            clear h9
            clear zK00 zK01
            go_upto_region 22 with fail
            have HX := Lib.hid (fun (u : World) (h : Below w11.heap.size w11 u) => And.intro (K0.below h K0.lt) (And.intro (K1.below h K1.lt) (And.intro (K6.below h K6.lt) (And.intro (K8.below h K8.lt) (K10.below h K10.lt)))))
            have HGs := Lib.hid (fun (u : World) (h : Below w11.heap.size w11 u) => And.intro (G6.below h) (And.intro (G8.below h) (G10.below h)))
            have HB := Lib.hid (fun (u : World) (h : Below w11.heap.size w11 u) => GB.trans (h.mono GB.size))
            clear K0 K1 K5 K6 K8 K10 G5 G6 G8 G10 GB
            have HW1 : Hid (∀ u, Below w11.heap.size w11 u → Calls Try.prog 20 #[.agg #[.slice A n c, .slice B m d], .agg #[.int .i64 x1, .int .i64 x2, .int .i64 x3, .int .i64 x4]] u (fun e w' => ∃ A n c B m d, e = .returned (.agg #[.slice A n c, .slice B m d]) ∧ GR w' A n c (madeD ds (x1, x2, x3, x4) 0 8) B m d (madeV us zeroV 0 16) ∧ Below u.heap.size u w')) := Lib.hid (fun u h => (rwithD_any A n c ds B m d us x1 x2 x3 x4 u (HG.out.below (HB.out u h))).mono fun _ _ h => h.gr (by have := madeD_len ds (x1, x2, x3, x4) 0 8; omega) (by have := madeV_len us zeroV 0 16; omega) (HUd.out 16))
            have HW3 : Hid (∀ u, Below w11.heap.size w11 u → Calls Try.prog 21 #[.agg #[.slice A n c, .slice B m d], .int .i64 x1] u (fun e w' => ∃ A n c B m d, e = .returned (.agg #[.slice A n c, .slice B m d]) ∧ GR w' A n c (madeD ds zeroD x1 8) B m d (madeV us zeroV 0 16) ∧ Below u.heap.size u w')) := Lib.hid (fun u h => (rwithoutD_any A n c ds B m d us x1 u (HG.out.below (HB.out u h))).mono fun _ _ h => h.gr (by have := madeD_len ds zeroD x1 8; omega) (by have := madeV_len us zeroV 0 16; omega) (HUd.out 16))
            have D := (Below.refl w11.heap.size w11).drew
            refine wp_region_held_drew (S := fun u => Below w11.heap.size w11 u) (by kernel_rfl) D (fun hS => ?_)
            generalize w11.drew = V at D hS ⊢
            refine wpAnyH_take (i := 0) (v := .agg #[.slice A6 n6 c6, .slice B6 m6 d6]) rfl (by kernel_rfl) (by kernel_rfl) (by kernel_rfl) (fun _ _ _ h => h) (Or.inl ⟨by kernel_rfl, fun u hSw => (by have q0 := (HX.out u hSw).2.2.1.cell 0; have q1 := (HX.out u hSw).2.2.1.cell 1; go_simp)⟩) hS ?_
            change wpAnyH _ _ _ _ _ _ _ (Act.put _ (some 69) _) _
            simp only [Act.put]
            refine wpAnyH_take (i := 1) (v := .int .i64 190) rfl (by kernel_rfl) (by kernel_rfl) (by kernel_rfl) (fun _ _ _ h => h) (Or.inl ⟨by kernel_rfl, fun u hSw => (by go_simp)⟩) hS ?_
            change wpAnyH _ _ _ _ _ _ _ (Act.put _ (some 70) _) _
            simp only [Act.put]
            refine wpAnyH_take (i := 2) (v := .agg #[.slice A n c, .slice B m d]) rfl (by kernel_rfl) (by kernel_rfl) (by kernel_rfl) (fun _ _ _ h => h) (Or.inl ⟨by kernel_rfl, fun u hSw => (by have q0 := (HX.out u hSw).1.cell 0; have q1 := (HX.out u hSw).1.cell 1; go_simp)⟩) hS ?_
            change wpAnyH _ _ _ _ _ _ _ (Act.put _ (some 71) _) _
            simp only [Act.put]
            refine wpAnyH_take (i := 3) (v := .agg #[.int .i64 x1, .int .i64 x2, .int .i64 x3, .int .i64 x4]) rfl (by kernel_rfl) (by kernel_rfl) (by kernel_rfl) (fun _ _ _ h => h) (Or.inl ⟨by kernel_rfl, fun u hSw => (by have q0 := (HX.out u hSw).2.1.cell 0; have q1 := (HX.out u hSw).2.1.cell 1; have q2 := (HX.out u hSw).2.1.cell 2; have q3 := (HX.out u hSw).2.1.cell 3; go_simp)⟩) hS ?_
            change wpAnyH _ _ _ _ _ _ _ (Act.put _ (some 72) _) _
            simp only [Act.put]
            refine wpAnyH_take (i := 5) (v := .int .i64 190) rfl (by kernel_rfl) (by kernel_rfl) (by kernel_rfl) (fun _ _ _ h => h) (Or.inl ⟨by kernel_rfl, fun u hSw => (by go_simp)⟩) hS ?_
            change wpAnyH _ _ _ _ _ _ _ (Act.put _ (some 74) _) _
            simp only [Act.put]
            refine wpAnyH_ready (rs := [4]) (by kernel_rfl) (by simp) ?_
            refine AllReadyH.cons rfl (fun K hK => ?_) AllReadyH.nil
            go_simp
            refine (HW1.out _ D).mono ?_
            rintro e1 w1 ⟨Aw1, nw1, cw1, Bw1, mw1, dw1, rfl, Gw1, h9⟩
            replace D := D.trans (h9.mono D.size)
            clear h9
            refine hK.out _ _ D (fun hS => ?_)
            clear hK K
            refine wpAnyH_ready (rs := [6]) (by kernel_rfl) (by simp) ?_
            refine AllReadyH.cons rfl (fun K hK => ?_) AllReadyH.nil
            go_simp
            refine (is_any _ _ _ _ _ _ _ _ _ _ _ _ _ _ _ _ _ _ ((HGs.out _ D).1) Gw1 HI1.out).mono ?_
            rintro e2 w2 ⟨rfl, h9⟩
            replace D := D.trans (h9.mono D.size)
            clear Gw1
            clear h9
            refine hK.out _ _ D (fun hS => ?_)
            clear hK K
            refine wpAnyH_take (i := 7) (v := .bool true) rfl (by kernel_rfl) (by kernel_rfl) (by kernel_rfl) (fun _ _ _ h => h) (Or.inl ⟨by kernel_rfl, fun u hSw => (by go_simp)⟩) hS ?_
            change wpAnyH _ _ _ _ _ _ _ (Act.put _ (some 76) _) _
            simp only [Act.put]
            refine wpAnyH_take (i := 8) (v := .agg #[.slice A8 n8 c8, .slice B8 m8 d8]) rfl (by kernel_rfl) (by kernel_rfl) (by kernel_rfl) (fun _ _ _ h => h) (Or.inl ⟨by kernel_rfl, fun u hSw => (by have q0 := (HX.out u hSw).2.2.2.1.cell 0; have q1 := (HX.out u hSw).2.2.2.1.cell 1; go_simp)⟩) hS ?_
            change wpAnyH _ _ _ _ _ _ _ (Act.put _ (some 77) _) _
            simp only [Act.put]
            refine wpAnyH_take (i := 9) (v := .int .i64 190) rfl (by kernel_rfl) (by kernel_rfl) (by kernel_rfl) (fun _ _ _ h => h) (Or.inl ⟨by kernel_rfl, fun u hSw => (by go_simp)⟩) hS ?_
            change wpAnyH _ _ _ _ _ _ _ (Act.put _ (some 78) _) _
            simp only [Act.put]
            refine wpAnyH_take (i := 10) (v := .agg #[.slice A n c, .slice B m d]) rfl (by kernel_rfl) (by kernel_rfl) (by kernel_rfl) (fun _ _ _ h => h) (Or.inl ⟨by kernel_rfl, fun u hSw => (by have q0 := (HX.out u hSw).1.cell 0; have q1 := (HX.out u hSw).1.cell 1; go_simp)⟩) hS ?_
            change wpAnyH _ _ _ _ _ _ _ (Act.put _ (some 79) _) _
            simp only [Act.put]
            refine wpAnyH_take (i := 11) (v := .agg #[.int .i64 x1, .int .i64 x2, .int .i64 x3, .int .i64 x4]) rfl (by kernel_rfl) (by kernel_rfl) (by kernel_rfl) (fun _ _ _ h => h) (Or.inl ⟨by kernel_rfl, fun u hSw => (by have q0 := (HX.out u hSw).2.1.cell 0; have q1 := (HX.out u hSw).2.1.cell 1; have q2 := (HX.out u hSw).2.1.cell 2; have q3 := (HX.out u hSw).2.1.cell 3; go_simp)⟩) hS ?_
            change wpAnyH _ _ _ _ _ _ _ (Act.put _ (some 80) _) _
            simp only [Act.put]
            refine wpAnyH_take (i := 13) (v := .int .i64 190) rfl (by kernel_rfl) (by kernel_rfl) (by kernel_rfl) (fun _ _ _ h => h) (Or.inl ⟨by kernel_rfl, fun u hSw => (by go_simp)⟩) hS ?_
            change wpAnyH _ _ _ _ _ _ _ (Act.put _ (some 82) _) _
            simp only [Act.put]
            refine wpAnyH_ready (rs := [12]) (by kernel_rfl) (by simp) ?_
            refine AllReadyH.cons rfl (fun K hK => ?_) AllReadyH.nil
            go_simp
            refine (HW1.out _ D).mono ?_
            rintro e3 w3 ⟨Aw2, nw2, cw2, Bw2, mw2, dw2, rfl, Gw2, h9⟩
            replace D := D.trans (h9.mono D.size)
            clear h9
            refine hK.out _ _ D (fun hS => ?_)
            clear hK K
            refine wpAnyH_ready (rs := [14]) (by kernel_rfl) (by simp) ?_
            refine AllReadyH.cons rfl (fun K hK => ?_) AllReadyH.nil
            go_simp
            refine (is_any _ _ _ _ _ _ _ _ _ _ _ _ _ _ _ _ _ _ ((HGs.out _ D).2.1) Gw2 HI2.out).mono ?_
            rintro e4 w4 ⟨rfl, h9⟩
            replace D := D.trans (h9.mono D.size)
            clear Gw2
            clear h9
            refine hK.out _ _ D (fun hS => ?_)
            clear hK K
            refine wpAnyH_take (i := 15) (v := .bool true) rfl (by kernel_rfl) (by kernel_rfl) (by kernel_rfl) (fun _ _ _ h => h) (Or.inl ⟨by kernel_rfl, fun u hSw => (by go_simp)⟩) hS ?_
            change wpAnyH _ _ _ _ _ _ _ (Act.put _ (some 84) _) _
            simp only [Act.put]
            refine wpAnyH_take (i := 16) (v := .bool true) rfl (by kernel_rfl) (by kernel_rfl) (by kernel_rfl) (fun _ _ _ h => h) (Or.inl ⟨by kernel_rfl, fun u hSw => (by go_simp)⟩) hS ?_
            change wpAnyH _ _ _ _ _ _ _ (Act.put _ (some 85) _) _
            simp only [Act.put]
            refine wpAnyH_take (i := 17) (v := .agg #[.slice A10 n10 c10, .slice B10 m10 d10]) rfl (by kernel_rfl) (by kernel_rfl) (by kernel_rfl) (fun _ _ _ h => h) (Or.inl ⟨by kernel_rfl, fun u hSw => (by have q0 := (HX.out u hSw).2.2.2.2.cell 0; have q1 := (HX.out u hSw).2.2.2.2.cell 1; go_simp)⟩) hS ?_
            change wpAnyH _ _ _ _ _ _ _ (Act.put _ (some 86) _) _
            simp only [Act.put]
            refine wpAnyH_take (i := 18) (v := .int .i64 190) rfl (by kernel_rfl) (by kernel_rfl) (by kernel_rfl) (fun _ _ _ h => h) (Or.inl ⟨by kernel_rfl, fun u hSw => (by go_simp)⟩) hS ?_
            change wpAnyH _ _ _ _ _ _ _ (Act.put _ (some 87) _) _
            simp only [Act.put]
            refine wpAnyH_take (i := 19) (v := .agg #[.slice A n c, .slice B m d]) rfl (by kernel_rfl) (by kernel_rfl) (by kernel_rfl) (fun _ _ _ h => h) (Or.inl ⟨by kernel_rfl, fun u hSw => (by have q0 := (HX.out u hSw).1.cell 0; have q1 := (HX.out u hSw).1.cell 1; go_simp)⟩) hS ?_
            change wpAnyH _ _ _ _ _ _ _ (Act.put _ (some 88) _) _
            simp only [Act.put]
            refine wpAnyH_take (i := 20) (v := .pointer (some ⟨w.heap.size + 1, 0, none⟩)) rfl (by kernel_rfl) (by kernel_rfl) (by kernel_rfl) (fun _ _ _ h => h) (Or.inl ⟨by kernel_rfl, fun u hSw => (by go_simp)⟩) hS ?_
            change wpAnyH _ _ _ _ _ _ _ (Act.put _ (some 89) _) _
            simp only [Act.put]
            refine wpAnyH_take (i := 21) (v := .int .i64 x1) rfl (by kernel_rfl) (by kernel_rfl) (by kernel_rfl) (fun _ _ _ h => h) (Or.inl ⟨by kernel_rfl, fun u hSw => (by have q0 := (HX.out u hSw).2.1.cell 0; go_simp)⟩) hS ?_
            change wpAnyH _ _ _ _ _ _ _ (Act.put _ (some 90) _) _
            simp only [Act.put]
            refine wpAnyH_take (i := 23) (v := .int .i64 190) rfl (by kernel_rfl) (by kernel_rfl) (by kernel_rfl) (fun _ _ _ h => h) (Or.inl ⟨by kernel_rfl, fun u hSw => (by go_simp)⟩) hS ?_
            change wpAnyH _ _ _ _ _ _ _ (Act.put _ (some 92) _) _
            simp only [Act.put]
            refine wpAnyH_ready (rs := [22]) (by kernel_rfl) (by simp) ?_
            refine AllReadyH.cons rfl (fun K hK => ?_) AllReadyH.nil
            go_simp
            refine (HW3.out _ D).mono ?_
            rintro e5 w5 ⟨Aw3, nw3, cw3, Bw3, mw3, dw3, rfl, Gw3, h9⟩
            replace D := D.trans (h9.mono D.size)
            clear h9
            refine hK.out _ _ D (fun hS => ?_)
            clear hK K
            refine wpAnyH_ready (rs := [24]) (by kernel_rfl) (by simp) ?_
            refine AllReadyH.cons rfl (fun K hK => ?_) AllReadyH.nil
            go_simp
            refine (is_any _ _ _ _ _ _ _ _ _ _ _ _ _ _ _ _ _ _ ((HGs.out _ D).2.2) Gw3 HI3.out).mono ?_
            rintro e6 w6 ⟨rfl, h9⟩
            replace D := D.trans (h9.mono D.size)
            clear Gw3
            clear h9
            refine hK.out _ _ D (fun hS => ?_)
            clear hK K
            refine wpAnyH_take (i := 25) (v := .bool true) rfl (by kernel_rfl) (by kernel_rfl) (by kernel_rfl) (fun _ _ _ h => h) (Or.inl ⟨by kernel_rfl, fun u hSw => (by go_simp)⟩) hS ?_
            change wpAnyH _ _ _ _ _ _ _ (Act.put _ (some 94) _) _
            simp only [Act.put]
            refine wpAnyH_take (i := 26) (v := .bool true) rfl (by kernel_rfl) (by kernel_rfl) (by kernel_rfl) (fun _ _ _ h => h) (Or.inl ⟨by kernel_rfl, fun u hSw => (by go_simp)⟩) hS ?_
            change wpAnyH _ _ _ _ _ _ _ (Act.put _ (some 4) _) _
            simp only [Act.put]
            refine wpAnyH_done (by kernel_rfl) ?_ _
            clear hS
            have HF := Lib.hid (HB.out _ D)
            clear D
            go_wp2
            go_ret
            exact ⟨rfl, HF.out⟩
          · have b1 : decide ((0 : Int) < (Q : Int)) = false := decide_eq_false (by omega)
            have b2 : decide (0 < Q) = false := decide_eq_false (by omega)
            clear hk hQ
            have he : E1 = 190 ∧ E2 = 190 ∧ E3 = 190 := by
              have q := HR.out
              unfold createQ changeQ destroyQ at q
              simp [hr] at q
              exact ⟨q.1.2.2.symm, q.2.1.2.2.symm, q.2.2.2.2.symm⟩
            obtain ⟨rfl, rfl, rfl⟩ := he
            clear hr hrd hth hbz
            go_wp2_with fail
            refine (HDm.out _ GB).mono ?_
            rintro e w8 ⟨rfl, h9⟩
            replace K0 := K0.below h9 K0.lt
            replace K1 := K1.below h9 K1.lt
            replace K5 := K5.below h9 K5.lt
            replace K6 := K6.below h9 K6.lt
            replace K8 := K8.below h9 K8.lt
            replace K10 := K10.below h9 K10.lt
            replace G5 := G5.below h9
            replace G6 := G6.below h9
            replace G8 := G8.below h9
            replace G10 := G10.below h9
            replace GB := GB.trans (h9.mono GB.size)
            clear h9
            clear zK00 zK01 zK10
            have K15 := Blk.new w8 27 #[.int .i64 y1, .int .i64 y2, .int .i64 y3, .int .i64 y4]
            replace K0 := K0.alloc (.cells #[.int .i64 y1, .int .i64 y2, .int .i64 y3, .int .i64 y4] 27)
            replace K1 := K1.alloc (.cells #[.int .i64 y1, .int .i64 y2, .int .i64 y3, .int .i64 y4] 27)
            replace K5 := K5.alloc (.cells #[.int .i64 y1, .int .i64 y2, .int .i64 y3, .int .i64 y4] 27)
            replace K6 := K6.alloc (.cells #[.int .i64 y1, .int .i64 y2, .int .i64 y3, .int .i64 y4] 27)
            replace K8 := K8.alloc (.cells #[.int .i64 y1, .int .i64 y2, .int .i64 y3, .int .i64 y4] 27)
            replace K10 := K10.alloc (.cells #[.int .i64 y1, .int .i64 y2, .int .i64 y3, .int .i64 y4] 27)
            replace G5 := G5.below ((Below.refl _ _).alloc (Nat.le_refl _) (.cells #[.int .i64 y1, .int .i64 y2, .int .i64 y3, .int .i64 y4] 27))
            replace G6 := G6.below ((Below.refl _ _).alloc (Nat.le_refl _) (.cells #[.int .i64 y1, .int .i64 y2, .int .i64 y3, .int .i64 y4] 27))
            replace G8 := G8.below ((Below.refl _ _).alloc (Nat.le_refl _) (.cells #[.int .i64 y1, .int .i64 y2, .int .i64 y3, .int .i64 y4] 27))
            replace G10 := G10.below ((Below.refl _ _).alloc (Nat.le_refl _) (.cells #[.int .i64 y1, .int .i64 y2, .int .i64 y3, .int .i64 y4] 27))
            replace GB := GB.alloc GB.size (.cells #[.int .i64 y1, .int .i64 y2, .int .i64 y3, .int .i64 y4] 27)
            clear K15
            have zK10 := K1.cell 0
            have zK11 := K1.cell 1
            have zK12 := K1.cell 2
            have zK13 := K1.cell 3
            go_wp2_with fail
            refine (HRd.out _).mono ?_
            rintro e w9 ⟨rfl, h9⟩
            replace K0 := K0.below h9 K0.lt
            replace K1 := K1.below h9 K1.lt
            replace K5 := K5.below h9 K5.lt
            replace K6 := K6.below h9 K6.lt
            replace K8 := K8.below h9 K8.lt
            replace K10 := K10.below h9 K10.lt
            replace G5 := G5.below h9
            replace G6 := G6.below h9
            replace G8 := G8.below h9
            replace G10 := G10.below h9
            replace GB := GB.trans (h9.mono GB.size)
            clear h9
            clear zK10 zK11 zK12 zK13
            have zK00 := K0.cell 0
            have zK01 := K0.cell 1
            have zK10 := K1.cell 0
            go_wp2_with fail
            refine (HOf.out _ GB).mono ?_
            rintro e w10 ⟨Af, cf, rfl, q1, q2, h9⟩
            rw [HQ.out]
            replace K0 := K0.below h9 K0.lt
            replace K1 := K1.below h9 K1.lt
            replace K5 := K5.below h9 K5.lt
            replace K6 := K6.below h9 K6.lt
            replace K8 := K8.below h9 K8.lt
            replace K10 := K10.below h9 K10.lt
            replace G5 := G5.below h9
            replace G6 := G6.below h9
            replace G8 := G8.below h9
            replace G10 := G10.below h9
            replace GB := GB.trans (h9.mono GB.size)
            clear h9 q1 q2
            clear zK00 zK01 zK10
            have zK00 := K0.cell 0
            have zK01 := K0.cell 1
            go_wp2_with fail
            refine (HRg.out _ GB).mono ?_
            rintro e w11 ⟨rfl, h9⟩
            replace K0 := K0.below h9 K0.lt
            replace K1 := K1.below h9 K1.lt
            replace K5 := K5.below h9 K5.lt
            replace K6 := K6.below h9 K6.lt
            replace K8 := K8.below h9 K8.lt
            replace K10 := K10.below h9 K10.lt
            replace G5 := G5.below h9
            replace G6 := G6.below h9
            replace G8 := G8.below h9
            replace G10 := G10.below h9
            replace GB := GB.trans (h9.mono GB.size)
            clear h9
            clear zK00 zK01
            go_upto_region 22 with fail
            have HX := Lib.hid (fun (u : World) (h : Below w11.heap.size w11 u) => And.intro (K0.below h K0.lt) (And.intro (K1.below h K1.lt) (And.intro (K6.below h K6.lt) (And.intro (K8.below h K8.lt) (K10.below h K10.lt)))))
            have HGs := Lib.hid (fun (u : World) (h : Below w11.heap.size w11 u) => And.intro (G6.below h) (And.intro (G8.below h) (G10.below h)))
            have HB := Lib.hid (fun (u : World) (h : Below w11.heap.size w11 u) => GB.trans (h.mono GB.size))
            clear K0 K1 K5 K6 K8 K10 G5 G6 G8 G10 GB
            have HW1 : Hid (∀ u, Below w11.heap.size w11 u → Calls Try.prog 20 #[.agg #[.slice A n c, .slice B m d], .agg #[.int .i64 x1, .int .i64 x2, .int .i64 x3, .int .i64 x4]] u (fun e w' => ∃ A n c B m d, e = .returned (.agg #[.slice A n c, .slice B m d]) ∧ GR w' A n c (madeD ds (x1, x2, x3, x4) 0 8) B m d (madeV us zeroV 0 16) ∧ Below u.heap.size u w')) := Lib.hid (fun u h => (rwithD_any A n c ds B m d us x1 x2 x3 x4 u (HG.out.below (HB.out u h))).mono fun _ _ h => h.gr (by have := madeD_len ds (x1, x2, x3, x4) 0 8; omega) (by have := madeV_len us zeroV 0 16; omega) (HUd.out 16))
            have HW3 : Hid (∀ u, Below w11.heap.size w11 u → Calls Try.prog 21 #[.agg #[.slice A n c, .slice B m d], .int .i64 x1] u (fun e w' => ∃ A n c B m d, e = .returned (.agg #[.slice A n c, .slice B m d]) ∧ GR w' A n c (madeD ds zeroD x1 8) B m d (madeV us zeroV 0 16) ∧ Below u.heap.size u w')) := Lib.hid (fun u h => (rwithoutD_any A n c ds B m d us x1 u (HG.out.below (HB.out u h))).mono fun _ _ h => h.gr (by have := madeD_len ds zeroD x1 8; omega) (by have := madeV_len us zeroV 0 16; omega) (HUd.out 16))
            have D := (Below.refl w11.heap.size w11).drew
            refine wp_region_held_drew (S := fun u => Below w11.heap.size w11 u) (by kernel_rfl) D (fun hS => ?_)
            generalize w11.drew = V at D hS ⊢
            refine wpAnyH_take (i := 0) (v := .agg #[.slice A6 n6 c6, .slice B6 m6 d6]) rfl (by kernel_rfl) (by kernel_rfl) (by kernel_rfl) (fun _ _ _ h => h) (Or.inl ⟨by kernel_rfl, fun u hSw => (by have q0 := (HX.out u hSw).2.2.1.cell 0; have q1 := (HX.out u hSw).2.2.1.cell 1; go_simp)⟩) hS ?_
            change wpAnyH _ _ _ _ _ _ _ (Act.put _ (some 69) _) _
            simp only [Act.put]
            refine wpAnyH_take (i := 1) (v := .int .i64 190) rfl (by kernel_rfl) (by kernel_rfl) (by kernel_rfl) (fun _ _ _ h => h) (Or.inl ⟨by kernel_rfl, fun u hSw => (by go_simp)⟩) hS ?_
            change wpAnyH _ _ _ _ _ _ _ (Act.put _ (some 70) _) _
            simp only [Act.put]
            refine wpAnyH_take (i := 2) (v := .agg #[.slice A n c, .slice B m d]) rfl (by kernel_rfl) (by kernel_rfl) (by kernel_rfl) (fun _ _ _ h => h) (Or.inl ⟨by kernel_rfl, fun u hSw => (by have q0 := (HX.out u hSw).1.cell 0; have q1 := (HX.out u hSw).1.cell 1; go_simp)⟩) hS ?_
            change wpAnyH _ _ _ _ _ _ _ (Act.put _ (some 71) _) _
            simp only [Act.put]
            refine wpAnyH_take (i := 3) (v := .agg #[.int .i64 x1, .int .i64 x2, .int .i64 x3, .int .i64 x4]) rfl (by kernel_rfl) (by kernel_rfl) (by kernel_rfl) (fun _ _ _ h => h) (Or.inl ⟨by kernel_rfl, fun u hSw => (by have q0 := (HX.out u hSw).2.1.cell 0; have q1 := (HX.out u hSw).2.1.cell 1; have q2 := (HX.out u hSw).2.1.cell 2; have q3 := (HX.out u hSw).2.1.cell 3; go_simp)⟩) hS ?_
            change wpAnyH _ _ _ _ _ _ _ (Act.put _ (some 72) _) _
            simp only [Act.put]
            refine wpAnyH_take (i := 5) (v := .int .i64 190) rfl (by kernel_rfl) (by kernel_rfl) (by kernel_rfl) (fun _ _ _ h => h) (Or.inl ⟨by kernel_rfl, fun u hSw => (by go_simp)⟩) hS ?_
            change wpAnyH _ _ _ _ _ _ _ (Act.put _ (some 74) _) _
            simp only [Act.put]
            refine wpAnyH_ready (rs := [4]) (by kernel_rfl) (by simp) ?_
            refine AllReadyH.cons rfl (fun K hK => ?_) AllReadyH.nil
            go_simp
            refine (HW1.out _ D).mono ?_
            rintro e1 w1 ⟨Aw1, nw1, cw1, Bw1, mw1, dw1, rfl, Gw1, h9⟩
            replace D := D.trans (h9.mono D.size)
            clear h9
            refine hK.out _ _ D (fun hS => ?_)
            clear hK K
            refine wpAnyH_ready (rs := [6]) (by kernel_rfl) (by simp) ?_
            refine AllReadyH.cons rfl (fun K hK => ?_) AllReadyH.nil
            go_simp
            refine (is_any _ _ _ _ _ _ _ _ _ _ _ _ _ _ _ _ _ _ ((HGs.out _ D).1) Gw1 HI1.out).mono ?_
            rintro e2 w2 ⟨rfl, h9⟩
            replace D := D.trans (h9.mono D.size)
            clear Gw1
            clear h9
            refine hK.out _ _ D (fun hS => ?_)
            clear hK K
            refine wpAnyH_take (i := 7) (v := .bool true) rfl (by kernel_rfl) (by kernel_rfl) (by kernel_rfl) (fun _ _ _ h => h) (Or.inl ⟨by kernel_rfl, fun u hSw => (by go_simp)⟩) hS ?_
            change wpAnyH _ _ _ _ _ _ _ (Act.put _ (some 76) _) _
            simp only [Act.put]
            refine wpAnyH_take (i := 8) (v := .agg #[.slice A8 n8 c8, .slice B8 m8 d8]) rfl (by kernel_rfl) (by kernel_rfl) (by kernel_rfl) (fun _ _ _ h => h) (Or.inl ⟨by kernel_rfl, fun u hSw => (by have q0 := (HX.out u hSw).2.2.2.1.cell 0; have q1 := (HX.out u hSw).2.2.2.1.cell 1; go_simp)⟩) hS ?_
            change wpAnyH _ _ _ _ _ _ _ (Act.put _ (some 77) _) _
            simp only [Act.put]
            refine wpAnyH_take (i := 9) (v := .int .i64 190) rfl (by kernel_rfl) (by kernel_rfl) (by kernel_rfl) (fun _ _ _ h => h) (Or.inl ⟨by kernel_rfl, fun u hSw => (by go_simp)⟩) hS ?_
            change wpAnyH _ _ _ _ _ _ _ (Act.put _ (some 78) _) _
            simp only [Act.put]
            refine wpAnyH_take (i := 10) (v := .agg #[.slice A n c, .slice B m d]) rfl (by kernel_rfl) (by kernel_rfl) (by kernel_rfl) (fun _ _ _ h => h) (Or.inl ⟨by kernel_rfl, fun u hSw => (by have q0 := (HX.out u hSw).1.cell 0; have q1 := (HX.out u hSw).1.cell 1; go_simp)⟩) hS ?_
            change wpAnyH _ _ _ _ _ _ _ (Act.put _ (some 79) _) _
            simp only [Act.put]
            refine wpAnyH_take (i := 11) (v := .agg #[.int .i64 x1, .int .i64 x2, .int .i64 x3, .int .i64 x4]) rfl (by kernel_rfl) (by kernel_rfl) (by kernel_rfl) (fun _ _ _ h => h) (Or.inl ⟨by kernel_rfl, fun u hSw => (by have q0 := (HX.out u hSw).2.1.cell 0; have q1 := (HX.out u hSw).2.1.cell 1; have q2 := (HX.out u hSw).2.1.cell 2; have q3 := (HX.out u hSw).2.1.cell 3; go_simp)⟩) hS ?_
            change wpAnyH _ _ _ _ _ _ _ (Act.put _ (some 80) _) _
            simp only [Act.put]
            refine wpAnyH_take (i := 13) (v := .int .i64 190) rfl (by kernel_rfl) (by kernel_rfl) (by kernel_rfl) (fun _ _ _ h => h) (Or.inl ⟨by kernel_rfl, fun u hSw => (by go_simp)⟩) hS ?_
            change wpAnyH _ _ _ _ _ _ _ (Act.put _ (some 82) _) _
            simp only [Act.put]
            refine wpAnyH_ready (rs := [12]) (by kernel_rfl) (by simp) ?_
            refine AllReadyH.cons rfl (fun K hK => ?_) AllReadyH.nil
            go_simp
            refine (HW1.out _ D).mono ?_
            rintro e3 w3 ⟨Aw2, nw2, cw2, Bw2, mw2, dw2, rfl, Gw2, h9⟩
            replace D := D.trans (h9.mono D.size)
            clear h9
            refine hK.out _ _ D (fun hS => ?_)
            clear hK K
            refine wpAnyH_ready (rs := [14]) (by kernel_rfl) (by simp) ?_
            refine AllReadyH.cons rfl (fun K hK => ?_) AllReadyH.nil
            go_simp
            refine (is_any _ _ _ _ _ _ _ _ _ _ _ _ _ _ _ _ _ _ ((HGs.out _ D).2.1) Gw2 HI2.out).mono ?_
            rintro e4 w4 ⟨rfl, h9⟩
            replace D := D.trans (h9.mono D.size)
            clear Gw2
            clear h9
            refine hK.out _ _ D (fun hS => ?_)
            clear hK K
            refine wpAnyH_take (i := 15) (v := .bool true) rfl (by kernel_rfl) (by kernel_rfl) (by kernel_rfl) (fun _ _ _ h => h) (Or.inl ⟨by kernel_rfl, fun u hSw => (by go_simp)⟩) hS ?_
            change wpAnyH _ _ _ _ _ _ _ (Act.put _ (some 84) _) _
            simp only [Act.put]
            refine wpAnyH_take (i := 16) (v := .bool true) rfl (by kernel_rfl) (by kernel_rfl) (by kernel_rfl) (fun _ _ _ h => h) (Or.inl ⟨by kernel_rfl, fun u hSw => (by go_simp)⟩) hS ?_
            change wpAnyH _ _ _ _ _ _ _ (Act.put _ (some 85) _) _
            simp only [Act.put]
            refine wpAnyH_take (i := 17) (v := .agg #[.slice A10 n10 c10, .slice B10 m10 d10]) rfl (by kernel_rfl) (by kernel_rfl) (by kernel_rfl) (fun _ _ _ h => h) (Or.inl ⟨by kernel_rfl, fun u hSw => (by have q0 := (HX.out u hSw).2.2.2.2.cell 0; have q1 := (HX.out u hSw).2.2.2.2.cell 1; go_simp)⟩) hS ?_
            change wpAnyH _ _ _ _ _ _ _ (Act.put _ (some 86) _) _
            simp only [Act.put]
            refine wpAnyH_take (i := 18) (v := .int .i64 190) rfl (by kernel_rfl) (by kernel_rfl) (by kernel_rfl) (fun _ _ _ h => h) (Or.inl ⟨by kernel_rfl, fun u hSw => (by go_simp)⟩) hS ?_
            change wpAnyH _ _ _ _ _ _ _ (Act.put _ (some 87) _) _
            simp only [Act.put]
            refine wpAnyH_take (i := 19) (v := .agg #[.slice A n c, .slice B m d]) rfl (by kernel_rfl) (by kernel_rfl) (by kernel_rfl) (fun _ _ _ h => h) (Or.inl ⟨by kernel_rfl, fun u hSw => (by have q0 := (HX.out u hSw).1.cell 0; have q1 := (HX.out u hSw).1.cell 1; go_simp)⟩) hS ?_
            change wpAnyH _ _ _ _ _ _ _ (Act.put _ (some 88) _) _
            simp only [Act.put]
            refine wpAnyH_take (i := 20) (v := .pointer (some ⟨w.heap.size + 1, 0, none⟩)) rfl (by kernel_rfl) (by kernel_rfl) (by kernel_rfl) (fun _ _ _ h => h) (Or.inl ⟨by kernel_rfl, fun u hSw => (by go_simp)⟩) hS ?_
            change wpAnyH _ _ _ _ _ _ _ (Act.put _ (some 89) _) _
            simp only [Act.put]
            refine wpAnyH_take (i := 21) (v := .int .i64 x1) rfl (by kernel_rfl) (by kernel_rfl) (by kernel_rfl) (fun _ _ _ h => h) (Or.inl ⟨by kernel_rfl, fun u hSw => (by have q0 := (HX.out u hSw).2.1.cell 0; go_simp)⟩) hS ?_
            change wpAnyH _ _ _ _ _ _ _ (Act.put _ (some 90) _) _
            simp only [Act.put]
            refine wpAnyH_take (i := 23) (v := .int .i64 190) rfl (by kernel_rfl) (by kernel_rfl) (by kernel_rfl) (fun _ _ _ h => h) (Or.inl ⟨by kernel_rfl, fun u hSw => (by go_simp)⟩) hS ?_
            change wpAnyH _ _ _ _ _ _ _ (Act.put _ (some 92) _) _
            simp only [Act.put]
            refine wpAnyH_ready (rs := [22]) (by kernel_rfl) (by simp) ?_
            refine AllReadyH.cons rfl (fun K hK => ?_) AllReadyH.nil
            go_simp
            refine (HW3.out _ D).mono ?_
            rintro e5 w5 ⟨Aw3, nw3, cw3, Bw3, mw3, dw3, rfl, Gw3, h9⟩
            replace D := D.trans (h9.mono D.size)
            clear h9
            refine hK.out _ _ D (fun hS => ?_)
            clear hK K
            refine wpAnyH_ready (rs := [24]) (by kernel_rfl) (by simp) ?_
            refine AllReadyH.cons rfl (fun K hK => ?_) AllReadyH.nil
            go_simp
            refine (is_any _ _ _ _ _ _ _ _ _ _ _ _ _ _ _ _ _ _ ((HGs.out _ D).2.2) Gw3 HI3.out).mono ?_
            rintro e6 w6 ⟨rfl, h9⟩
            replace D := D.trans (h9.mono D.size)
            clear Gw3
            clear h9
            refine hK.out _ _ D (fun hS => ?_)
            clear hK K
            refine wpAnyH_take (i := 25) (v := .bool true) rfl (by kernel_rfl) (by kernel_rfl) (by kernel_rfl) (fun _ _ _ h => h) (Or.inl ⟨by kernel_rfl, fun u hSw => (by go_simp)⟩) hS ?_
            change wpAnyH _ _ _ _ _ _ _ (Act.put _ (some 94) _) _
            simp only [Act.put]
            refine wpAnyH_take (i := 26) (v := .bool true) rfl (by kernel_rfl) (by kernel_rfl) (by kernel_rfl) (fun _ _ _ h => h) (Or.inl ⟨by kernel_rfl, fun u hSw => (by go_simp)⟩) hS ?_
            change wpAnyH _ _ _ _ _ _ _ (Act.put _ (some 4) _) _
            simp only [Act.put]
            refine wpAnyH_done (by kernel_rfl) ?_ _
            clear hS
            have HF := Lib.hid (HB.out _ D)
            clear D
            go_wp2
            go_ret
            exact ⟨rfl, HF.out⟩
      | false =>
        rw [hrd] at HRd
        rcases Option.eq_none_or_eq_some (kf ds x1) with hk | ⟨⟨y1, y2, y3, y4⟩, hk⟩
        · have hth : (kf ds x1).isSome = false := by rw [hk]; rfl
          rw [show domV ds x1 = (zeroD, false) from domV_none hk] at HDm
          obtain ⟨y1, y2, y3, y4, hy⟩ : ∃ y1 y2 y3 y4 : Int, (zeroD : Dom) = (y1, y2, y3, y4) := ⟨0, 0, 0, 0, rfl⟩
          rw [hy] at HDm
          clear hk hQ HOf hy
          have he : E1 = 190 ∧ E2 = 190 ∧ E3 = 190 := by
            have q := HR.out
            unfold createQ changeQ destroyQ at q
            simp [hr] at q
            exact ⟨q.1.2.2.symm, q.2.1.2.2.symm, q.2.2.2.2.symm⟩
          obtain ⟨rfl, rfl, rfl⟩ := he
          clear hr hrd hth
          go_wp2_with fail
          refine (HDm.out _ GB).mono ?_
          rintro e w8 ⟨rfl, h9⟩
          replace K0 := K0.below h9 K0.lt
          replace K1 := K1.below h9 K1.lt
          replace K5 := K5.below h9 K5.lt
          replace K6 := K6.below h9 K6.lt
          replace K8 := K8.below h9 K8.lt
          replace K10 := K10.below h9 K10.lt
          replace G5 := G5.below h9
          replace G6 := G6.below h9
          replace G8 := G8.below h9
          replace G10 := G10.below h9
          replace GB := GB.trans (h9.mono GB.size)
          clear h9
          clear zK00 zK01 zK10
          have K15 := Blk.new w8 27 #[.int .i64 y1, .int .i64 y2, .int .i64 y3, .int .i64 y4]
          replace K0 := K0.alloc (.cells #[.int .i64 y1, .int .i64 y2, .int .i64 y3, .int .i64 y4] 27)
          replace K1 := K1.alloc (.cells #[.int .i64 y1, .int .i64 y2, .int .i64 y3, .int .i64 y4] 27)
          replace K5 := K5.alloc (.cells #[.int .i64 y1, .int .i64 y2, .int .i64 y3, .int .i64 y4] 27)
          replace K6 := K6.alloc (.cells #[.int .i64 y1, .int .i64 y2, .int .i64 y3, .int .i64 y4] 27)
          replace K8 := K8.alloc (.cells #[.int .i64 y1, .int .i64 y2, .int .i64 y3, .int .i64 y4] 27)
          replace K10 := K10.alloc (.cells #[.int .i64 y1, .int .i64 y2, .int .i64 y3, .int .i64 y4] 27)
          replace G5 := G5.below ((Below.refl _ _).alloc (Nat.le_refl _) (.cells #[.int .i64 y1, .int .i64 y2, .int .i64 y3, .int .i64 y4] 27))
          replace G6 := G6.below ((Below.refl _ _).alloc (Nat.le_refl _) (.cells #[.int .i64 y1, .int .i64 y2, .int .i64 y3, .int .i64 y4] 27))
          replace G8 := G8.below ((Below.refl _ _).alloc (Nat.le_refl _) (.cells #[.int .i64 y1, .int .i64 y2, .int .i64 y3, .int .i64 y4] 27))
          replace G10 := G10.below ((Below.refl _ _).alloc (Nat.le_refl _) (.cells #[.int .i64 y1, .int .i64 y2, .int .i64 y3, .int .i64 y4] 27))
          replace GB := GB.alloc GB.size (.cells #[.int .i64 y1, .int .i64 y2, .int .i64 y3, .int .i64 y4] 27)
          clear K15
          have zK10 := K1.cell 0
          have zK11 := K1.cell 1
          have zK12 := K1.cell 2
          have zK13 := K1.cell 3
          go_wp2_with fail
          refine (HRd.out _).mono ?_
          rintro e w9 ⟨rfl, h9⟩
          replace K0 := K0.below h9 K0.lt
          replace K1 := K1.below h9 K1.lt
          replace K5 := K5.below h9 K5.lt
          replace K6 := K6.below h9 K6.lt
          replace K8 := K8.below h9 K8.lt
          replace K10 := K10.below h9 K10.lt
          replace G5 := G5.below h9
          replace G6 := G6.below h9
          replace G8 := G8.below h9
          replace G10 := G10.below h9
          replace GB := GB.trans (h9.mono GB.size)
          clear h9
          clear zK10 zK11 zK12 zK13
          have zK00 := K0.cell 0
          have zK01 := K0.cell 1
          go_wp2_with fail
          refine (HRg.out _ GB).mono ?_
          rintro e w10 ⟨rfl, h9⟩
          replace K0 := K0.below h9 K0.lt
          replace K1 := K1.below h9 K1.lt
          replace K5 := K5.below h9 K5.lt
          replace K6 := K6.below h9 K6.lt
          replace K8 := K8.below h9 K8.lt
          replace K10 := K10.below h9 K10.lt
          replace G5 := G5.below h9
          replace G6 := G6.below h9
          replace G8 := G8.below h9
          replace G10 := G10.below h9
          replace GB := GB.trans (h9.mono GB.size)
          clear h9
          clear zK00 zK01
          go_upto_region 22 with fail
          have HX := Lib.hid (fun (u : World) (h : Below w10.heap.size w10 u) => And.intro (K0.below h K0.lt) (And.intro (K1.below h K1.lt) (And.intro (K6.below h K6.lt) (And.intro (K8.below h K8.lt) (K10.below h K10.lt)))))
          have HGs := Lib.hid (fun (u : World) (h : Below w10.heap.size w10 u) => And.intro (G6.below h) (And.intro (G8.below h) (G10.below h)))
          have HB := Lib.hid (fun (u : World) (h : Below w10.heap.size w10 u) => GB.trans (h.mono GB.size))
          clear K0 K1 K5 K6 K8 K10 G5 G6 G8 G10 GB
          have HW1 : Hid (∀ u, Below w10.heap.size w10 u → Calls Try.prog 20 #[.agg #[.slice A n c, .slice B m d], .agg #[.int .i64 x1, .int .i64 x2, .int .i64 x3, .int .i64 x4]] u (fun e w' => ∃ A n c B m d, e = .returned (.agg #[.slice A n c, .slice B m d]) ∧ GR w' A n c (madeD ds (x1, x2, x3, x4) 0 8) B m d (madeV us zeroV 0 16) ∧ Below u.heap.size u w')) := Lib.hid (fun u h => (rwithD_any A n c ds B m d us x1 x2 x3 x4 u (HG.out.below (HB.out u h))).mono fun _ _ h => h.gr (by have := madeD_len ds (x1, x2, x3, x4) 0 8; omega) (by have := madeV_len us zeroV 0 16; omega) (HUd.out 16))
          have HW3 : Hid (∀ u, Below w10.heap.size w10 u → Calls Try.prog 21 #[.agg #[.slice A n c, .slice B m d], .int .i64 x1] u (fun e w' => ∃ A n c B m d, e = .returned (.agg #[.slice A n c, .slice B m d]) ∧ GR w' A n c (madeD ds zeroD x1 8) B m d (madeV us zeroV 0 16) ∧ Below u.heap.size u w')) := Lib.hid (fun u h => (rwithoutD_any A n c ds B m d us x1 u (HG.out.below (HB.out u h))).mono fun _ _ h => h.gr (by have := madeD_len ds zeroD x1 8; omega) (by have := madeV_len us zeroV 0 16; omega) (HUd.out 16))
          have D := (Below.refl w10.heap.size w10).drew
          refine wp_region_held_drew (S := fun u => Below w10.heap.size w10 u) (by kernel_rfl) D (fun hS => ?_)
          generalize w10.drew = V at D hS ⊢
          refine wpAnyH_take (i := 0) (v := .agg #[.slice A6 n6 c6, .slice B6 m6 d6]) rfl (by kernel_rfl) (by kernel_rfl) (by kernel_rfl) (fun _ _ _ h => h) (Or.inl ⟨by kernel_rfl, fun u hSw => (by have q0 := (HX.out u hSw).2.2.1.cell 0; have q1 := (HX.out u hSw).2.2.1.cell 1; go_simp)⟩) hS ?_
          change wpAnyH _ _ _ _ _ _ _ (Act.put _ (some 69) _) _
          simp only [Act.put]
          refine wpAnyH_take (i := 1) (v := .int .i64 190) rfl (by kernel_rfl) (by kernel_rfl) (by kernel_rfl) (fun _ _ _ h => h) (Or.inl ⟨by kernel_rfl, fun u hSw => (by go_simp)⟩) hS ?_
          change wpAnyH _ _ _ _ _ _ _ (Act.put _ (some 70) _) _
          simp only [Act.put]
          refine wpAnyH_take (i := 2) (v := .agg #[.slice A n c, .slice B m d]) rfl (by kernel_rfl) (by kernel_rfl) (by kernel_rfl) (fun _ _ _ h => h) (Or.inl ⟨by kernel_rfl, fun u hSw => (by have q0 := (HX.out u hSw).1.cell 0; have q1 := (HX.out u hSw).1.cell 1; go_simp)⟩) hS ?_
          change wpAnyH _ _ _ _ _ _ _ (Act.put _ (some 71) _) _
          simp only [Act.put]
          refine wpAnyH_take (i := 3) (v := .agg #[.int .i64 x1, .int .i64 x2, .int .i64 x3, .int .i64 x4]) rfl (by kernel_rfl) (by kernel_rfl) (by kernel_rfl) (fun _ _ _ h => h) (Or.inl ⟨by kernel_rfl, fun u hSw => (by have q0 := (HX.out u hSw).2.1.cell 0; have q1 := (HX.out u hSw).2.1.cell 1; have q2 := (HX.out u hSw).2.1.cell 2; have q3 := (HX.out u hSw).2.1.cell 3; go_simp)⟩) hS ?_
          change wpAnyH _ _ _ _ _ _ _ (Act.put _ (some 72) _) _
          simp only [Act.put]
          refine wpAnyH_take (i := 5) (v := .int .i64 190) rfl (by kernel_rfl) (by kernel_rfl) (by kernel_rfl) (fun _ _ _ h => h) (Or.inl ⟨by kernel_rfl, fun u hSw => (by go_simp)⟩) hS ?_
          change wpAnyH _ _ _ _ _ _ _ (Act.put _ (some 74) _) _
          simp only [Act.put]
          refine wpAnyH_ready (rs := [4]) (by kernel_rfl) (by simp) ?_
          refine AllReadyH.cons rfl (fun K hK => ?_) AllReadyH.nil
          go_simp
          refine (HW1.out _ D).mono ?_
          rintro e1 w1 ⟨Aw1, nw1, cw1, Bw1, mw1, dw1, rfl, Gw1, h9⟩
          replace D := D.trans (h9.mono D.size)
          clear h9
          refine hK.out _ _ D (fun hS => ?_)
          clear hK K
          refine wpAnyH_ready (rs := [6]) (by kernel_rfl) (by simp) ?_
          refine AllReadyH.cons rfl (fun K hK => ?_) AllReadyH.nil
          go_simp
          refine (is_any _ _ _ _ _ _ _ _ _ _ _ _ _ _ _ _ _ _ ((HGs.out _ D).1) Gw1 HI1.out).mono ?_
          rintro e2 w2 ⟨rfl, h9⟩
          replace D := D.trans (h9.mono D.size)
          clear Gw1
          clear h9
          refine hK.out _ _ D (fun hS => ?_)
          clear hK K
          refine wpAnyH_take (i := 7) (v := .bool true) rfl (by kernel_rfl) (by kernel_rfl) (by kernel_rfl) (fun _ _ _ h => h) (Or.inl ⟨by kernel_rfl, fun u hSw => (by go_simp)⟩) hS ?_
          change wpAnyH _ _ _ _ _ _ _ (Act.put _ (some 76) _) _
          simp only [Act.put]
          refine wpAnyH_take (i := 8) (v := .agg #[.slice A8 n8 c8, .slice B8 m8 d8]) rfl (by kernel_rfl) (by kernel_rfl) (by kernel_rfl) (fun _ _ _ h => h) (Or.inl ⟨by kernel_rfl, fun u hSw => (by have q0 := (HX.out u hSw).2.2.2.1.cell 0; have q1 := (HX.out u hSw).2.2.2.1.cell 1; go_simp)⟩) hS ?_
          change wpAnyH _ _ _ _ _ _ _ (Act.put _ (some 77) _) _
          simp only [Act.put]
          refine wpAnyH_take (i := 9) (v := .int .i64 190) rfl (by kernel_rfl) (by kernel_rfl) (by kernel_rfl) (fun _ _ _ h => h) (Or.inl ⟨by kernel_rfl, fun u hSw => (by go_simp)⟩) hS ?_
          change wpAnyH _ _ _ _ _ _ _ (Act.put _ (some 78) _) _
          simp only [Act.put]
          refine wpAnyH_take (i := 10) (v := .agg #[.slice A n c, .slice B m d]) rfl (by kernel_rfl) (by kernel_rfl) (by kernel_rfl) (fun _ _ _ h => h) (Or.inl ⟨by kernel_rfl, fun u hSw => (by have q0 := (HX.out u hSw).1.cell 0; have q1 := (HX.out u hSw).1.cell 1; go_simp)⟩) hS ?_
          change wpAnyH _ _ _ _ _ _ _ (Act.put _ (some 79) _) _
          simp only [Act.put]
          refine wpAnyH_take (i := 11) (v := .agg #[.int .i64 x1, .int .i64 x2, .int .i64 x3, .int .i64 x4]) rfl (by kernel_rfl) (by kernel_rfl) (by kernel_rfl) (fun _ _ _ h => h) (Or.inl ⟨by kernel_rfl, fun u hSw => (by have q0 := (HX.out u hSw).2.1.cell 0; have q1 := (HX.out u hSw).2.1.cell 1; have q2 := (HX.out u hSw).2.1.cell 2; have q3 := (HX.out u hSw).2.1.cell 3; go_simp)⟩) hS ?_
          change wpAnyH _ _ _ _ _ _ _ (Act.put _ (some 80) _) _
          simp only [Act.put]
          refine wpAnyH_take (i := 13) (v := .int .i64 190) rfl (by kernel_rfl) (by kernel_rfl) (by kernel_rfl) (fun _ _ _ h => h) (Or.inl ⟨by kernel_rfl, fun u hSw => (by go_simp)⟩) hS ?_
          change wpAnyH _ _ _ _ _ _ _ (Act.put _ (some 82) _) _
          simp only [Act.put]
          refine wpAnyH_ready (rs := [12]) (by kernel_rfl) (by simp) ?_
          refine AllReadyH.cons rfl (fun K hK => ?_) AllReadyH.nil
          go_simp
          refine (HW1.out _ D).mono ?_
          rintro e3 w3 ⟨Aw2, nw2, cw2, Bw2, mw2, dw2, rfl, Gw2, h9⟩
          replace D := D.trans (h9.mono D.size)
          clear h9
          refine hK.out _ _ D (fun hS => ?_)
          clear hK K
          refine wpAnyH_ready (rs := [14]) (by kernel_rfl) (by simp) ?_
          refine AllReadyH.cons rfl (fun K hK => ?_) AllReadyH.nil
          go_simp
          refine (is_any _ _ _ _ _ _ _ _ _ _ _ _ _ _ _ _ _ _ ((HGs.out _ D).2.1) Gw2 HI2.out).mono ?_
          rintro e4 w4 ⟨rfl, h9⟩
          replace D := D.trans (h9.mono D.size)
          clear Gw2
          clear h9
          refine hK.out _ _ D (fun hS => ?_)
          clear hK K
          refine wpAnyH_take (i := 15) (v := .bool true) rfl (by kernel_rfl) (by kernel_rfl) (by kernel_rfl) (fun _ _ _ h => h) (Or.inl ⟨by kernel_rfl, fun u hSw => (by go_simp)⟩) hS ?_
          change wpAnyH _ _ _ _ _ _ _ (Act.put _ (some 84) _) _
          simp only [Act.put]
          refine wpAnyH_take (i := 16) (v := .bool true) rfl (by kernel_rfl) (by kernel_rfl) (by kernel_rfl) (fun _ _ _ h => h) (Or.inl ⟨by kernel_rfl, fun u hSw => (by go_simp)⟩) hS ?_
          change wpAnyH _ _ _ _ _ _ _ (Act.put _ (some 85) _) _
          simp only [Act.put]
          refine wpAnyH_take (i := 17) (v := .agg #[.slice A10 n10 c10, .slice B10 m10 d10]) rfl (by kernel_rfl) (by kernel_rfl) (by kernel_rfl) (fun _ _ _ h => h) (Or.inl ⟨by kernel_rfl, fun u hSw => (by have q0 := (HX.out u hSw).2.2.2.2.cell 0; have q1 := (HX.out u hSw).2.2.2.2.cell 1; go_simp)⟩) hS ?_
          change wpAnyH _ _ _ _ _ _ _ (Act.put _ (some 86) _) _
          simp only [Act.put]
          refine wpAnyH_take (i := 18) (v := .int .i64 190) rfl (by kernel_rfl) (by kernel_rfl) (by kernel_rfl) (fun _ _ _ h => h) (Or.inl ⟨by kernel_rfl, fun u hSw => (by go_simp)⟩) hS ?_
          change wpAnyH _ _ _ _ _ _ _ (Act.put _ (some 87) _) _
          simp only [Act.put]
          refine wpAnyH_take (i := 19) (v := .agg #[.slice A n c, .slice B m d]) rfl (by kernel_rfl) (by kernel_rfl) (by kernel_rfl) (fun _ _ _ h => h) (Or.inl ⟨by kernel_rfl, fun u hSw => (by have q0 := (HX.out u hSw).1.cell 0; have q1 := (HX.out u hSw).1.cell 1; go_simp)⟩) hS ?_
          change wpAnyH _ _ _ _ _ _ _ (Act.put _ (some 88) _) _
          simp only [Act.put]
          refine wpAnyH_take (i := 20) (v := .pointer (some ⟨w.heap.size + 1, 0, none⟩)) rfl (by kernel_rfl) (by kernel_rfl) (by kernel_rfl) (fun _ _ _ h => h) (Or.inl ⟨by kernel_rfl, fun u hSw => (by go_simp)⟩) hS ?_
          change wpAnyH _ _ _ _ _ _ _ (Act.put _ (some 89) _) _
          simp only [Act.put]
          refine wpAnyH_take (i := 21) (v := .int .i64 x1) rfl (by kernel_rfl) (by kernel_rfl) (by kernel_rfl) (fun _ _ _ h => h) (Or.inl ⟨by kernel_rfl, fun u hSw => (by have q0 := (HX.out u hSw).2.1.cell 0; go_simp)⟩) hS ?_
          change wpAnyH _ _ _ _ _ _ _ (Act.put _ (some 90) _) _
          simp only [Act.put]
          refine wpAnyH_take (i := 23) (v := .int .i64 190) rfl (by kernel_rfl) (by kernel_rfl) (by kernel_rfl) (fun _ _ _ h => h) (Or.inl ⟨by kernel_rfl, fun u hSw => (by go_simp)⟩) hS ?_
          change wpAnyH _ _ _ _ _ _ _ (Act.put _ (some 92) _) _
          simp only [Act.put]
          refine wpAnyH_ready (rs := [22]) (by kernel_rfl) (by simp) ?_
          refine AllReadyH.cons rfl (fun K hK => ?_) AllReadyH.nil
          go_simp
          refine (HW3.out _ D).mono ?_
          rintro e5 w5 ⟨Aw3, nw3, cw3, Bw3, mw3, dw3, rfl, Gw3, h9⟩
          replace D := D.trans (h9.mono D.size)
          clear h9
          refine hK.out _ _ D (fun hS => ?_)
          clear hK K
          refine wpAnyH_ready (rs := [24]) (by kernel_rfl) (by simp) ?_
          refine AllReadyH.cons rfl (fun K hK => ?_) AllReadyH.nil
          go_simp
          refine (is_any _ _ _ _ _ _ _ _ _ _ _ _ _ _ _ _ _ _ ((HGs.out _ D).2.2) Gw3 HI3.out).mono ?_
          rintro e6 w6 ⟨rfl, h9⟩
          replace D := D.trans (h9.mono D.size)
          clear Gw3
          clear h9
          refine hK.out _ _ D (fun hS => ?_)
          clear hK K
          refine wpAnyH_take (i := 25) (v := .bool true) rfl (by kernel_rfl) (by kernel_rfl) (by kernel_rfl) (fun _ _ _ h => h) (Or.inl ⟨by kernel_rfl, fun u hSw => (by go_simp)⟩) hS ?_
          change wpAnyH _ _ _ _ _ _ _ (Act.put _ (some 94) _) _
          simp only [Act.put]
          refine wpAnyH_take (i := 26) (v := .bool true) rfl (by kernel_rfl) (by kernel_rfl) (by kernel_rfl) (fun _ _ _ h => h) (Or.inl ⟨by kernel_rfl, fun u hSw => (by go_simp)⟩) hS ?_
          change wpAnyH _ _ _ _ _ _ _ (Act.put _ (some 4) _) _
          simp only [Act.put]
          refine wpAnyH_done (by kernel_rfl) ?_ _
          clear hS
          have HF := Lib.hid (HB.out _ D)
          clear D
          go_wp2
          go_ret
          exact ⟨rfl, HF.out⟩
        · have hth : (kf ds x1).isSome = true := by rw [hk]; rfl
          rw [show domV ds x1 = ((y1, y2, y3, y4), true) from domV_some hk] at HDm
          by_cases hbz : 0 < (ofL us x1).length
          · have b1 : decide ((0 : Int) < (Q : Int)) = true := decide_eq_true (by omega)
            have b2 : decide (0 < Q) = true := decide_eq_true (by omega)
            clear hk hQ
            have he : E1 = 190 ∧ E2 = 190 ∧ E3 = 190 := by
              have q := HR.out
              unfold createQ changeQ destroyQ at q
              simp [hr] at q
              exact ⟨q.1.2.2.symm, q.2.1.2.2.symm, q.2.2.2.2.symm⟩
            obtain ⟨rfl, rfl, rfl⟩ := he
            clear hr hrd hth hbz
            go_wp2_with fail
            refine (HDm.out _ GB).mono ?_
            rintro e w8 ⟨rfl, h9⟩
            replace K0 := K0.below h9 K0.lt
            replace K1 := K1.below h9 K1.lt
            replace K5 := K5.below h9 K5.lt
            replace K6 := K6.below h9 K6.lt
            replace K8 := K8.below h9 K8.lt
            replace K10 := K10.below h9 K10.lt
            replace G5 := G5.below h9
            replace G6 := G6.below h9
            replace G8 := G8.below h9
            replace G10 := G10.below h9
            replace GB := GB.trans (h9.mono GB.size)
            clear h9
            clear zK00 zK01 zK10
            have K15 := Blk.new w8 27 #[.int .i64 y1, .int .i64 y2, .int .i64 y3, .int .i64 y4]
            replace K0 := K0.alloc (.cells #[.int .i64 y1, .int .i64 y2, .int .i64 y3, .int .i64 y4] 27)
            replace K1 := K1.alloc (.cells #[.int .i64 y1, .int .i64 y2, .int .i64 y3, .int .i64 y4] 27)
            replace K5 := K5.alloc (.cells #[.int .i64 y1, .int .i64 y2, .int .i64 y3, .int .i64 y4] 27)
            replace K6 := K6.alloc (.cells #[.int .i64 y1, .int .i64 y2, .int .i64 y3, .int .i64 y4] 27)
            replace K8 := K8.alloc (.cells #[.int .i64 y1, .int .i64 y2, .int .i64 y3, .int .i64 y4] 27)
            replace K10 := K10.alloc (.cells #[.int .i64 y1, .int .i64 y2, .int .i64 y3, .int .i64 y4] 27)
            replace G5 := G5.below ((Below.refl _ _).alloc (Nat.le_refl _) (.cells #[.int .i64 y1, .int .i64 y2, .int .i64 y3, .int .i64 y4] 27))
            replace G6 := G6.below ((Below.refl _ _).alloc (Nat.le_refl _) (.cells #[.int .i64 y1, .int .i64 y2, .int .i64 y3, .int .i64 y4] 27))
            replace G8 := G8.below ((Below.refl _ _).alloc (Nat.le_refl _) (.cells #[.int .i64 y1, .int .i64 y2, .int .i64 y3, .int .i64 y4] 27))
            replace G10 := G10.below ((Below.refl _ _).alloc (Nat.le_refl _) (.cells #[.int .i64 y1, .int .i64 y2, .int .i64 y3, .int .i64 y4] 27))
            replace GB := GB.alloc GB.size (.cells #[.int .i64 y1, .int .i64 y2, .int .i64 y3, .int .i64 y4] 27)
            clear K15
            have zK10 := K1.cell 0
            have zK11 := K1.cell 1
            have zK12 := K1.cell 2
            have zK13 := K1.cell 3
            go_wp2_with fail
            refine (HRd.out _).mono ?_
            rintro e w9 ⟨rfl, h9⟩
            replace K0 := K0.below h9 K0.lt
            replace K1 := K1.below h9 K1.lt
            replace K5 := K5.below h9 K5.lt
            replace K6 := K6.below h9 K6.lt
            replace K8 := K8.below h9 K8.lt
            replace K10 := K10.below h9 K10.lt
            replace G5 := G5.below h9
            replace G6 := G6.below h9
            replace G8 := G8.below h9
            replace G10 := G10.below h9
            replace GB := GB.trans (h9.mono GB.size)
            clear h9
            clear zK10 zK11 zK12 zK13
            have zK00 := K0.cell 0
            have zK01 := K0.cell 1
            have zK10 := K1.cell 0
            go_wp2_with fail
            refine (HOf.out _ GB).mono ?_
            rintro e w10 ⟨Af, cf, rfl, q1, q2, h9⟩
            rw [HQ.out]
            replace K0 := K0.below h9 K0.lt
            replace K1 := K1.below h9 K1.lt
            replace K5 := K5.below h9 K5.lt
            replace K6 := K6.below h9 K6.lt
            replace K8 := K8.below h9 K8.lt
            replace K10 := K10.below h9 K10.lt
            replace G5 := G5.below h9
            replace G6 := G6.below h9
            replace G8 := G8.below h9
            replace G10 := G10.below h9
            replace GB := GB.trans (h9.mono GB.size)
            clear h9 q1 q2
            clear zK00 zK01 zK10
            have zK00 := K0.cell 0
            have zK01 := K0.cell 1
            go_wp2_with fail
            refine (HRg.out _ GB).mono ?_
            rintro e w11 ⟨rfl, h9⟩
            replace K0 := K0.below h9 K0.lt
            replace K1 := K1.below h9 K1.lt
            replace K5 := K5.below h9 K5.lt
            replace K6 := K6.below h9 K6.lt
            replace K8 := K8.below h9 K8.lt
            replace K10 := K10.below h9 K10.lt
            replace G5 := G5.below h9
            replace G6 := G6.below h9
            replace G8 := G8.below h9
            replace G10 := G10.below h9
            replace GB := GB.trans (h9.mono GB.size)
            clear h9
            clear zK00 zK01
            go_upto_region 22 with fail
            have HX := Lib.hid (fun (u : World) (h : Below w11.heap.size w11 u) => And.intro (K0.below h K0.lt) (And.intro (K1.below h K1.lt) (And.intro (K6.below h K6.lt) (And.intro (K8.below h K8.lt) (K10.below h K10.lt)))))
            have HGs := Lib.hid (fun (u : World) (h : Below w11.heap.size w11 u) => And.intro (G6.below h) (And.intro (G8.below h) (G10.below h)))
            have HB := Lib.hid (fun (u : World) (h : Below w11.heap.size w11 u) => GB.trans (h.mono GB.size))
            clear K0 K1 K5 K6 K8 K10 G5 G6 G8 G10 GB
            have HW1 : Hid (∀ u, Below w11.heap.size w11 u → Calls Try.prog 20 #[.agg #[.slice A n c, .slice B m d], .agg #[.int .i64 x1, .int .i64 x2, .int .i64 x3, .int .i64 x4]] u (fun e w' => ∃ A n c B m d, e = .returned (.agg #[.slice A n c, .slice B m d]) ∧ GR w' A n c (madeD ds (x1, x2, x3, x4) 0 8) B m d (madeV us zeroV 0 16) ∧ Below u.heap.size u w')) := Lib.hid (fun u h => (rwithD_any A n c ds B m d us x1 x2 x3 x4 u (HG.out.below (HB.out u h))).mono fun _ _ h => h.gr (by have := madeD_len ds (x1, x2, x3, x4) 0 8; omega) (by have := madeV_len us zeroV 0 16; omega) (HUd.out 16))
            have HW3 : Hid (∀ u, Below w11.heap.size w11 u → Calls Try.prog 21 #[.agg #[.slice A n c, .slice B m d], .int .i64 x1] u (fun e w' => ∃ A n c B m d, e = .returned (.agg #[.slice A n c, .slice B m d]) ∧ GR w' A n c (madeD ds zeroD x1 8) B m d (madeV us zeroV 0 16) ∧ Below u.heap.size u w')) := Lib.hid (fun u h => (rwithoutD_any A n c ds B m d us x1 u (HG.out.below (HB.out u h))).mono fun _ _ h => h.gr (by have := madeD_len ds zeroD x1 8; omega) (by have := madeV_len us zeroV 0 16; omega) (HUd.out 16))
            have D := (Below.refl w11.heap.size w11).drew
            refine wp_region_held_drew (S := fun u => Below w11.heap.size w11 u) (by kernel_rfl) D (fun hS => ?_)
            generalize w11.drew = V at D hS ⊢
            refine wpAnyH_take (i := 0) (v := .agg #[.slice A6 n6 c6, .slice B6 m6 d6]) rfl (by kernel_rfl) (by kernel_rfl) (by kernel_rfl) (fun _ _ _ h => h) (Or.inl ⟨by kernel_rfl, fun u hSw => (by have q0 := (HX.out u hSw).2.2.1.cell 0; have q1 := (HX.out u hSw).2.2.1.cell 1; go_simp)⟩) hS ?_
            change wpAnyH _ _ _ _ _ _ _ (Act.put _ (some 69) _) _
            simp only [Act.put]
            refine wpAnyH_take (i := 1) (v := .int .i64 190) rfl (by kernel_rfl) (by kernel_rfl) (by kernel_rfl) (fun _ _ _ h => h) (Or.inl ⟨by kernel_rfl, fun u hSw => (by go_simp)⟩) hS ?_
            change wpAnyH _ _ _ _ _ _ _ (Act.put _ (some 70) _) _
            simp only [Act.put]
            refine wpAnyH_take (i := 2) (v := .agg #[.slice A n c, .slice B m d]) rfl (by kernel_rfl) (by kernel_rfl) (by kernel_rfl) (fun _ _ _ h => h) (Or.inl ⟨by kernel_rfl, fun u hSw => (by have q0 := (HX.out u hSw).1.cell 0; have q1 := (HX.out u hSw).1.cell 1; go_simp)⟩) hS ?_
            change wpAnyH _ _ _ _ _ _ _ (Act.put _ (some 71) _) _
            simp only [Act.put]
            refine wpAnyH_take (i := 3) (v := .agg #[.int .i64 x1, .int .i64 x2, .int .i64 x3, .int .i64 x4]) rfl (by kernel_rfl) (by kernel_rfl) (by kernel_rfl) (fun _ _ _ h => h) (Or.inl ⟨by kernel_rfl, fun u hSw => (by have q0 := (HX.out u hSw).2.1.cell 0; have q1 := (HX.out u hSw).2.1.cell 1; have q2 := (HX.out u hSw).2.1.cell 2; have q3 := (HX.out u hSw).2.1.cell 3; go_simp)⟩) hS ?_
            change wpAnyH _ _ _ _ _ _ _ (Act.put _ (some 72) _) _
            simp only [Act.put]
            refine wpAnyH_take (i := 5) (v := .int .i64 190) rfl (by kernel_rfl) (by kernel_rfl) (by kernel_rfl) (fun _ _ _ h => h) (Or.inl ⟨by kernel_rfl, fun u hSw => (by go_simp)⟩) hS ?_
            change wpAnyH _ _ _ _ _ _ _ (Act.put _ (some 74) _) _
            simp only [Act.put]
            refine wpAnyH_ready (rs := [4]) (by kernel_rfl) (by simp) ?_
            refine AllReadyH.cons rfl (fun K hK => ?_) AllReadyH.nil
            go_simp
            refine (HW1.out _ D).mono ?_
            rintro e1 w1 ⟨Aw1, nw1, cw1, Bw1, mw1, dw1, rfl, Gw1, h9⟩
            replace D := D.trans (h9.mono D.size)
            clear h9
            refine hK.out _ _ D (fun hS => ?_)
            clear hK K
            refine wpAnyH_ready (rs := [6]) (by kernel_rfl) (by simp) ?_
            refine AllReadyH.cons rfl (fun K hK => ?_) AllReadyH.nil
            go_simp
            refine (is_any _ _ _ _ _ _ _ _ _ _ _ _ _ _ _ _ _ _ ((HGs.out _ D).1) Gw1 HI1.out).mono ?_
            rintro e2 w2 ⟨rfl, h9⟩
            replace D := D.trans (h9.mono D.size)
            clear Gw1
            clear h9
            refine hK.out _ _ D (fun hS => ?_)
            clear hK K
            refine wpAnyH_take (i := 7) (v := .bool true) rfl (by kernel_rfl) (by kernel_rfl) (by kernel_rfl) (fun _ _ _ h => h) (Or.inl ⟨by kernel_rfl, fun u hSw => (by go_simp)⟩) hS ?_
            change wpAnyH _ _ _ _ _ _ _ (Act.put _ (some 76) _) _
            simp only [Act.put]
            refine wpAnyH_take (i := 8) (v := .agg #[.slice A8 n8 c8, .slice B8 m8 d8]) rfl (by kernel_rfl) (by kernel_rfl) (by kernel_rfl) (fun _ _ _ h => h) (Or.inl ⟨by kernel_rfl, fun u hSw => (by have q0 := (HX.out u hSw).2.2.2.1.cell 0; have q1 := (HX.out u hSw).2.2.2.1.cell 1; go_simp)⟩) hS ?_
            change wpAnyH _ _ _ _ _ _ _ (Act.put _ (some 77) _) _
            simp only [Act.put]
            refine wpAnyH_take (i := 9) (v := .int .i64 190) rfl (by kernel_rfl) (by kernel_rfl) (by kernel_rfl) (fun _ _ _ h => h) (Or.inl ⟨by kernel_rfl, fun u hSw => (by go_simp)⟩) hS ?_
            change wpAnyH _ _ _ _ _ _ _ (Act.put _ (some 78) _) _
            simp only [Act.put]
            refine wpAnyH_take (i := 10) (v := .agg #[.slice A n c, .slice B m d]) rfl (by kernel_rfl) (by kernel_rfl) (by kernel_rfl) (fun _ _ _ h => h) (Or.inl ⟨by kernel_rfl, fun u hSw => (by have q0 := (HX.out u hSw).1.cell 0; have q1 := (HX.out u hSw).1.cell 1; go_simp)⟩) hS ?_
            change wpAnyH _ _ _ _ _ _ _ (Act.put _ (some 79) _) _
            simp only [Act.put]
            refine wpAnyH_take (i := 11) (v := .agg #[.int .i64 x1, .int .i64 x2, .int .i64 x3, .int .i64 x4]) rfl (by kernel_rfl) (by kernel_rfl) (by kernel_rfl) (fun _ _ _ h => h) (Or.inl ⟨by kernel_rfl, fun u hSw => (by have q0 := (HX.out u hSw).2.1.cell 0; have q1 := (HX.out u hSw).2.1.cell 1; have q2 := (HX.out u hSw).2.1.cell 2; have q3 := (HX.out u hSw).2.1.cell 3; go_simp)⟩) hS ?_
            change wpAnyH _ _ _ _ _ _ _ (Act.put _ (some 80) _) _
            simp only [Act.put]
            refine wpAnyH_take (i := 13) (v := .int .i64 190) rfl (by kernel_rfl) (by kernel_rfl) (by kernel_rfl) (fun _ _ _ h => h) (Or.inl ⟨by kernel_rfl, fun u hSw => (by go_simp)⟩) hS ?_
            change wpAnyH _ _ _ _ _ _ _ (Act.put _ (some 82) _) _
            simp only [Act.put]
            refine wpAnyH_ready (rs := [12]) (by kernel_rfl) (by simp) ?_
            refine AllReadyH.cons rfl (fun K hK => ?_) AllReadyH.nil
            go_simp
            refine (HW1.out _ D).mono ?_
            rintro e3 w3 ⟨Aw2, nw2, cw2, Bw2, mw2, dw2, rfl, Gw2, h9⟩
            replace D := D.trans (h9.mono D.size)
            clear h9
            refine hK.out _ _ D (fun hS => ?_)
            clear hK K
            refine wpAnyH_ready (rs := [14]) (by kernel_rfl) (by simp) ?_
            refine AllReadyH.cons rfl (fun K hK => ?_) AllReadyH.nil
            go_simp
            refine (is_any _ _ _ _ _ _ _ _ _ _ _ _ _ _ _ _ _ _ ((HGs.out _ D).2.1) Gw2 HI2.out).mono ?_
            rintro e4 w4 ⟨rfl, h9⟩
            replace D := D.trans (h9.mono D.size)
            clear Gw2
            clear h9
            refine hK.out _ _ D (fun hS => ?_)
            clear hK K
            refine wpAnyH_take (i := 15) (v := .bool true) rfl (by kernel_rfl) (by kernel_rfl) (by kernel_rfl) (fun _ _ _ h => h) (Or.inl ⟨by kernel_rfl, fun u hSw => (by go_simp)⟩) hS ?_
            change wpAnyH _ _ _ _ _ _ _ (Act.put _ (some 84) _) _
            simp only [Act.put]
            refine wpAnyH_take (i := 16) (v := .bool true) rfl (by kernel_rfl) (by kernel_rfl) (by kernel_rfl) (fun _ _ _ h => h) (Or.inl ⟨by kernel_rfl, fun u hSw => (by go_simp)⟩) hS ?_
            change wpAnyH _ _ _ _ _ _ _ (Act.put _ (some 85) _) _
            simp only [Act.put]
            refine wpAnyH_take (i := 17) (v := .agg #[.slice A10 n10 c10, .slice B10 m10 d10]) rfl (by kernel_rfl) (by kernel_rfl) (by kernel_rfl) (fun _ _ _ h => h) (Or.inl ⟨by kernel_rfl, fun u hSw => (by have q0 := (HX.out u hSw).2.2.2.2.cell 0; have q1 := (HX.out u hSw).2.2.2.2.cell 1; go_simp)⟩) hS ?_
            change wpAnyH _ _ _ _ _ _ _ (Act.put _ (some 86) _) _
            simp only [Act.put]
            refine wpAnyH_take (i := 18) (v := .int .i64 190) rfl (by kernel_rfl) (by kernel_rfl) (by kernel_rfl) (fun _ _ _ h => h) (Or.inl ⟨by kernel_rfl, fun u hSw => (by go_simp)⟩) hS ?_
            change wpAnyH _ _ _ _ _ _ _ (Act.put _ (some 87) _) _
            simp only [Act.put]
            refine wpAnyH_take (i := 19) (v := .agg #[.slice A n c, .slice B m d]) rfl (by kernel_rfl) (by kernel_rfl) (by kernel_rfl) (fun _ _ _ h => h) (Or.inl ⟨by kernel_rfl, fun u hSw => (by have q0 := (HX.out u hSw).1.cell 0; have q1 := (HX.out u hSw).1.cell 1; go_simp)⟩) hS ?_
            change wpAnyH _ _ _ _ _ _ _ (Act.put _ (some 88) _) _
            simp only [Act.put]
            refine wpAnyH_take (i := 20) (v := .pointer (some ⟨w.heap.size + 1, 0, none⟩)) rfl (by kernel_rfl) (by kernel_rfl) (by kernel_rfl) (fun _ _ _ h => h) (Or.inl ⟨by kernel_rfl, fun u hSw => (by go_simp)⟩) hS ?_
            change wpAnyH _ _ _ _ _ _ _ (Act.put _ (some 89) _) _
            simp only [Act.put]
            refine wpAnyH_take (i := 21) (v := .int .i64 x1) rfl (by kernel_rfl) (by kernel_rfl) (by kernel_rfl) (fun _ _ _ h => h) (Or.inl ⟨by kernel_rfl, fun u hSw => (by have q0 := (HX.out u hSw).2.1.cell 0; go_simp)⟩) hS ?_
            change wpAnyH _ _ _ _ _ _ _ (Act.put _ (some 90) _) _
            simp only [Act.put]
            refine wpAnyH_take (i := 23) (v := .int .i64 190) rfl (by kernel_rfl) (by kernel_rfl) (by kernel_rfl) (fun _ _ _ h => h) (Or.inl ⟨by kernel_rfl, fun u hSw => (by go_simp)⟩) hS ?_
            change wpAnyH _ _ _ _ _ _ _ (Act.put _ (some 92) _) _
            simp only [Act.put]
            refine wpAnyH_ready (rs := [22]) (by kernel_rfl) (by simp) ?_
            refine AllReadyH.cons rfl (fun K hK => ?_) AllReadyH.nil
            go_simp
            refine (HW3.out _ D).mono ?_
            rintro e5 w5 ⟨Aw3, nw3, cw3, Bw3, mw3, dw3, rfl, Gw3, h9⟩
            replace D := D.trans (h9.mono D.size)
            clear h9
            refine hK.out _ _ D (fun hS => ?_)
            clear hK K
            refine wpAnyH_ready (rs := [24]) (by kernel_rfl) (by simp) ?_
            refine AllReadyH.cons rfl (fun K hK => ?_) AllReadyH.nil
            go_simp
            refine (is_any _ _ _ _ _ _ _ _ _ _ _ _ _ _ _ _ _ _ ((HGs.out _ D).2.2) Gw3 HI3.out).mono ?_
            rintro e6 w6 ⟨rfl, h9⟩
            replace D := D.trans (h9.mono D.size)
            clear Gw3
            clear h9
            refine hK.out _ _ D (fun hS => ?_)
            clear hK K
            refine wpAnyH_take (i := 25) (v := .bool true) rfl (by kernel_rfl) (by kernel_rfl) (by kernel_rfl) (fun _ _ _ h => h) (Or.inl ⟨by kernel_rfl, fun u hSw => (by go_simp)⟩) hS ?_
            change wpAnyH _ _ _ _ _ _ _ (Act.put _ (some 94) _) _
            simp only [Act.put]
            refine wpAnyH_take (i := 26) (v := .bool true) rfl (by kernel_rfl) (by kernel_rfl) (by kernel_rfl) (fun _ _ _ h => h) (Or.inl ⟨by kernel_rfl, fun u hSw => (by go_simp)⟩) hS ?_
            change wpAnyH _ _ _ _ _ _ _ (Act.put _ (some 4) _) _
            simp only [Act.put]
            refine wpAnyH_done (by kernel_rfl) ?_ _
            clear hS
            have HF := Lib.hid (HB.out _ D)
            clear D
            go_wp2
            go_ret
            exact ⟨rfl, HF.out⟩
          · have b1 : decide ((0 : Int) < (Q : Int)) = false := decide_eq_false (by omega)
            have b2 : decide (0 < Q) = false := decide_eq_false (by omega)
            clear hk hQ
            have he : E1 = 190 ∧ E2 = 190 ∧ E3 = 190 := by
              have q := HR.out
              unfold createQ changeQ destroyQ at q
              simp [hr] at q
              exact ⟨q.1.2.2.symm, q.2.1.2.2.symm, q.2.2.2.2.symm⟩
            obtain ⟨rfl, rfl, rfl⟩ := he
            clear hr hrd hth hbz
            go_wp2_with fail
            refine (HDm.out _ GB).mono ?_
            rintro e w8 ⟨rfl, h9⟩
            replace K0 := K0.below h9 K0.lt
            replace K1 := K1.below h9 K1.lt
            replace K5 := K5.below h9 K5.lt
            replace K6 := K6.below h9 K6.lt
            replace K8 := K8.below h9 K8.lt
            replace K10 := K10.below h9 K10.lt
            replace G5 := G5.below h9
            replace G6 := G6.below h9
            replace G8 := G8.below h9
            replace G10 := G10.below h9
            replace GB := GB.trans (h9.mono GB.size)
            clear h9
            clear zK00 zK01 zK10
            have K15 := Blk.new w8 27 #[.int .i64 y1, .int .i64 y2, .int .i64 y3, .int .i64 y4]
            replace K0 := K0.alloc (.cells #[.int .i64 y1, .int .i64 y2, .int .i64 y3, .int .i64 y4] 27)
            replace K1 := K1.alloc (.cells #[.int .i64 y1, .int .i64 y2, .int .i64 y3, .int .i64 y4] 27)
            replace K5 := K5.alloc (.cells #[.int .i64 y1, .int .i64 y2, .int .i64 y3, .int .i64 y4] 27)
            replace K6 := K6.alloc (.cells #[.int .i64 y1, .int .i64 y2, .int .i64 y3, .int .i64 y4] 27)
            replace K8 := K8.alloc (.cells #[.int .i64 y1, .int .i64 y2, .int .i64 y3, .int .i64 y4] 27)
            replace K10 := K10.alloc (.cells #[.int .i64 y1, .int .i64 y2, .int .i64 y3, .int .i64 y4] 27)
            replace G5 := G5.below ((Below.refl _ _).alloc (Nat.le_refl _) (.cells #[.int .i64 y1, .int .i64 y2, .int .i64 y3, .int .i64 y4] 27))
            replace G6 := G6.below ((Below.refl _ _).alloc (Nat.le_refl _) (.cells #[.int .i64 y1, .int .i64 y2, .int .i64 y3, .int .i64 y4] 27))
            replace G8 := G8.below ((Below.refl _ _).alloc (Nat.le_refl _) (.cells #[.int .i64 y1, .int .i64 y2, .int .i64 y3, .int .i64 y4] 27))
            replace G10 := G10.below ((Below.refl _ _).alloc (Nat.le_refl _) (.cells #[.int .i64 y1, .int .i64 y2, .int .i64 y3, .int .i64 y4] 27))
            replace GB := GB.alloc GB.size (.cells #[.int .i64 y1, .int .i64 y2, .int .i64 y3, .int .i64 y4] 27)
            clear K15
            have zK10 := K1.cell 0
            have zK11 := K1.cell 1
            have zK12 := K1.cell 2
            have zK13 := K1.cell 3
            go_wp2_with fail
            refine (HRd.out _).mono ?_
            rintro e w9 ⟨rfl, h9⟩
            replace K0 := K0.below h9 K0.lt
            replace K1 := K1.below h9 K1.lt
            replace K5 := K5.below h9 K5.lt
            replace K6 := K6.below h9 K6.lt
            replace K8 := K8.below h9 K8.lt
            replace K10 := K10.below h9 K10.lt
            replace G5 := G5.below h9
            replace G6 := G6.below h9
            replace G8 := G8.below h9
            replace G10 := G10.below h9
            replace GB := GB.trans (h9.mono GB.size)
            clear h9
            clear zK10 zK11 zK12 zK13
            have zK00 := K0.cell 0
            have zK01 := K0.cell 1
            have zK10 := K1.cell 0
            go_wp2_with fail
            refine (HOf.out _ GB).mono ?_
            rintro e w10 ⟨Af, cf, rfl, q1, q2, h9⟩
            rw [HQ.out]
            replace K0 := K0.below h9 K0.lt
            replace K1 := K1.below h9 K1.lt
            replace K5 := K5.below h9 K5.lt
            replace K6 := K6.below h9 K6.lt
            replace K8 := K8.below h9 K8.lt
            replace K10 := K10.below h9 K10.lt
            replace G5 := G5.below h9
            replace G6 := G6.below h9
            replace G8 := G8.below h9
            replace G10 := G10.below h9
            replace GB := GB.trans (h9.mono GB.size)
            clear h9 q1 q2
            clear zK00 zK01 zK10
            have zK00 := K0.cell 0
            have zK01 := K0.cell 1
            go_wp2_with fail
            refine (HRg.out _ GB).mono ?_
            rintro e w11 ⟨rfl, h9⟩
            replace K0 := K0.below h9 K0.lt
            replace K1 := K1.below h9 K1.lt
            replace K5 := K5.below h9 K5.lt
            replace K6 := K6.below h9 K6.lt
            replace K8 := K8.below h9 K8.lt
            replace K10 := K10.below h9 K10.lt
            replace G5 := G5.below h9
            replace G6 := G6.below h9
            replace G8 := G8.below h9
            replace G10 := G10.below h9
            replace GB := GB.trans (h9.mono GB.size)
            clear h9
            clear zK00 zK01
            go_upto_region 22 with fail
            have HX := Lib.hid (fun (u : World) (h : Below w11.heap.size w11 u) => And.intro (K0.below h K0.lt) (And.intro (K1.below h K1.lt) (And.intro (K6.below h K6.lt) (And.intro (K8.below h K8.lt) (K10.below h K10.lt)))))
            have HGs := Lib.hid (fun (u : World) (h : Below w11.heap.size w11 u) => And.intro (G6.below h) (And.intro (G8.below h) (G10.below h)))
            have HB := Lib.hid (fun (u : World) (h : Below w11.heap.size w11 u) => GB.trans (h.mono GB.size))
            clear K0 K1 K5 K6 K8 K10 G5 G6 G8 G10 GB
            have HW1 : Hid (∀ u, Below w11.heap.size w11 u → Calls Try.prog 20 #[.agg #[.slice A n c, .slice B m d], .agg #[.int .i64 x1, .int .i64 x2, .int .i64 x3, .int .i64 x4]] u (fun e w' => ∃ A n c B m d, e = .returned (.agg #[.slice A n c, .slice B m d]) ∧ GR w' A n c (madeD ds (x1, x2, x3, x4) 0 8) B m d (madeV us zeroV 0 16) ∧ Below u.heap.size u w')) := Lib.hid (fun u h => (rwithD_any A n c ds B m d us x1 x2 x3 x4 u (HG.out.below (HB.out u h))).mono fun _ _ h => h.gr (by have := madeD_len ds (x1, x2, x3, x4) 0 8; omega) (by have := madeV_len us zeroV 0 16; omega) (HUd.out 16))
            have HW3 : Hid (∀ u, Below w11.heap.size w11 u → Calls Try.prog 21 #[.agg #[.slice A n c, .slice B m d], .int .i64 x1] u (fun e w' => ∃ A n c B m d, e = .returned (.agg #[.slice A n c, .slice B m d]) ∧ GR w' A n c (madeD ds zeroD x1 8) B m d (madeV us zeroV 0 16) ∧ Below u.heap.size u w')) := Lib.hid (fun u h => (rwithoutD_any A n c ds B m d us x1 u (HG.out.below (HB.out u h))).mono fun _ _ h => h.gr (by have := madeD_len ds zeroD x1 8; omega) (by have := madeV_len us zeroV 0 16; omega) (HUd.out 16))
            have D := (Below.refl w11.heap.size w11).drew
            refine wp_region_held_drew (S := fun u => Below w11.heap.size w11 u) (by kernel_rfl) D (fun hS => ?_)
            generalize w11.drew = V at D hS ⊢
            refine wpAnyH_take (i := 0) (v := .agg #[.slice A6 n6 c6, .slice B6 m6 d6]) rfl (by kernel_rfl) (by kernel_rfl) (by kernel_rfl) (fun _ _ _ h => h) (Or.inl ⟨by kernel_rfl, fun u hSw => (by have q0 := (HX.out u hSw).2.2.1.cell 0; have q1 := (HX.out u hSw).2.2.1.cell 1; go_simp)⟩) hS ?_
            change wpAnyH _ _ _ _ _ _ _ (Act.put _ (some 69) _) _
            simp only [Act.put]
            refine wpAnyH_take (i := 1) (v := .int .i64 190) rfl (by kernel_rfl) (by kernel_rfl) (by kernel_rfl) (fun _ _ _ h => h) (Or.inl ⟨by kernel_rfl, fun u hSw => (by go_simp)⟩) hS ?_
            change wpAnyH _ _ _ _ _ _ _ (Act.put _ (some 70) _) _
            simp only [Act.put]
            refine wpAnyH_take (i := 2) (v := .agg #[.slice A n c, .slice B m d]) rfl (by kernel_rfl) (by kernel_rfl) (by kernel_rfl) (fun _ _ _ h => h) (Or.inl ⟨by kernel_rfl, fun u hSw => (by have q0 := (HX.out u hSw).1.cell 0; have q1 := (HX.out u hSw).1.cell 1; go_simp)⟩) hS ?_
            change wpAnyH _ _ _ _ _ _ _ (Act.put _ (some 71) _) _
            simp only [Act.put]
            refine wpAnyH_take (i := 3) (v := .agg #[.int .i64 x1, .int .i64 x2, .int .i64 x3, .int .i64 x4]) rfl (by kernel_rfl) (by kernel_rfl) (by kernel_rfl) (fun _ _ _ h => h) (Or.inl ⟨by kernel_rfl, fun u hSw => (by have q0 := (HX.out u hSw).2.1.cell 0; have q1 := (HX.out u hSw).2.1.cell 1; have q2 := (HX.out u hSw).2.1.cell 2; have q3 := (HX.out u hSw).2.1.cell 3; go_simp)⟩) hS ?_
            change wpAnyH _ _ _ _ _ _ _ (Act.put _ (some 72) _) _
            simp only [Act.put]
            refine wpAnyH_take (i := 5) (v := .int .i64 190) rfl (by kernel_rfl) (by kernel_rfl) (by kernel_rfl) (fun _ _ _ h => h) (Or.inl ⟨by kernel_rfl, fun u hSw => (by go_simp)⟩) hS ?_
            change wpAnyH _ _ _ _ _ _ _ (Act.put _ (some 74) _) _
            simp only [Act.put]
            refine wpAnyH_ready (rs := [4]) (by kernel_rfl) (by simp) ?_
            refine AllReadyH.cons rfl (fun K hK => ?_) AllReadyH.nil
            go_simp
            refine (HW1.out _ D).mono ?_
            rintro e1 w1 ⟨Aw1, nw1, cw1, Bw1, mw1, dw1, rfl, Gw1, h9⟩
            replace D := D.trans (h9.mono D.size)
            clear h9
            refine hK.out _ _ D (fun hS => ?_)
            clear hK K
            refine wpAnyH_ready (rs := [6]) (by kernel_rfl) (by simp) ?_
            refine AllReadyH.cons rfl (fun K hK => ?_) AllReadyH.nil
            go_simp
            refine (is_any _ _ _ _ _ _ _ _ _ _ _ _ _ _ _ _ _ _ ((HGs.out _ D).1) Gw1 HI1.out).mono ?_
            rintro e2 w2 ⟨rfl, h9⟩
            replace D := D.trans (h9.mono D.size)
            clear Gw1
            clear h9
            refine hK.out _ _ D (fun hS => ?_)
            clear hK K
            refine wpAnyH_take (i := 7) (v := .bool true) rfl (by kernel_rfl) (by kernel_rfl) (by kernel_rfl) (fun _ _ _ h => h) (Or.inl ⟨by kernel_rfl, fun u hSw => (by go_simp)⟩) hS ?_
            change wpAnyH _ _ _ _ _ _ _ (Act.put _ (some 76) _) _
            simp only [Act.put]
            refine wpAnyH_take (i := 8) (v := .agg #[.slice A8 n8 c8, .slice B8 m8 d8]) rfl (by kernel_rfl) (by kernel_rfl) (by kernel_rfl) (fun _ _ _ h => h) (Or.inl ⟨by kernel_rfl, fun u hSw => (by have q0 := (HX.out u hSw).2.2.2.1.cell 0; have q1 := (HX.out u hSw).2.2.2.1.cell 1; go_simp)⟩) hS ?_
            change wpAnyH _ _ _ _ _ _ _ (Act.put _ (some 77) _) _
            simp only [Act.put]
            refine wpAnyH_take (i := 9) (v := .int .i64 190) rfl (by kernel_rfl) (by kernel_rfl) (by kernel_rfl) (fun _ _ _ h => h) (Or.inl ⟨by kernel_rfl, fun u hSw => (by go_simp)⟩) hS ?_
            change wpAnyH _ _ _ _ _ _ _ (Act.put _ (some 78) _) _
            simp only [Act.put]
            refine wpAnyH_take (i := 10) (v := .agg #[.slice A n c, .slice B m d]) rfl (by kernel_rfl) (by kernel_rfl) (by kernel_rfl) (fun _ _ _ h => h) (Or.inl ⟨by kernel_rfl, fun u hSw => (by have q0 := (HX.out u hSw).1.cell 0; have q1 := (HX.out u hSw).1.cell 1; go_simp)⟩) hS ?_
            change wpAnyH _ _ _ _ _ _ _ (Act.put _ (some 79) _) _
            simp only [Act.put]
            refine wpAnyH_take (i := 11) (v := .agg #[.int .i64 x1, .int .i64 x2, .int .i64 x3, .int .i64 x4]) rfl (by kernel_rfl) (by kernel_rfl) (by kernel_rfl) (fun _ _ _ h => h) (Or.inl ⟨by kernel_rfl, fun u hSw => (by have q0 := (HX.out u hSw).2.1.cell 0; have q1 := (HX.out u hSw).2.1.cell 1; have q2 := (HX.out u hSw).2.1.cell 2; have q3 := (HX.out u hSw).2.1.cell 3; go_simp)⟩) hS ?_
            change wpAnyH _ _ _ _ _ _ _ (Act.put _ (some 80) _) _
            simp only [Act.put]
            refine wpAnyH_take (i := 13) (v := .int .i64 190) rfl (by kernel_rfl) (by kernel_rfl) (by kernel_rfl) (fun _ _ _ h => h) (Or.inl ⟨by kernel_rfl, fun u hSw => (by go_simp)⟩) hS ?_
            change wpAnyH _ _ _ _ _ _ _ (Act.put _ (some 82) _) _
            simp only [Act.put]
            refine wpAnyH_ready (rs := [12]) (by kernel_rfl) (by simp) ?_
            refine AllReadyH.cons rfl (fun K hK => ?_) AllReadyH.nil
            go_simp
            refine (HW1.out _ D).mono ?_
            rintro e3 w3 ⟨Aw2, nw2, cw2, Bw2, mw2, dw2, rfl, Gw2, h9⟩
            replace D := D.trans (h9.mono D.size)
            clear h9
            refine hK.out _ _ D (fun hS => ?_)
            clear hK K
            refine wpAnyH_ready (rs := [14]) (by kernel_rfl) (by simp) ?_
            refine AllReadyH.cons rfl (fun K hK => ?_) AllReadyH.nil
            go_simp
            refine (is_any _ _ _ _ _ _ _ _ _ _ _ _ _ _ _ _ _ _ ((HGs.out _ D).2.1) Gw2 HI2.out).mono ?_
            rintro e4 w4 ⟨rfl, h9⟩
            replace D := D.trans (h9.mono D.size)
            clear Gw2
            clear h9
            refine hK.out _ _ D (fun hS => ?_)
            clear hK K
            refine wpAnyH_take (i := 15) (v := .bool true) rfl (by kernel_rfl) (by kernel_rfl) (by kernel_rfl) (fun _ _ _ h => h) (Or.inl ⟨by kernel_rfl, fun u hSw => (by go_simp)⟩) hS ?_
            change wpAnyH _ _ _ _ _ _ _ (Act.put _ (some 84) _) _
            simp only [Act.put]
            refine wpAnyH_take (i := 16) (v := .bool true) rfl (by kernel_rfl) (by kernel_rfl) (by kernel_rfl) (fun _ _ _ h => h) (Or.inl ⟨by kernel_rfl, fun u hSw => (by go_simp)⟩) hS ?_
            change wpAnyH _ _ _ _ _ _ _ (Act.put _ (some 85) _) _
            simp only [Act.put]
            refine wpAnyH_take (i := 17) (v := .agg #[.slice A10 n10 c10, .slice B10 m10 d10]) rfl (by kernel_rfl) (by kernel_rfl) (by kernel_rfl) (fun _ _ _ h => h) (Or.inl ⟨by kernel_rfl, fun u hSw => (by have q0 := (HX.out u hSw).2.2.2.2.cell 0; have q1 := (HX.out u hSw).2.2.2.2.cell 1; go_simp)⟩) hS ?_
            change wpAnyH _ _ _ _ _ _ _ (Act.put _ (some 86) _) _
            simp only [Act.put]
            refine wpAnyH_take (i := 18) (v := .int .i64 190) rfl (by kernel_rfl) (by kernel_rfl) (by kernel_rfl) (fun _ _ _ h => h) (Or.inl ⟨by kernel_rfl, fun u hSw => (by go_simp)⟩) hS ?_
            change wpAnyH _ _ _ _ _ _ _ (Act.put _ (some 87) _) _
            simp only [Act.put]
            refine wpAnyH_take (i := 19) (v := .agg #[.slice A n c, .slice B m d]) rfl (by kernel_rfl) (by kernel_rfl) (by kernel_rfl) (fun _ _ _ h => h) (Or.inl ⟨by kernel_rfl, fun u hSw => (by have q0 := (HX.out u hSw).1.cell 0; have q1 := (HX.out u hSw).1.cell 1; go_simp)⟩) hS ?_
            change wpAnyH _ _ _ _ _ _ _ (Act.put _ (some 88) _) _
            simp only [Act.put]
            refine wpAnyH_take (i := 20) (v := .pointer (some ⟨w.heap.size + 1, 0, none⟩)) rfl (by kernel_rfl) (by kernel_rfl) (by kernel_rfl) (fun _ _ _ h => h) (Or.inl ⟨by kernel_rfl, fun u hSw => (by go_simp)⟩) hS ?_
            change wpAnyH _ _ _ _ _ _ _ (Act.put _ (some 89) _) _
            simp only [Act.put]
            refine wpAnyH_take (i := 21) (v := .int .i64 x1) rfl (by kernel_rfl) (by kernel_rfl) (by kernel_rfl) (fun _ _ _ h => h) (Or.inl ⟨by kernel_rfl, fun u hSw => (by have q0 := (HX.out u hSw).2.1.cell 0; go_simp)⟩) hS ?_
            change wpAnyH _ _ _ _ _ _ _ (Act.put _ (some 90) _) _
            simp only [Act.put]
            refine wpAnyH_take (i := 23) (v := .int .i64 190) rfl (by kernel_rfl) (by kernel_rfl) (by kernel_rfl) (fun _ _ _ h => h) (Or.inl ⟨by kernel_rfl, fun u hSw => (by go_simp)⟩) hS ?_
            change wpAnyH _ _ _ _ _ _ _ (Act.put _ (some 92) _) _
            simp only [Act.put]
            refine wpAnyH_ready (rs := [22]) (by kernel_rfl) (by simp) ?_
            refine AllReadyH.cons rfl (fun K hK => ?_) AllReadyH.nil
            go_simp
            refine (HW3.out _ D).mono ?_
            rintro e5 w5 ⟨Aw3, nw3, cw3, Bw3, mw3, dw3, rfl, Gw3, h9⟩
            replace D := D.trans (h9.mono D.size)
            clear h9
            refine hK.out _ _ D (fun hS => ?_)
            clear hK K
            refine wpAnyH_ready (rs := [24]) (by kernel_rfl) (by simp) ?_
            refine AllReadyH.cons rfl (fun K hK => ?_) AllReadyH.nil
            go_simp
            refine (is_any _ _ _ _ _ _ _ _ _ _ _ _ _ _ _ _ _ _ ((HGs.out _ D).2.2) Gw3 HI3.out).mono ?_
            rintro e6 w6 ⟨rfl, h9⟩
            replace D := D.trans (h9.mono D.size)
            clear Gw3
            clear h9
            refine hK.out _ _ D (fun hS => ?_)
            clear hK K
            refine wpAnyH_take (i := 25) (v := .bool true) rfl (by kernel_rfl) (by kernel_rfl) (by kernel_rfl) (fun _ _ _ h => h) (Or.inl ⟨by kernel_rfl, fun u hSw => (by go_simp)⟩) hS ?_
            change wpAnyH _ _ _ _ _ _ _ (Act.put _ (some 94) _) _
            simp only [Act.put]
            refine wpAnyH_take (i := 26) (v := .bool true) rfl (by kernel_rfl) (by kernel_rfl) (by kernel_rfl) (fun _ _ _ h => h) (Or.inl ⟨by kernel_rfl, fun u hSw => (by go_simp)⟩) hS ?_
            change wpAnyH _ _ _ _ _ _ _ (Act.put _ (some 4) _) _
            simp only [Act.put]
            refine wpAnyH_done (by kernel_rfl) ?_ _
            clear hS
            have HF := Lib.hid (HB.out _ D)
            clear D
            go_wp2
            go_ret
            exact ⟨rfl, HF.out⟩

end Go.Proofs.Ytknimnopopnbhaa
