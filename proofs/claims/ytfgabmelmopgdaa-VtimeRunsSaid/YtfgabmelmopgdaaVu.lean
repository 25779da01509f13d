/-
  VtimeRuns' walk. No statement is proved here.
-/
import Derived.Test.YtfgabmelmopgdaaVx
import Derived.Deep.DeepCutAuto
namespace Go.Proofs.Ytfgabmelmopgdaa
open Go.RowKit

theorem named_le (qs : List Rn) (l : List Int) : (namedL qs l).length ≤ qs.length := by
  unfold namedL
  rw [List.length_map]
  exact List.length_filter_le _ _
theorem span_b (a t : Nat) (ha : a < 10000000) : ∃ b : Nat, a + b ≤ 10000000 ∧ (¬ 10000000 < a + t → b = t) ∧ (10000000 < a + t → b = 10000000 - a) := by
  by_cases h : 10000000 < a + t
  · exact ⟨10000000 - a, by omega, fun h2 => absurd h h2, fun _ => rfl⟩
  · exact ⟨t, by omega, fun _ => rfl, fun h2 => absurd h2 h⟩

theorem rem_wrap (x : Int) : (wrap64 (x.tmod 10000000 + 10000000)).tmod 10000000 = (x.tmod 10000000 + 10000000).tmod 10000000 := by
  have h1 := Int.tmod_lt_of_pos x (show (0 : Int) < 10000000 by omega)
  have h2 := Int.lt_tmod_of_pos x (show (0 : Int) < 10000000 by omega)
  have h3 : wrap64 (x.tmod 10000000 + 10000000) = x.tmod 10000000 + 10000000 := by unfold wrap64; omega
  rw [h3]

theorem ran_cells {a : Nat} {y1 x1 x2 : Int} {e y3 y4 y5 x3 x4 x5 : Nat} (h : (x1, x2, x3, x4, x5) = ran a (y1, (e : Int), y3, y4, y5)) :
    x2 = (e : Int) ∧ x5 = y5 ∧ (y3 * 2 ^ 64 + y4 + e * a) / 2 ^ 64 = x3 ∧ (y3 * 2 ^ 64 + y4 + e * a) % 2 ^ 64 = x4 := by
  have hN : rN (y1, (e : Int), y3, y4, y5) + ((e : Int)).toNat * a = y3 * 2 ^ 64 + y4 + e * a := by unfold rN; rw [Int.toNat_natCast]
  unfold ran at h
  obtain ⟨N, hN2⟩ : ∃ N, y3 * 2 ^ 64 + y4 + e * a = N := ⟨_, rfl⟩
  rw [hN, hN2] at h
  rw [hN2]
  unfold mkR rW at h
  have q1 := (Prod.mk.inj h).2
  have q2 := Prod.mk.inj q1
  have q3 := Prod.mk.inj q2.2
  have q4 := Prod.mk.inj q3.2
  exact ⟨q2.1, q4.2, q3.1.symm, q4.1.symm⟩
/-- what Add answers of one that ran -/
theorem ran_add {a : Nat} {y1 x1 x2 : Int} {e y3 y4 y5 x3 x4 x5 P px : Nat} {pe : Int} (hr : rightR (y1, (e : Int), y3, y4, y5) = true) (h1 : rN (y1, (e : Int), y3, y4, y5) + ((e : Int)).toNat * a < 2 ^ 100)
    (h : (x1, x2, x3, x4, x5) = ran a (y1, (e : Int), y3, y4, y5)) (hP : addR (y3 * 2 ^ 64 + y4) y5 (e * a) = (P, px, pe)) : x2 = (e : Int) ∧ x5 = y5 ∧ P / 2 ^ 64 = x3 ∧ P % 2 ^ 64 = x4 ∧ px = y5 ∧ pe = 0 := by
  have q := ran_cells h
  rw [Int.toNat_natCast] at h1
  have q2 := addR_ok (right_n hr) h1
  unfold rN rW at q2
  have q3 := hP.symm.trans q2
  have q4 := Prod.mk.inj q3
  have q5 := Prod.mk.inj q4.2
  rw [← q4.1] at q
  exact ⟨q.1, q.2.1, q.2.2.1, q.2.2.2, q5.1, q5.2⟩

set_option maxRecDepth 100000 in
set_option maxHeartbeats 32000000 in
theorem runs_walk (A : Option Addr) (n c : Nat) (qs : List Rn) (A2 : Option Addr) (n2 c2 : Nat) (is : List Int) (a0 b0 : Int) (w : World) (hR : Reads w w.heap.size 5 A n (flat rv qs)) (hnc : n ≤ c) (hU : UQ qs)
    (hI : Reads w w.heap.size 1 A2 n2 (vs is)) (hnc2 : n2 ≤ c2) :
    Calls Try.prog 7 #[.agg #[.slice A n c], .slice A2 n2 c2, .agg #[.int .i64 a0, .int .i64 b0]] w (Said (.bool true) w) := by
  have HWk := Lib.hid (fun (u : World) => wakes_any u)
  have HSh := Lib.hid (fun (u : World) (h : Below w.heap.size w u) => short_any A n c qs u ((hR.below h).more h.size) hnc)
  obtain ⟨n5, hn5⟩ : ∃ k, min n 17 = k := ⟨_, rfl⟩
  obtain ⟨q5, hq5⟩ : ∃ k, qs.take 17 = k := ⟨_, rfl⟩
  have HU5 : Hid (UQ q5) := Lib.hid (by rw [← hq5]; exact take_uq hU 17)
  have HN5 : Hid (n5 ≤ 17) := Lib.hid (by omega)
  have hq17 : q5.length ≤ 17 := by rw [← hq5, List.length_take]; omega
  rw [hn5, hq5] at HSh
  have HNm := Lib.hid (fun (A : Option Addr) (n c : Nat) (u : World) (hB : Below w.heap.size w u) (h : QR u A n c q5) => named_any A2 n2 c2 is A n c q5 u ((hI.below hB).more hB.size) hnc2 h)
  have hLle := named_le q5 (is.take 17)
  obtain ⟨L, hL⟩ : ∃ L, namedL q5 (is.take 17) = L := ⟨_, rfl⟩
  rw [hL] at HNm hLle
  obtain ⟨m, hm⟩ : ∃ m, L.length = m := ⟨_, rfl⟩
  have HM := Lib.hid hm
  have HMl : Hid (m ≤ 17) := Lib.hid (by omega)
  unfold Lists at HNm
  rw [hm] at HNm
  obtain ⟨a, ha1, ha2⟩ := rem_in a0
  obtain ⟨t, ht1, ht2⟩ := rem_in b0
  obtain ⟨b, hab, hb1, hb2⟩ := span_b a t ha1
  have HAB := Lib.hid hab
  have HRm : Hid (∀ x : Int, -9223372036854775808 ≤ x.tmod 10000000 + 10000000 ∧ x.tmod 10000000 + 10000000 < 9223372036854775808) := Lib.hid (fun x => by
    have h1 := Int.tmod_lt_of_pos x (show (0 : Int) < 10000000 by omega)
    have h2 := Int.lt_tmod_of_pos x (show (0 : Int) < 10000000 by omega)
    omega)
  have HSpan := Lib.hid (And.intro ha2 (And.intro ht2 (And.intro ha1 (And.intro ht1 (And.intro hab (And.intro hb1 hb2))))))
  obtain ⟨K0, K1, GB⟩ := blks2 w 26 59 #[.slice A n c] #[.int .i64 a0, .int .i64 b0]
  clear hR hnc hU hI hnc2 hn5 hq5 hq17 hL hLle hm ha1 ha2 ht1 ht2 hab hb1 hb2
  go_enter Try.func7, Try.ntmps7
  go_wp2_with fail
  refine (HWk.out _).mono ?_
  rintro e w1 ⟨rfl, h9⟩
  replace K0 := K0.below h9 K0.lt
  replace K1 := K1.below h9 K1.lt
  replace GB := GB.trans (h9.mono GB.size)
  clear h9
  have zK00 := K0.cell 0
  go_wp2_with fail
  refine (HSh.out _ GB).mono ?_
  rintro e9 w2 ⟨A5, c5, rfl, own5, h9⟩
  replace K0 := K0.below h9 K0.lt
  replace K1 := K1.below h9 K1.lt
  replace GB := GB.trans (h9.mono GB.size)
  clear zK00
  have G5 := qr_own own5 (by have := HN5.out; omega) HU5.out
  clear own5 h9 HSh HWk K0
  have K7 := Blk.new w2 26 #[.slice A5 n5 c5]
  replace K1 := K1.alloc (.cells #[.slice A5 n5 c5] 26)
  replace G5 := G5.below ((Below.refl _ _).alloc (Nat.le_refl _) (.cells #[.slice A5 n5 c5] 26))
  replace GB := GB.alloc GB.size (.cells #[.slice A5 n5 c5] 26)
  have HL5 := Lib.hid G5.len
  have NX := Lib.hid (HNm.out A5 n5 c5 _ GB G5)
  have zK70 := K7.cell 0
  go_wp2_with fail
  refine NX.out.mono ?_
  rintro e9 w3 ⟨A6, c6, rfl, own6, h9⟩
  clear NX HNm
  replace K1 := K1.below h9 K1.lt
  replace K7 := K7.below h9 K7.lt
  replace G5 := G5.below h9
  replace GB := GB.trans (h9.mono GB.size)
  clear h9
  clear zK70
  have I6 : IR w3 A6 m L := ⟨Reads.of_own own6, by have := HMl.out; omega⟩
  clear own6
  go_upto_region 5 with fail
  obtain ⟨g7, hg7⟩ : ∃ g, w2.heap.size = g := ⟨_, rfl⟩
  rw [hg7] at K7 ⊢
  clear hg7
  have z0 := K1.cell 0
  have z1 := K1.cell 1
  have GB3 := Below.refl w3.heap.size w3
  go_quiet (fail)
  have GB4 := below_drewN GB3 nq
  replace K7 := K7.below GB4 K7.lt
  replace G5 := G5.below GB4
  replace I6 := I6.below GB4
  replace GB := GB.trans (GB4.mono GB.size)
  generalize w3.drewN nq = w4 at K7 G5 I6 GB ⊢
  clear GB3 GB4 z0 z1 K1
  go_upto_region 6 with fail
  go_cut [9, 10] (fun s9 s10 X => s9 = .int .i64 (a : Int) ∧ s10 = .int .i64 (t : Int) ∧ w4 = X)
  case first =>
    go_wp2
    go_meet
    exact ⟨by rw [rem_wrap, HSpan.out.1], by rw [rem_wrap, HSpan.out.2.1], rfl⟩
  case rest =>
    obtain ⟨rfl, rfl, rfl⟩ := hcut
    go_upto_if 48 with fail
    go_cut [10] (fun s10 X => s10 = .int .i64 (b : Int) ∧ w4 = X)
    case first =>
      obtain ⟨_, _, ha1, ht1, hab, hb1, hb2⟩ := HSpan.out
      have hsp : wrap64 ((a : Int) + (t : Int)) = (a : Int) + (t : Int) := by unfold wrap64; omega
      by_cases hgt : 10000000 < a + t
      · have c1 : decide ((10000000 : Int) < wrap64 ((a : Int) + (t : Int))) = true := by rw [hsp]; simp; omega
        have c5 : (10000000 : Int) < wrap64 ((a : Int) + (t : Int)) := by rw [hsp]; omega
        have c2 : (10000000 : Int) - (a : Int) = (b : Int) := by have := hb2 hgt; omega
        have c3 : wrap64 (b : Int) = (b : Int) := by unfold wrap64; omega
        have c4 : wrap64 ((10000000 : Int) - (a : Int)) = (b : Int) := by rw [c2, c3]
        clear ha1 ht1 hab hb1 hb2 hgt hsp
        go_wp2_with fail
        go_meet
        exact ⟨rfl, rfl⟩
      · have c1 : decide ((10000000 : Int) < wrap64 ((a : Int) + (t : Int))) = false := by rw [hsp]; simp; omega
        have c5 : ¬ (10000000 : Int) < wrap64 ((a : Int) + (t : Int)) := by rw [hsp]; omega
        have c6 : wrap64 ((a : Int) + (t : Int)) ≤ (10000000 : Int) := by rw [hsp]; omega
        have c2 := hb1 hgt
        clear ha1 ht1 hab hb1 hb2 hgt hsp
        go_wp2_with fail
        go_meet
        exact ⟨by rw [c2], rfl⟩
    case rest =>
      obtain ⟨rfl, rfl⟩ := hcut
      clear HSpan HRm
      obtain ⟨⟨M1, E1⟩, hR1⟩ : ∃ R, runQS q5 L (a : Int) = R := ⟨_, rfl⟩
      have RX := run_any A5 n5 c5 q5 A6 m c6 L (a : Int) w4 G5 I6
      rw [hR1] at RX
      replace RX := Lib.hid RX
      have HR1 := Lib.hid hR1
      clear hR1
      have zK70 := K7.cell 0
      go_wp2_with fail
      refine RX.out.mono ?_
      rintro e9 w5 ⟨A8, n8, c8, rfl, hl8, own8, h9⟩
      clear RX
      replace K7 := K7.below h9 K7.lt
      replace G5 := G5.below h9
      replace I6 := I6.below h9
      replace GB := GB.trans (h9.mono GB.size)
      clear h9
      clear zK70
      have K11 := Blk.new w5 26 #[.slice A8 n8 c8]
      replace K7 := K7.alloc (.cells #[.slice A8 n8 c8] 26)
      replace G5 := G5.below ((Below.refl _ _).alloc (Nat.le_refl _) (.cells #[.slice A8 n8 c8] 26))
      replace I6 := I6.below ((Below.refl _ _).alloc (Nat.le_refl _) (.cells #[.slice A8 n8 c8] 26))
      replace GB := GB.alloc GB.size (.cells #[.slice A8 n8 c8] 26)
      replace own8 := own8.alloc (.cells #[.slice A8 n8 c8] 26)
      go_upto_region 10 with fail
      obtain ⟨Y, hY⟩ : ∃ Y, w5.alloc (.cells #[.slice A8 n8 c8] 26) = Y := ⟨_, rfl⟩
      obtain ⟨g11, hg11⟩ : ∃ g, w5.heap.size = g := ⟨_, rfl⟩
      rw [hY] at K7 K11 G5 I6 GB own8 ⊢
      rw [hg11] at K11 ⊢
      clear hY hg11
      by_cases he : E1 = 0
      · have RN := ran_of (b := b) HU5.out HAB.out (is := L) (by rw [HR1.out]; exact he)
        rw [HR1.out] at RN
        replace RN : Ran q5 L a b M1 := RN
        have Hl8 : Hid (M1.length = n8) := Lib.hid hl8
        have hn8 : n8 ≤ 17 := by have h1 := RN.len; have := Hl8.out; have := HL5.out; have := HN5.out; omega
        have G8 := qr_own own8 (by omega) RN.uq
        have e0 : (E1 != 0) = false := by rw [he]; rfl
        obtain ⟨⟨M2, E2⟩, hR2⟩ : ∃ R, runQS q5 L ((a + b : Nat) : Int) = R := ⟨_, rfl⟩
        have hM2 : UQ M2 ∧ M2.length ≤ 17 := by
          have h1 := RN.uq2
          have h2 := RN.len2
          rw [hR2] at h1 h2
          exact ⟨h1, by have := HL5.out; have := HN5.out; have h3 : M2.length ≤ q5.length := h2; omega⟩
        have HM2 := Lib.hid hM2
        have RX2 := run_any A8 n8 c8 M1 A6 m c6 L (b : Int) Y G8 I6
        rw [RN.on, hR2] at RX2
        replace RX2 := Lib.hid RX2
        obtain ⟨s, hs⟩ : ∃ s, a + b = s := ⟨_, rfl⟩
        have RX3 := Lib.hid (fun (u : World) (h1 : QR u A5 n5 c5 q5) (h2 : IR u A6 m L) => run_any A5 n5 c5 q5 A6 m c6 L ((a + b : Nat) : Int) u h1 h2)
        rw [hR2, hs] at RX3
        have hs3 : wrap64 ((a : Int) + (b : Int)) = (s : Int) := by have := HAB.out; unfold wrap64; omega
        have Hn8 := Lib.hid hn8
        have HRN := Lib.hid RN
        clear hR2 hM2 RN own8 hl8 he hn8 hs HR1
        have zK110 := K11.cell 0
        go_wp2_with fail
        refine RX2.out.mono ?_
        rintro e9 w6 ⟨A9, n9, c9, rfl, hl9, own9, h9⟩
        clear RX2
        replace K7 := K7.below h9 K7.lt
        replace K11 := K11.below h9 K11.lt
        replace G5 := G5.below h9
        replace I6 := I6.below h9
        replace G8 := G8.below h9
        replace GB := GB.trans (h9.mono GB.size)
        clear h9 e0
        clear zK110
        have Hl9 : Hid (M2.length = n9) := Lib.hid hl9
        have G9 := qr_own own9 (by have := HM2.out.2; have := Hl9.out; omega) HM2.out.1
        clear own9 hl9
        have K13 := Blk.new w6 26 #[.slice A9 n9 c9]
        replace K7 := K7.alloc (.cells #[.slice A9 n9 c9] 26)
        replace K11 := K11.alloc (.cells #[.slice A9 n9 c9] 26)
        replace G5 := G5.below ((Below.refl _ _).alloc (Nat.le_refl _) (.cells #[.slice A9 n9 c9] 26))
        replace I6 := I6.below ((Below.refl _ _).alloc (Nat.le_refl _) (.cells #[.slice A9 n9 c9] 26))
        replace G8 := G8.below ((Below.refl _ _).alloc (Nat.le_refl _) (.cells #[.slice A9 n9 c9] 26))
        replace G9 := G9.below ((Below.refl _ _).alloc (Nat.le_refl _) (.cells #[.slice A9 n9 c9] 26))
        replace GB := GB.alloc GB.size (.cells #[.slice A9 n9 c9] 26)
        go_upto_region 13 with fail
        obtain ⟨Y2, hY⟩ : ∃ Y, w6.alloc (.cells #[.slice A9 n9 c9] 26) = Y := ⟨_, rfl⟩
        obtain ⟨g13, hg13⟩ : ∃ g, w6.heap.size = g := ⟨_, rfl⟩
        rw [hY] at K7 K11 K13 G5 I6 G8 G9 GB ⊢
        rw [hg13] at K13 ⊢
        clear hY hg13
        have RY := Lib.hid (RX3.out Y2 G5 I6)
        have zK70 := K7.cell 0
        go_wp2_with fail
        refine RY.out.mono ?_
        rintro e9 w7 ⟨A10, n10, c10, rfl, hl10, own10, h9⟩
        clear RY RX3
        replace K7 := K7.below h9 K7.lt
        replace K11 := K11.below h9 K11.lt
        replace K13 := K13.below h9 K13.lt
        replace G5 := G5.below h9
        replace I6 := I6.below h9
        replace G8 := G8.below h9
        replace G9 := G9.below h9
        replace GB := GB.trans (h9.mono GB.size)
        clear h9 hs3
        clear zK70
        obtain rfl : n9 = n10 := by
          have h1 : M2.length = n10 := hl10
          have := Hl9.out
          omega
        have G10 := qr_own own10 (by have := HM2.out.2; have := Hl9.out; omega) HM2.out.1
        clear own10 hl10
        have K14 := Blk.new w7 26 #[.slice A10 n9 c10]
        replace K7 := K7.alloc (.cells #[.slice A10 n9 c10] 26)
        replace K11 := K11.alloc (.cells #[.slice A10 n9 c10] 26)
        replace K13 := K13.alloc (.cells #[.slice A10 n9 c10] 26)
        replace G5 := G5.below ((Below.refl _ _).alloc (Nat.le_refl _) (.cells #[.slice A10 n9 c10] 26))
        replace I6 := I6.below ((Below.refl _ _).alloc (Nat.le_refl _) (.cells #[.slice A10 n9 c10] 26))
        replace G8 := G8.below ((Below.refl _ _).alloc (Nat.le_refl _) (.cells #[.slice A10 n9 c10] 26))
        replace G9 := G9.below ((Below.refl _ _).alloc (Nat.le_refl _) (.cells #[.slice A10 n9 c10] 26))
        replace G10 := G10.below ((Below.refl _ _).alloc (Nat.le_refl _) (.cells #[.slice A10 n9 c10] 26))
        replace GB := GB.alloc GB.size (.cells #[.slice A10 n9 c10] 26)
        go_upto_region 14 with fail
        obtain ⟨Y3, hY⟩ : ∃ Y, w7.alloc (.cells #[.slice A10 n9 c10] 26) = Y := ⟨_, rfl⟩
        obtain ⟨g14, hg14⟩ : ∃ g, w7.heap.size = g := ⟨_, rfl⟩
        rw [hY] at K7 K11 K13 K14 G5 I6 G8 G9 G10 GB ⊢
        rw [hg14] at K14 ⊢
        clear hY hg14
        have SX := Lib.hid (same_self A9 n9 c9 A10 c10 M2 Y3 G9 G10)
        have z13 := K13.cell 0
        have z14 := K14.cell 0
        go_cut [92] (fun s92 X => s92 = .bool false ∧ Below Y3.heap.size Y3 X)
        case first =>
          by_cases hE : E2 = 0
          · have c1 : (E2 == 0) = true := by rw [hE]; rfl
            clear hE
            go_wp2_with fail
            refine SX.out.mono ?_
            rintro e9 w8 ⟨rfl, h9⟩
            go_wp2_with fail
            go_meet
            exact ⟨rfl, h9⟩
          · have c1 : (E2 == 0) = false := by simpa using hE
            clear hE
            go_wp2_with fail
            go_meet
            exact ⟨rfl, Below.refl _ _⟩
        case rest =>
          obtain ⟨rfl, h9⟩ := hcut
          rename World => Z
          clear z13 z14 SX K13 K14 G9 G10
          replace K7 := K7.below h9 K7.lt
          replace K11 := K11.below h9 K11.lt
          replace G5 := G5.below h9
          replace I6 := I6.below h9
          replace G8 := G8.below h9
          replace GB := GB.trans (h9.mono GB.size)
          clear h9 HM2 Hl9
          have z11 := K11.cell 0
          have HH := Lib.hid (And.intro K7 (And.intro G5 (And.intro I6 (And.intro G8 GB))))
          clear K7 K11 G5 I6 G8 GB
          go_wp2_with fail
          go_loopw [96] (fun iv wr => ∃ k : Nat, k ≤ n8 ∧ iv = .int .i64 (k : Int) ∧ Below Z.heap.size Z wr) (fun iv _ => n8 - (intOf iv).toNat)
          case atStart => exact ⟨0, Nat.zero_le _, rfl, Below.refl _ _⟩
          case round =>
            obtain ⟨k, hk, rfl, hB⟩ := hrel
            by_cases hlt : k < n8
            · obtain ⟨⟨x1, x2, x3, x4, x5⟩, hx⟩ := elem_at (l := M1) (k := k) (by rw [Hl8.out]; exact hlt)
              obtain ⟨⟨y1, y2, y3, y4, y5⟩, hk0, hr0, hu0, hyes, hno⟩ := HRN.out.each _ (List.mem_of_getElem? hx)
              have hid : y1 = x1 := kf_id hk0
              obtain ⟨K7, G5, I6, G8, GB⟩ := HH.out
              replace K7 := K7.below hB K7.lt
              replace G5 := G5.below hB
              replace I6 := I6.below hB
              replace G8 := G8.below hB
              replace GB := GB.trans (hB.mono GB.size)
              obtain ⟨ad, rfl, _, d0, d1, d2, d3, d4⟩ := rn_at G8.row hx
              have hq2 : 1 ≤ y2 ∧ y2 ≤ 8 := (rightR_iff.1 hr0).2.1
              obtain ⟨e, rfl⟩ : ∃ e : Nat, y2 = (e : Int) := ⟨y2.toNat, by omega⟩
              subst hid
              have hk1 : kf q5 y1 = some (y1, (e : Int), y3, y4, y5) := hk0
              have hg := (get_yes HRN.out.right hk1).2
              have Hg := Lib.hid hg
              have hab := HAB.out
              have he8 : e * a ≤ 8 * 10000000 := Nat.mul_le_mul (by omega) (by omega)
              have AX := Lib.hid (fun (u : World) => add_call y3 y4 y5 (e * a) u hu0.1 hu0.2.1 hu0.2.2 (by omega))
              obtain ⟨⟨P, px, pe⟩, hP⟩ : ∃ r, addR (y3 * 2 ^ 64 + y4) y5 (e * a) = r := ⟨_, rfl⟩
              rw [hP] at AX
              simp only [fe_cells] at AX
              have hy2 : y1 ∈ L → x2 = (e : Int) ∧ x5 = y5 ∧ P / 2 ^ 64 = x3 ∧ P % 2 ^ 64 = x4 ∧ px = y5 ∧ pe = 0 := fun hm => ran_add hr0 (hyes hm).1 (hyes hm).2 hP
              obtain ⟨ph, hph⟩ : ∃ k, P / 2 ^ 64 = k := ⟨_, rfl⟩
              obtain ⟨pl, hpl⟩ : ∃ k, P % 2 ^ 64 = k := ⟨_, rfl⟩
              rw [hph, hpl] at AX hy2
              have HT := Lib.hid hy2
              have HF : Hid (y1 ∉ L → x2 = (e : Int) ∧ x3 = y3 ∧ x4 = y4 ∧ x5 = y5) := Lib.hid (fun hm => by
                have q := hno hm
                have q2 := Prod.mk.inj (Prod.mk.inj q).2
                have q3 := Prod.mk.inj q2.2
                have q4 := Prod.mk.inj q3.2
                exact ⟨q2.1, q3.1, q4.1, q4.2⟩)
              obtain ⟨kk, hkk⟩ : ∃ k, e * a = k := ⟨_, rfl⟩
              rw [hkk] at AX he8
              have c10 : IntKind.u64.wrap (e : Int) = (e : Int) := by rw [IntKind.wrap_u64]; omega
              have c11 : IntKind.u64.wrap (a : Int) = (a : Int) := by rw [IntKind.wrap_u64]; omega
              have c12 : IntKind.u64.wrap ((e : Int) * (a : Int)) = (kk : Int) := by rw [IntKind.wrap_u64, ← hkk, ← Int.natCast_mul]; omega
              have HC := Lib.hid (And.intro c10 (And.intro c11 c12))
              have j0 : (0 : Int) ≤ (k : Int) := by omega
              have j1 : (k : Int) < (n8 : Int) := by omega
              clear hx hk0 hr0 hu0 hyes hno hk1 hg hq2 he8 hP hy2 hph hpl hkk hab c10 c11 c12 G8 z11
              have K17 := Blk.new wr 40 #[.int .i64 y1, .int .i64 x2, .int .u64 (x3 : Int), .int .u64 (x4 : Int), .int .u64 (x5 : Int)]
              replace K7 := K7.alloc (.cells #[.int .i64 y1, .int .i64 x2, .int .u64 (x3 : Int), .int .u64 (x4 : Int), .int .u64 (x5 : Int)] 40)
              replace G5 := G5.below ((Below.refl _ _).alloc (Nat.le_refl _) (.cells #[.int .i64 y1, .int .i64 x2, .int .u64 (x3 : Int), .int .u64 (x4 : Int), .int .u64 (x5 : Int)] 40))
              replace I6 := I6.below ((Below.refl _ _).alloc (Nat.le_refl _) (.cells #[.int .i64 y1, .int .i64 x2, .int .u64 (x3 : Int), .int .u64 (x4 : Int), .int .u64 (x5 : Int)] 40))
              replace GB := GB.alloc GB.size (.cells #[.int .i64 y1, .int .i64 x2, .int .u64 (x3 : Int), .int .u64 (x4 : Int), .int .u64 (x5 : Int)] 40)
              replace hB := hB.alloc hB.size (.cells #[.int .i64 y1, .int .i64 x2, .int .u64 (x3 : Int), .int .u64 (x4 : Int), .int .u64 (x5 : Int)] 40)
              go_upto_region 19 with fail
              obtain ⟨Y4, hY⟩ : ∃ Y, wr.alloc (.cells #[.int .i64 y1, .int .i64 x2, .int .u64 (x3 : Int), .int .u64 (x4 : Int), .int .u64 (x5 : Int)] 40) = Y := ⟨_, rfl⟩
              obtain ⟨g17, hg17⟩ : ∃ g, wr.heap.size = g := ⟨_, rfl⟩
              rw [hY] at K7 K17 G5 I6 GB hB ⊢
              rw [hg17] at K17 ⊢
              clear hY hg17 d0 d1 d2 d3 d4
              have GX := get_any A5 n5 c5 q5 y1 Y4 G5
              rw [Hg.out] at GX
              unfold agR at GX
              replace GX := Lib.hid GX
              have zK70 := K7.cell 0
              have zK170 := K17.cell 0
              go_wp2_with fail
              refine GX.out.mono ?_
              rintro e9 w9 ⟨rfl, h9⟩
              clear GX
              replace K7 := K7.below h9 K7.lt
              replace K17 := K17.below h9 K17.lt
              replace G5 := G5.below h9
              replace I6 := I6.below h9
              replace GB := GB.trans (h9.mono GB.size)
              replace hB := hB.trans (h9.mono hB.size)
              clear h9 K7 G5 Hg
              clear zK70 zK170
              have K18 := Blk.new w9 40 #[.int .i64 y1, .int .i64 (e : Int), .int .u64 (y3 : Int), .int .u64 (y4 : Int), .int .u64 (y5 : Int)]
              replace K17 := K17.alloc (.cells #[.int .i64 y1, .int .i64 (e : Int), .int .u64 (y3 : Int), .int .u64 (y4 : Int), .int .u64 (y5 : Int)] 40)
              replace I6 := I6.below ((Below.refl _ _).alloc (Nat.le_refl _) (.cells #[.int .i64 y1, .int .i64 (e : Int), .int .u64 (y3 : Int), .int .u64 (y4 : Int), .int .u64 (y5 : Int)] 40))
              replace GB := GB.alloc GB.size (.cells #[.int .i64 y1, .int .i64 (e : Int), .int .u64 (y3 : Int), .int .u64 (y4 : Int), .int .u64 (y5 : Int)] 40)
              replace hB := hB.alloc hB.size (.cells #[.int .i64 y1, .int .i64 (e : Int), .int .u64 (y3 : Int), .int .u64 (y4 : Int), .int .u64 (y5 : Int)] 40)
              go_upto_region 22 with fail
              obtain ⟨Y5, hY⟩ : ∃ Y, w9.alloc (.cells #[.int .i64 y1, .int .i64 (e : Int), .int .u64 (y3 : Int), .int .u64 (y4 : Int), .int .u64 (y5 : Int)] 40) = Y := ⟨_, rfl⟩
              obtain ⟨g18, hg18⟩ : ∃ g, w9.heap.size = g := ⟨_, rfl⟩
              rw [hY] at K17 K18 I6 GB hB ⊢
              rw [hg18] at K18 ⊢
              clear hY hg18
              have z17 := K17.cell 0
              have HZ := Lib.hid (And.intro K17 (And.intro K18 (And.intro GB hB)))
              have HI := Lib.hid I6
              clear K17 K18 GB hB I6
              go_wp2_with fail
              go_loop [20, 111] (fun s iv => ∃ (j : Nat) (bb : Bool), j ≤ m ∧ s = .bool bb ∧ iv = .int .i64 (j : Int) ∧ Hid (bb = decide (y1 ∈ L.take j))) (fun _ iv => m - (intOf iv).toNat)
              case atStart => exact ⟨0, false, Nat.zero_le _, rfl, rfl, Lib.hid (by simp)⟩
              case round =>
                obtain ⟨j, bb, hj, rfl, rfl, HN⟩ := hrel
                by_cases hjt : j < m
                · obtain ⟨y, hy⟩ := elem_at (l := L) (k := j) (by rw [HM.out]; exact hjt)
                  obtain ⟨ad5, rfl, _, c0⟩ := HI.out.at_ hy
                  have i3 : (0 : Int) ≤ (j : Int) := by omega
                  have i4 : (j : Int) < (m : Int) := by omega
                  have hm9 : m ≤ 17 := HMl.out
                  have HS : Hid (decide (y1 ∈ L.take (j + 1)) = (bb || decide (y = y1))) := Lib.hid (by
                    rw [HN.out, List.take_add_one, hy]
                    by_cases h1 : y1 ∈ L.take j
                    · simp [h1]
                    · by_cases h2 : y = y1
                      · simp [h1, h2]
                      · have h3 : ¬ y1 = y := fun h => h2 h.symm
                        simp [h1, h2, h3])
                  clear hy
                  cases bb with
                  | true =>
                    have HN2 : Hid (true = decide (y1 ∈ L.take (j + 1))) := Lib.hid (by rw [HS.out]; rfl)
                    go_wp2_with fail
                    go_round
                    case rel => exact ⟨j + 1, true, hjt, rfl, by go_num, HN2⟩
                    case measure => simp [intOf] <;> omega
                  | false =>
                    by_cases hya : y = y1
                    · have c9 : (y == y1) = true := by simpa using hya
                      have HN2 : Hid (true = decide (y1 ∈ L.take (j + 1))) := Lib.hid (by rw [HS.out]; simp [hya])
                      clear hya
                      go_wp2_with fail
                      go_round
                      case rel => exact ⟨j + 1, true, hjt, rfl, by go_num, HN2⟩
                      case measure => simp [intOf] <;> omega
                    · have c9 : (y == y1) = false := by simpa using hya
                      have HN2 : Hid (false = decide (y1 ∈ L.take (j + 1))) := Lib.hid (by rw [HS.out]; simp [hya])
                      clear hya
                      go_wp2_with fail
                      go_round
                      case rel => exact ⟨j + 1, false, hjt, rfl, by go_num, HN2⟩
                      case measure => simp [intOf] <;> omega
                · obtain rfl : j = m := by omega
                  have HB : Hid (bb = decide (y1 ∈ L)) := Lib.hid (by rw [HN.out, List.take_of_length_le (by rw [HM.out]; exact Nat.le_refl _)])
                  obtain ⟨K17, K18, GB, hB⟩ := HZ.out
                  have c10 := HC.out.1
                  have c11 := HC.out.2.1
                  have c12 := HC.out.2.2
                  have y0 := K18.cell 1
                  have y1' := K18.cell 2
                  have y2' := K18.cell 3
                  have y3' := K18.cell 4
                  go_wp2_with fail
                  refine (AX.out _).mono ?_
                  rintro e9 w10 ⟨rfl, h9⟩
                  clear y0 y1' y2' y3' z17
                  replace K17 := K17.below h9 K17.lt
                  replace K18 := K18.below h9 K18.lt
                  replace GB := GB.trans (h9.mono GB.size)
                  replace hB := hB.trans (h9.mono hB.size)
                  clear h9
                  have K23 := Blk.new w10 36 #[.int .u64 (ph : Int), .int .u64 (pl : Int), .int .u64 (px : Int)]
                  replace K17 := K17.alloc (.cells #[.int .u64 (ph : Int), .int .u64 (pl : Int), .int .u64 (px : Int)] 36)
                  replace K18 := K18.alloc (.cells #[.int .u64 (ph : Int), .int .u64 (pl : Int), .int .u64 (px : Int)] 36)
                  replace GB := GB.alloc GB.size (.cells #[.int .u64 (ph : Int), .int .u64 (pl : Int), .int .u64 (px : Int)] 36)
                  replace hB := hB.alloc hB.size (.cells #[.int .u64 (ph : Int), .int .u64 (pl : Int), .int .u64 (px : Int)] 36)
                  go_upto_region 29 with fail
                  obtain ⟨Y6, hY⟩ : ∃ Y, w10.alloc (.cells #[.int .u64 (ph : Int), .int .u64 (pl : Int), .int .u64 (px : Int)] 36) = Y := ⟨_, rfl⟩
                  obtain ⟨g23, hg23⟩ : ∃ g, w10.heap.size = g := ⟨_, rfl⟩
                  rw [hY] at K17 K18 K23 GB hB ⊢
                  rw [hg23] at K23 ⊢
                  clear hY hg23
                  have zK170 := K17.cell 0
                  have zK171 := K17.cell 1
                  have zK172 := K17.cell 2
                  have zK173 := K17.cell 3
                  have zK174 := K17.cell 4
                  have zK180 := K18.cell 0
                  have zK181 := K18.cell 1
                  have zK182 := K18.cell 2
                  have zK183 := K18.cell 3
                  have zK184 := K18.cell 4
                  have zK230 := K23.cell 0
                  have zK231 := K23.cell 1
                  have zK232 := K23.cell 2
                  have Hlt : Hid (k + 1 ≤ n8) := Lib.hid hlt
                  have hn9 : n8 ≤ 17 := Hn8.out
                  have HBz := Lib.hid hB
                  clear K17 K18 K23 GB hB c10 c11 c12
                  cases bb with
                  | true =>
                    obtain ⟨h1, h2, h3, h4, h5, h6⟩ := HT.out (of_decide_eq_true HB.out.symm)
                    subst h1 h2 h3 h4 h5 h6
                    clear HT HF
                    go_wp2_with fail
                    go_roundw
                    case rel => exact ⟨k + 1, Hlt.out, by go_num, HBz.out⟩
                    case measure => simp [intOf]; omega
                  | false =>
                    obtain ⟨h1, h2, h3, h4⟩ := HF.out (of_decide_eq_false HB.out.symm)
                    subst h1 h2 h3 h4
                    clear HT HF
                    go_wp2_with fail
                    go_roundw
                    case rel => exact ⟨k + 1, Hlt.out, by go_num, HBz.out⟩
                    case measure => simp [intOf]; omega
            · obtain rfl : k = n8 := by omega
              have HGB := Lib.hid (HH.out.2.2.2.2.trans (hB.mono HH.out.2.2.2.2.size))
              go_wp2
              go_ret
              exact ⟨rfl, HGB.out⟩
      · have hl := run_none (q := q5) (is := L) (a := (a : Int)) (by rw [HR1.out]; exact he)
        rw [HR1.out] at hl
        have hl0 : M1 = [] := hl
        have e0 : (E1 != 0) = true := by simpa using he
        have e1 : ((n8 : Int) == 0) = true := by
          have h6 : M1.length = n8 := hl8
          have : n8 = 0 := by rw [← h6, hl0]; rfl
          rw [this]; rfl
        have z0 := K11.cell 0
        clear hl hl0 he hl8 own8 K7 K11 G5 I6 HR1
        go_wp2_with fail
        go_ret
        exact ⟨rfl, GB⟩

end Go.Proofs.Ytfgabmelmopgdaa
