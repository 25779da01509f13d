/-
  FracOver's walk, on what is asked of the landed calls.
-/
import Derived.Test.YtodhkdaipmeblaaFs
namespace Go.Proofs.Ytodhkdaipmeblaa
open Go.RowKit

theorem over_right {N x m : Nat} (h : rightN N x = true) (hw : weightB m = true) (hs : overW N m x < 2 ^ 100) : overR N x m = (overW N m x, m, 0) := by
  unfold overR; rw [if_pos h, if_pos hw, if_pos hs]
theorem over_bad {N x m : Nat} (h : ¬ rightN N x = true) : overR N x m = (0, 0, 150) := if_neg h
theorem less_right {N x n : Nat} (h : rightN N x = true) : lessR N x n = (N - n, x, 0) := if_pos h
theorem cmp_right {N x M y : Nat} (h1 : rightN N x = true) (h2 : rightN M y = true) : cmpR N x M y = cmpW (N * y) (M * x) := if_pos (by rw [h1, h2]; rfl)

set_option maxHeartbeats 8000000 in
set_option maxRecDepth 100000 in
theorem over_walk (HCk : CheckOk) (HCo : CompareOk) (HLe : LessOk) (HOv : OverOk) (h l x m : Nat) (w : World) (hh : h < 2 ^ 64) (hl : l < 2 ^ 64) (hx : x < 2 ^ 64) (hm : m < 2 ^ 64)
    (hk : ∀ u, Calls Try.prog 9 #[] u (Said (.bool true) u)) :
    Calls Try.prog 7 #[.agg (fr h l x), .int .u64 (m : Int)] w (Said (.bool true) w) := by
  obtain ⟨N, hN⟩ : ∃ N, h * 2 ^ 64 + l = N := ⟨_, rfl⟩
  have hN2 : N < 2 ^ 128 := by omega
  have eN : fq N x = fr h l x := by rw [← hN]; exact fq_of hl x
  have HK := Lib.hid hk
  have ha := fun u => HOv N x x u hN2 hx hx
  have hb := fun u => HCk N x u hN2 hx
  have hc := fun u => HOv N x m u hN2 hx hm
  rw [eN] at ha hb hc
  obtain ⟨K, B⟩ : Blk (w.alloc (.cells (fr h l x) 26)) w.heap.size 26 (fr h l x) ∧ Below w.heap.size w (w.alloc (.cells (fr h l x) 26)) := ⟨Blk.new _ _ _, (Below.refl _ _).alloc (Nat.le_refl _) _⟩
  have HB := Lib.hid (And.intro K B)
  clear hk K B
  by_cases hr : rightN N x = true
  · obtain ⟨r1, r2, r3⟩ := rightN_true hr
    have hwx := weightB_yes r1 r2
    rw [over_right hr hwx (by rw [over_same (by omega)]; exact r3), over_same (by omega), ← hN, fe_some hl] at ha
    rw [if_pos hr] at hb
    have HA := Lib.hid ha
    have HBk := Lib.hid hb
    by_cases hw : weightB m = true
    · by_cases hs : overW N m x < 2 ^ 100
      · rw [over_right hr hw hs] at hc
        obtain ⟨S, hS⟩ : ∃ S, overW N m x = S := ⟨_, rfl⟩
        have g1 := over_ge (n := N) (m := m) (x := x) (by omega)
        have g2 := over_lt (n := N) (m := m) (x := x) (by omega)
        rw [hS] at hc hs g1 g2
        obtain ⟨m1, m2⟩ := weightB_true hw
        have hrs : rightN S m = true := rightN_yes m1 m2 hs
        obtain ⟨sh, sl, e1, e2, e3⟩ := halves S (by omega)
        have hd := fun u => HCo S m N x u (by omega) hm hN2 hx
        rw [cmp_right hrs hr, eN] at hd
        rw [e1, fe_some e3] at hc
        have eS : fq S m = fr sh sl m := by rw [e1]; exact fq_of e3 m
        rw [eS] at hd
        have HC := Lib.hid hc
        by_cases hz : S = 0
        · have hsh : sh = 0 := by omega
          have hsl : sl = 0 := by omega
          have hNm : N * m = 0 := by rw [hz] at g1; omega
          have hN0 : N = 0 := by
            rcases Nat.mul_eq_zero.1 hNm with h | h
            · exact h
            · omega
          have hh0 : h = 0 := by omega
          have hl0 : l = 0 := by omega
          have hcm : cmpW (S * x) (N * m) = 0 := cmpW_eq (by rw [hz, hNm]; omega)
          rw [hcm] at hd
          have HD := Lib.hid hd
          have q1 : ((sh : Int) == 0) = true := by simp; omega
          have q2 : ((sl : Int) == 0) = true := by simp; omega
          have q3 : ((h : Int) == 0) = true := by simp; omega
          have q4 : ((l : Int) == 0) = true := by simp; omega
          clear hsh hsl hh0 hl0 hc hd hr hw hs hS g1 g2 hrs e1 e2 e3 eS hz hNm hN0 hcm hN hN2 eN hh hl hx hm HCk HCo HLe HOv r1 r2 r3 hwx m1 m2
          unfold fr at HC HD
          clear ha hb
          unfold fr at HA HBk HB
          go_enter Try.func7, Try.ntmps7
          go_wp2_with fail
          refine (HK.out _).mono ?_
          rintro e w1 ⟨rfl, h1⟩
          have K1 := HB.out.1.below h1 HB.out.1.lt
          have B1 := HB.out.2.trans (h1.mono HB.out.2.size)
          have c0 : w1.cell? ⟨w.heap.size, 0, none⟩ = some (.int .u64 (h : Int)) := K1.cell 0
          have c1 : w1.cell? ⟨w.heap.size, 1, none⟩ = some (.int .u64 (l : Int)) := K1.cell 1
          have c2 : w1.cell? ⟨w.heap.size, 2, none⟩ = some (.int .u64 (x : Int)) := K1.cell 2
          clear HB h1
          go_wp2_with fail
          refine (HA.out _).mono ?_
          rintro e w2 ⟨rfl, h2⟩
          have K2 := K1.below h2 K1.lt
          have B2 := B1.trans (h2.mono B1.size)
          have kl := K2.lt
          have d0 : w2.cell? ⟨w.heap.size, 0, none⟩ = some (.int .u64 (h : Int)) := K2.cell 0
          have d1 : w2.cell? ⟨w.heap.size, 1, none⟩ = some (.int .u64 (l : Int)) := K2.cell 1
          have d2 : w2.cell? ⟨w.heap.size, 2, none⟩ = some (.int .u64 (x : Int)) := K2.cell 2
          clear K1 B1 h2 c0 c1 c2
          go_wp2_with fail
          refine (HBk.out _).mono ?_
          rintro e w3 ⟨rfl, h3⟩
          have S3 := (Blk.new w2 26 #[.int .u64 (h : Int), .int .u64 (l : Int), .int .u64 (x : Int)]).below h3 (Blk.new w2 26 _).lt
          have K3 := (K2.alloc (.cells #[.int .u64 (h : Int), .int .u64 (l : Int), .int .u64 (x : Int)] 26)).below h3 (K2.alloc (.cells #[.int .u64 (h : Int), .int .u64 (l : Int), .int .u64 (x : Int)] 26)).lt
          have B3 := (B2.alloc B2.size (.cells #[.int .u64 (h : Int), .int .u64 (l : Int), .int .u64 (x : Int)] 26)).trans (h3.mono (B2.alloc B2.size _).size)
          have a0 : w3.cell? ⟨w2.heap.size, 0, none⟩ = some (.int .u64 (h : Int)) := S3.cell 0
          have a1 : w3.cell? ⟨w2.heap.size, 1, none⟩ = some (.int .u64 (l : Int)) := S3.cell 1
          have a2 : w3.cell? ⟨w2.heap.size, 2, none⟩ = some (.int .u64 (x : Int)) := S3.cell 2
          have b0 : w3.cell? ⟨w.heap.size, 0, none⟩ = some (.int .u64 (h : Int)) := K3.cell 0
          have b1 : w3.cell? ⟨w.heap.size, 1, none⟩ = some (.int .u64 (l : Int)) := K3.cell 1
          have b2 : w3.cell? ⟨w.heap.size, 2, none⟩ = some (.int .u64 (x : Int)) := K3.cell 2
          clear K2 B2 h3 d0 d1 d2 S3
          go_wp2_with fail
          refine (HC.out _).mono ?_
          rintro e w4 ⟨rfl, h4⟩
          have K4 := K3.below h4 K3.lt
          have B4 := B3.trans (h4.mono B3.size)
          have kl4 := K4.lt
          have d0 : w4.cell? ⟨w.heap.size, 0, none⟩ = some (.int .u64 (h : Int)) := K4.cell 0
          have d1 : w4.cell? ⟨w.heap.size, 1, none⟩ = some (.int .u64 (l : Int)) := K4.cell 1
          have d2 : w4.cell? ⟨w.heap.size, 2, none⟩ = some (.int .u64 (x : Int)) := K4.cell 2
          clear K3 B3 h4 a0 a1 a2 b0 b1 b2 kl
          go_wp2_with fail
          refine (HD.out _).mono ?_
          rintro e w5 ⟨rfl, h5⟩
          have S5 := (Blk.new w4 26 #[.int .u64 (sh : Int), .int .u64 (sl : Int), .int .u64 (m : Int)]).below h5 (Blk.new w4 26 _).lt
          have K5 := (K4.alloc (.cells #[.int .u64 (sh : Int), .int .u64 (sl : Int), .int .u64 (m : Int)] 26)).below h5 (K4.alloc (.cells #[.int .u64 (sh : Int), .int .u64 (sl : Int), .int .u64 (m : Int)] 26)).lt
          have B5 := (B4.alloc B4.size (.cells #[.int .u64 (sh : Int), .int .u64 (sl : Int), .int .u64 (m : Int)] 26)).trans (h5.mono (B4.alloc B4.size _).size)
          have a0 : w5.cell? ⟨w4.heap.size, 0, none⟩ = some (.int .u64 (sh : Int)) := S5.cell 0
          have a1 : w5.cell? ⟨w4.heap.size, 1, none⟩ = some (.int .u64 (sl : Int)) := S5.cell 1
          have a2 : w5.cell? ⟨w4.heap.size, 2, none⟩ = some (.int .u64 (m : Int)) := S5.cell 2
          have b0 : w5.cell? ⟨w.heap.size, 0, none⟩ = some (.int .u64 (h : Int)) := K5.cell 0
          have b1 : w5.cell? ⟨w.heap.size, 1, none⟩ = some (.int .u64 (l : Int)) := K5.cell 1
          have b2 : w5.cell? ⟨w.heap.size, 2, none⟩ = some (.int .u64 (x : Int)) := K5.cell 2
          clear K4 B4 h5 d0 d1 d2
          go_wp2
          go_ret
          exact ⟨rfl, B5⟩
        · have hc1 := cmpW_ge g1
          obtain ⟨q, hq⟩ : ∃ q, cmpW (S * x) (N * m) = q := ⟨_, rfl⟩
          rw [hq] at hd hc1
          have HD := Lib.hid hd
          have he := fun u => HLe S m 1 u (by omega) hm (by omega)
          rw [less_right hrs, eS] at he
          obtain ⟨th, tl, f1, f2, f3⟩ := halves (S - 1) (by omega)
          have hrt : rightN (S - 1) m = true := rightN_yes m1 m2 (by omega)
          have hg := fun u => HCo (S - 1) m N x u (by omega) hm hN2 hx
          rw [cmp_right hrt hr, eN, cmpW_lt (g2 (by omega)), show fq (S - 1) m = fr th tl m by rw [f1]; exact fq_of f3 m] at hg
          rw [f1, fe_some f3] at he
          have HE := Lib.hid he
          have HG := Lib.hid hg
          have hn0 : (((sh : Int) == 0) = false) ∨ (((sh : Int) == 0) = true ∧ ((sl : Int) == 0) = false) := by
            by_cases h0 : sh = 0
            · exact .inr ⟨by simp; omega, by simp; omega⟩
            · exact .inl (by simp; omega)
          have hq0 : ¬ q < 0 := by rcases hc1 with h | h <;> omega
          clear hc hd he hg hr hw hs hS g1 g2 hrs e1 e2 e3 eS hz f1 f2 f3 hrt hc1 hq hN hN2 eN hh hl hx hm HCk HCo HLe HOv r1 r2 r3 hwx m1 m2
          unfold fr at HC HD HE HG
          rcases hn0 with hn0 | ⟨q1, hn0⟩
          · skip
            clear ha hb
            unfold fr at HA HBk HB
            go_enter Try.func7, Try.ntmps7
            go_wp2_with fail
            refine (HK.out _).mono ?_
            rintro e w1 ⟨rfl, h1⟩
            have K1 := HB.out.1.below h1 HB.out.1.lt
            have B1 := HB.out.2.trans (h1.mono HB.out.2.size)
            have c0 : w1.cell? ⟨w.heap.size, 0, none⟩ = some (.int .u64 (h : Int)) := K1.cell 0
            have c1 : w1.cell? ⟨w.heap.size, 1, none⟩ = some (.int .u64 (l : Int)) := K1.cell 1
            have c2 : w1.cell? ⟨w.heap.size, 2, none⟩ = some (.int .u64 (x : Int)) := K1.cell 2
            clear HB h1
            go_wp2_with fail
            refine (HA.out _).mono ?_
            rintro e w2 ⟨rfl, h2⟩
            have K2 := K1.below h2 K1.lt
            have B2 := B1.trans (h2.mono B1.size)
            have kl := K2.lt
            have d0 : w2.cell? ⟨w.heap.size, 0, none⟩ = some (.int .u64 (h : Int)) := K2.cell 0
            have d1 : w2.cell? ⟨w.heap.size, 1, none⟩ = some (.int .u64 (l : Int)) := K2.cell 1
            have d2 : w2.cell? ⟨w.heap.size, 2, none⟩ = some (.int .u64 (x : Int)) := K2.cell 2
            clear K1 B1 h2 c0 c1 c2
            go_wp2_with fail
            refine (HBk.out _).mono ?_
            rintro e w3 ⟨rfl, h3⟩
            have S3 := (Blk.new w2 26 #[.int .u64 (h : Int), .int .u64 (l : Int), .int .u64 (x : Int)]).below h3 (Blk.new w2 26 _).lt
            have K3 := (K2.alloc (.cells #[.int .u64 (h : Int), .int .u64 (l : Int), .int .u64 (x : Int)] 26)).below h3 (K2.alloc (.cells #[.int .u64 (h : Int), .int .u64 (l : Int), .int .u64 (x : Int)] 26)).lt
            have B3 := (B2.alloc B2.size (.cells #[.int .u64 (h : Int), .int .u64 (l : Int), .int .u64 (x : Int)] 26)).trans (h3.mono (B2.alloc B2.size _).size)
            have a0 : w3.cell? ⟨w2.heap.size, 0, none⟩ = some (.int .u64 (h : Int)) := S3.cell 0
            have a1 : w3.cell? ⟨w2.heap.size, 1, none⟩ = some (.int .u64 (l : Int)) := S3.cell 1
            have a2 : w3.cell? ⟨w2.heap.size, 2, none⟩ = some (.int .u64 (x : Int)) := S3.cell 2
            have b0 : w3.cell? ⟨w.heap.size, 0, none⟩ = some (.int .u64 (h : Int)) := K3.cell 0
            have b1 : w3.cell? ⟨w.heap.size, 1, none⟩ = some (.int .u64 (l : Int)) := K3.cell 1
            have b2 : w3.cell? ⟨w.heap.size, 2, none⟩ = some (.int .u64 (x : Int)) := K3.cell 2
            clear K2 B2 h3 d0 d1 d2 S3
            go_wp2_with fail
            refine (HC.out _).mono ?_
            rintro e w4 ⟨rfl, h4⟩
            have K4 := K3.below h4 K3.lt
            have B4 := B3.trans (h4.mono B3.size)
            have kl4 := K4.lt
            have d0 : w4.cell? ⟨w.heap.size, 0, none⟩ = some (.int .u64 (h : Int)) := K4.cell 0
            have d1 : w4.cell? ⟨w.heap.size, 1, none⟩ = some (.int .u64 (l : Int)) := K4.cell 1
            have d2 : w4.cell? ⟨w.heap.size, 2, none⟩ = some (.int .u64 (x : Int)) := K4.cell 2
            clear K3 B3 h4 a0 a1 a2 b0 b1 b2 kl
            go_wp2_with fail
            refine (HD.out _).mono ?_
            rintro e w5 ⟨rfl, h5⟩
            have S5 := (Blk.new w4 26 #[.int .u64 (sh : Int), .int .u64 (sl : Int), .int .u64 (m : Int)]).below h5 (Blk.new w4 26 _).lt
            have K5 := (K4.alloc (.cells #[.int .u64 (sh : Int), .int .u64 (sl : Int), .int .u64 (m : Int)] 26)).below h5 (K4.alloc (.cells #[.int .u64 (sh : Int), .int .u64 (sl : Int), .int .u64 (m : Int)] 26)).lt
            have B5 := (B4.alloc B4.size (.cells #[.int .u64 (sh : Int), .int .u64 (sl : Int), .int .u64 (m : Int)] 26)).trans (h5.mono (B4.alloc B4.size _).size)
            have a0 : w5.cell? ⟨w4.heap.size, 0, none⟩ = some (.int .u64 (sh : Int)) := S5.cell 0
            have a1 : w5.cell? ⟨w4.heap.size, 1, none⟩ = some (.int .u64 (sl : Int)) := S5.cell 1
            have a2 : w5.cell? ⟨w4.heap.size, 2, none⟩ = some (.int .u64 (m : Int)) := S5.cell 2
            have b0 : w5.cell? ⟨w.heap.size, 0, none⟩ = some (.int .u64 (h : Int)) := K5.cell 0
            have b1 : w5.cell? ⟨w.heap.size, 1, none⟩ = some (.int .u64 (l : Int)) := K5.cell 1
            have b2 : w5.cell? ⟨w.heap.size, 2, none⟩ = some (.int .u64 (x : Int)) := K5.cell 2
            clear K4 B4 h5 d0 d1 d2
            go_wp2_with fail
            refine (HE.out _).mono ?_
            rintro e w6 ⟨rfl, h6⟩
            have K6 := K5.below h6 K5.lt
            have B6 := B5.trans (h6.mono B5.size)
            have kl6 := K6.lt
            have d0 : w6.cell? ⟨w.heap.size, 0, none⟩ = some (.int .u64 (h : Int)) := K6.cell 0
            have d1 : w6.cell? ⟨w.heap.size, 1, none⟩ = some (.int .u64 (l : Int)) := K6.cell 1
            have d2 : w6.cell? ⟨w.heap.size, 2, none⟩ = some (.int .u64 (x : Int)) := K6.cell 2
            clear K5 B5 h6 S5 a0 a1 a2 b0 b1 b2
            go_wp2_with fail
            refine (HG.out _).mono ?_
            rintro e w7 ⟨rfl, h7⟩
            have B7 := (B6.alloc B6.size (.cells #[.int .u64 (th : Int), .int .u64 (tl : Int), .int .u64 (m : Int)] 26)).trans (h7.mono (B6.alloc B6.size _).size)
            clear K6 B6 h7 d0 d1 d2
            go_wp2
            go_ret
            exact ⟨rfl, B7⟩
          · skip
            clear ha hb
            unfold fr at HA HBk HB
            go_enter Try.func7, Try.ntmps7
            go_wp2_with fail
            refine (HK.out _).mono ?_
            rintro e w1 ⟨rfl, h1⟩
            have K1 := HB.out.1.below h1 HB.out.1.lt
            have B1 := HB.out.2.trans (h1.mono HB.out.2.size)
            have c0 : w1.cell? ⟨w.heap.size, 0, none⟩ = some (.int .u64 (h : Int)) := K1.cell 0
            have c1 : w1.cell? ⟨w.heap.size, 1, none⟩ = some (.int .u64 (l : Int)) := K1.cell 1
            have c2 : w1.cell? ⟨w.heap.size, 2, none⟩ = some (.int .u64 (x : Int)) := K1.cell 2
            clear HB h1
            go_wp2_with fail
            refine (HA.out _).mono ?_
            rintro e w2 ⟨rfl, h2⟩
            have K2 := K1.below h2 K1.lt
            have B2 := B1.trans (h2.mono B1.size)
            have kl := K2.lt
            have d0 : w2.cell? ⟨w.heap.size, 0, none⟩ = some (.int .u64 (h : Int)) := K2.cell 0
            have d1 : w2.cell? ⟨w.heap.size, 1, none⟩ = some (.int .u64 (l : Int)) := K2.cell 1
            have d2 : w2.cell? ⟨w.heap.size, 2, none⟩ = some (.int .u64 (x : Int)) := K2.cell 2
            clear K1 B1 h2 c0 c1 c2
            go_wp2_with fail
            refine (HBk.out _).mono ?_
            rintro e w3 ⟨rfl, h3⟩
            have S3 := (Blk.new w2 26 #[.int .u64 (h : Int), .int .u64 (l : Int), .int .u64 (x : Int)]).below h3 (Blk.new w2 26 _).lt
            have K3 := (K2.alloc (.cells #[.int .u64 (h : Int), .int .u64 (l : Int), .int .u64 (x : Int)] 26)).below h3 (K2.alloc (.cells #[.int .u64 (h : Int), .int .u64 (l : Int), .int .u64 (x : Int)] 26)).lt
            have B3 := (B2.alloc B2.size (.cells #[.int .u64 (h : Int), .int .u64 (l : Int), .int .u64 (x : Int)] 26)).trans (h3.mono (B2.alloc B2.size _).size)
            have a0 : w3.cell? ⟨w2.heap.size, 0, none⟩ = some (.int .u64 (h : Int)) := S3.cell 0
            have a1 : w3.cell? ⟨w2.heap.size, 1, none⟩ = some (.int .u64 (l : Int)) := S3.cell 1
            have a2 : w3.cell? ⟨w2.heap.size, 2, none⟩ = some (.int .u64 (x : Int)) := S3.cell 2
            have b0 : w3.cell? ⟨w.heap.size, 0, none⟩ = some (.int .u64 (h : Int)) := K3.cell 0
            have b1 : w3.cell? ⟨w.heap.size, 1, none⟩ = some (.int .u64 (l : Int)) := K3.cell 1
            have b2 : w3.cell? ⟨w.heap.size, 2, none⟩ = some (.int .u64 (x : Int)) := K3.cell 2
            clear K2 B2 h3 d0 d1 d2 S3
            go_wp2_with fail
            refine (HC.out _).mono ?_
            rintro e w4 ⟨rfl, h4⟩
            have K4 := K3.below h4 K3.lt
            have B4 := B3.trans (h4.mono B3.size)
            have kl4 := K4.lt
            have d0 : w4.cell? ⟨w.heap.size, 0, none⟩ = some (.int .u64 (h : Int)) := K4.cell 0
            have d1 : w4.cell? ⟨w.heap.size, 1, none⟩ = some (.int .u64 (l : Int)) := K4.cell 1
            have d2 : w4.cell? ⟨w.heap.size, 2, none⟩ = some (.int .u64 (x : Int)) := K4.cell 2
            clear K3 B3 h4 a0 a1 a2 b0 b1 b2 kl
            go_wp2_with fail
            refine (HD.out _).mono ?_
            rintro e w5 ⟨rfl, h5⟩
            have S5 := (Blk.new w4 26 #[.int .u64 (sh : Int), .int .u64 (sl : Int), .int .u64 (m : Int)]).below h5 (Blk.new w4 26 _).lt
            have K5 := (K4.alloc (.cells #[.int .u64 (sh : Int), .int .u64 (sl : Int), .int .u64 (m : Int)] 26)).below h5 (K4.alloc (.cells #[.int .u64 (sh : Int), .int .u64 (sl : Int), .int .u64 (m : Int)] 26)).lt
            have B5 := (B4.alloc B4.size (.cells #[.int .u64 (sh : Int), .int .u64 (sl : Int), .int .u64 (m : Int)] 26)).trans (h5.mono (B4.alloc B4.size _).size)
            have a0 : w5.cell? ⟨w4.heap.size, 0, none⟩ = some (.int .u64 (sh : Int)) := S5.cell 0
            have a1 : w5.cell? ⟨w4.heap.size, 1, none⟩ = some (.int .u64 (sl : Int)) := S5.cell 1
            have a2 : w5.cell? ⟨w4.heap.size, 2, none⟩ = some (.int .u64 (m : Int)) := S5.cell 2
            have b0 : w5.cell? ⟨w.heap.size, 0, none⟩ = some (.int .u64 (h : Int)) := K5.cell 0
            have b1 : w5.cell? ⟨w.heap.size, 1, none⟩ = some (.int .u64 (l : Int)) := K5.cell 1
            have b2 : w5.cell? ⟨w.heap.size, 2, none⟩ = some (.int .u64 (x : Int)) := K5.cell 2
            clear K4 B4 h5 d0 d1 d2
            go_wp2_with fail
            refine (HE.out _).mono ?_
            rintro e w6 ⟨rfl, h6⟩
            have K6 := K5.below h6 K5.lt
            have B6 := B5.trans (h6.mono B5.size)
            have kl6 := K6.lt
            have d0 : w6.cell? ⟨w.heap.size, 0, none⟩ = some (.int .u64 (h : Int)) := K6.cell 0
            have d1 : w6.cell? ⟨w.heap.size, 1, none⟩ = some (.int .u64 (l : Int)) := K6.cell 1
            have d2 : w6.cell? ⟨w.heap.size, 2, none⟩ = some (.int .u64 (x : Int)) := K6.cell 2
            clear K5 B5 h6 S5 a0 a1 a2 b0 b1 b2
            go_wp2_with fail
            refine (HG.out _).mono ?_
            rintro e w7 ⟨rfl, h7⟩
            have B7 := (B6.alloc B6.size (.cells #[.int .u64 (th : Int), .int .u64 (tl : Int), .int .u64 (m : Int)] 26)).trans (h7.mono (B6.alloc B6.size _).size)
            clear K6 B6 h7 d0 d1 d2
            go_wp2
            go_ret
            exact ⟨rfl, B7⟩
      · have hc2 : overR N x m = (0, 0, 131) := by unfold overR; rw [if_pos hr, if_pos hw, if_neg hs]
        rw [hc2, fe_none] at hc
        have HC := Lib.hid hc
        clear hc hc2 hr hw hs hN hN2 eN hh hl hx hm HCk HCo HLe HOv r1 r2 r3 hwx
        unfold fr at HC
        clear ha hb
        unfold fr at HA HBk HB
        go_enter Try.func7, Try.ntmps7
        go_wp2_with fail
        refine (HK.out _).mono ?_
        rintro e w1 ⟨rfl, h1⟩
        have K1 := HB.out.1.below h1 HB.out.1.lt
        have B1 := HB.out.2.trans (h1.mono HB.out.2.size)
        have c0 : w1.cell? ⟨w.heap.size, 0, none⟩ = some (.int .u64 (h : Int)) := K1.cell 0
        have c1 : w1.cell? ⟨w.heap.size, 1, none⟩ = some (.int .u64 (l : Int)) := K1.cell 1
        have c2 : w1.cell? ⟨w.heap.size, 2, none⟩ = some (.int .u64 (x : Int)) := K1.cell 2
        clear HB h1
        go_wp2_with fail
        refine (HA.out _).mono ?_
        rintro e w2 ⟨rfl, h2⟩
        have K2 := K1.below h2 K1.lt
        have B2 := B1.trans (h2.mono B1.size)
        have kl := K2.lt
        have d0 : w2.cell? ⟨w.heap.size, 0, none⟩ = some (.int .u64 (h : Int)) := K2.cell 0
        have d1 : w2.cell? ⟨w.heap.size, 1, none⟩ = some (.int .u64 (l : Int)) := K2.cell 1
        have d2 : w2.cell? ⟨w.heap.size, 2, none⟩ = some (.int .u64 (x : Int)) := K2.cell 2
        clear K1 B1 h2 c0 c1 c2
        go_wp2_with fail
        refine (HBk.out _).mono ?_
        rintro e w3 ⟨rfl, h3⟩
        have S3 := (Blk.new w2 26 #[.int .u64 (h : Int), .int .u64 (l : Int), .int .u64 (x : Int)]).below h3 (Blk.new w2 26 _).lt
        have K3 := (K2.alloc (.cells #[.int .u64 (h : Int), .int .u64 (l : Int), .int .u64 (x : Int)] 26)).below h3 (K2.alloc (.cells #[.int .u64 (h : Int), .int .u64 (l : Int), .int .u64 (x : Int)] 26)).lt
        have B3 := (B2.alloc B2.size (.cells #[.int .u64 (h : Int), .int .u64 (l : Int), .int .u64 (x : Int)] 26)).trans (h3.mono (B2.alloc B2.size _).size)
        have a0 : w3.cell? ⟨w2.heap.size, 0, none⟩ = some (.int .u64 (h : Int)) := S3.cell 0
        have a1 : w3.cell? ⟨w2.heap.size, 1, none⟩ = some (.int .u64 (l : Int)) := S3.cell 1
        have a2 : w3.cell? ⟨w2.heap.size, 2, none⟩ = some (.int .u64 (x : Int)) := S3.cell 2
        have b0 : w3.cell? ⟨w.heap.size, 0, none⟩ = some (.int .u64 (h : Int)) := K3.cell 0
        have b1 : w3.cell? ⟨w.heap.size, 1, none⟩ = some (.int .u64 (l : Int)) := K3.cell 1
        have b2 : w3.cell? ⟨w.heap.size, 2, none⟩ = some (.int .u64 (x : Int)) := K3.cell 2
        clear K2 B2 h3 d0 d1 d2 S3
        go_wp2_with fail
        refine (HC.out _).mono ?_
        rintro e w4 ⟨rfl, h4⟩
        have B4 := B3.trans (h4.mono B3.size)
        clear K3 B3 h4 a0 a1 a2 b0 b1 b2 kl
        go_wp2
        go_ret
        exact ⟨rfl, B4.alloc B4.size _⟩
    · have hc2 : overR N x m = (0, 0, 2) := by unfold overR; rw [if_pos hr, if_neg hw]
      rw [hc2, fe_none] at hc
      have HC := Lib.hid hc
      clear hc hc2 hr hw hN hN2 eN hh hl hx hm HCk HCo HLe HOv r1 r2 r3 hwx
      unfold fr at HC
      clear ha hb
      unfold fr at HA HBk HB
      go_enter Try.func7, Try.ntmps7
      go_wp2_with fail
      refine (HK.out _).mono ?_
      rintro e w1 ⟨rfl, h1⟩
      have K1 := HB.out.1.below h1 HB.out.1.lt
      have B1 := HB.out.2.trans (h1.mono HB.out.2.size)
      have c0 : w1.cell? ⟨w.heap.size, 0, none⟩ = some (.int .u64 (h : Int)) := K1.cell 0
      have c1 : w1.cell? ⟨w.heap.size, 1, none⟩ = some (.int .u64 (l : Int)) := K1.cell 1
      have c2 : w1.cell? ⟨w.heap.size, 2, none⟩ = some (.int .u64 (x : Int)) := K1.cell 2
      clear HB h1
      go_wp2_with fail
      refine (HA.out _).mono ?_
      rintro e w2 ⟨rfl, h2⟩
      have K2 := K1.below h2 K1.lt
      have B2 := B1.trans (h2.mono B1.size)
      have kl := K2.lt
      have d0 : w2.cell? ⟨w.heap.size, 0, none⟩ = some (.int .u64 (h : Int)) := K2.cell 0
      have d1 : w2.cell? ⟨w.heap.size, 1, none⟩ = some (.int .u64 (l : Int)) := K2.cell 1
      have d2 : w2.cell? ⟨w.heap.size, 2, none⟩ = some (.int .u64 (x : Int)) := K2.cell 2
      clear K1 B1 h2 c0 c1 c2
      go_wp2_with fail
      refine (HBk.out _).mono ?_
      rintro e w3 ⟨rfl, h3⟩
      have S3 := (Blk.new w2 26 #[.int .u64 (h : Int), .int .u64 (l : Int), .int .u64 (x : Int)]).below h3 (Blk.new w2 26 _).lt
      have K3 := (K2.alloc (.cells #[.int .u64 (h : Int), .int .u64 (l : Int), .int .u64 (x : Int)] 26)).below h3 (K2.alloc (.cells #[.int .u64 (h : Int), .int .u64 (l : Int), .int .u64 (x : Int)] 26)).lt
      have B3 := (B2.alloc B2.size (.cells #[.int .u64 (h : Int), .int .u64 (l : Int), .int .u64 (x : Int)] 26)).trans (h3.mono (B2.alloc B2.size _).size)
      have a0 : w3.cell? ⟨w2.heap.size, 0, none⟩ = some (.int .u64 (h : Int)) := S3.cell 0
      have a1 : w3.cell? ⟨w2.heap.size, 1, none⟩ = some (.int .u64 (l : Int)) := S3.cell 1
      have a2 : w3.cell? ⟨w2.heap.size, 2, none⟩ = some (.int .u64 (x : Int)) := S3.cell 2
      have b0 : w3.cell? ⟨w.heap.size, 0, none⟩ = some (.int .u64 (h : Int)) := K3.cell 0
      have b1 : w3.cell? ⟨w.heap.size, 1, none⟩ = some (.int .u64 (l : Int)) := K3.cell 1
      have b2 : w3.cell? ⟨w.heap.size, 2, none⟩ = some (.int .u64 (x : Int)) := K3.cell 2
      clear K2 B2 h3 d0 d1 d2 S3
      go_wp2_with fail
      refine (HC.out _).mono ?_
      rintro e w4 ⟨rfl, h4⟩
      have B4 := B3.trans (h4.mono B3.size)
      clear K3 B3 h4 a0 a1 a2 b0 b1 b2 kl
      go_wp2
      go_ret
      exact ⟨rfl, B4.alloc B4.size _⟩
  · rw [over_bad hr, fe_none] at ha
    rw [if_neg hr] at hb
    have HA := Lib.hid ha
    have HBk := Lib.hid hb
    clear ha hb hc hr hN hN2 eN hh hl hx hm HCk HCo HLe HOv
    unfold fr at *
    go_enter Try.func7, Try.ntmps7
    go_wp2_with fail
    refine (HK.out _).mono ?_
    rintro e w1 ⟨rfl, h1⟩
    have K1 := HB.out.1.below h1 HB.out.1.lt
    have B1 := HB.out.2.trans (h1.mono HB.out.2.size)
    have c0 : w1.cell? ⟨w.heap.size, 0, none⟩ = some (.int .u64 (h : Int)) := K1.cell 0
    have c1 : w1.cell? ⟨w.heap.size, 1, none⟩ = some (.int .u64 (l : Int)) := K1.cell 1
    have c2 : w1.cell? ⟨w.heap.size, 2, none⟩ = some (.int .u64 (x : Int)) := K1.cell 2
    clear HB h1
    go_wp2_with fail
    refine (HA.out _).mono ?_
    rintro e w2 ⟨rfl, h2⟩
    have K2 := K1.below h2 K1.lt
    have B2 := B1.trans (h2.mono B1.size)
    have kl := K2.lt
    have d0 : w2.cell? ⟨w.heap.size, 0, none⟩ = some (.int .u64 (h : Int)) := K2.cell 0
    have d1 : w2.cell? ⟨w.heap.size, 1, none⟩ = some (.int .u64 (l : Int)) := K2.cell 1
    have d2 : w2.cell? ⟨w.heap.size, 2, none⟩ = some (.int .u64 (x : Int)) := K2.cell 2
    clear K1 B1 h2 c0 c1 c2
    go_wp2_with fail
    refine (HBk.out _).mono ?_
    rintro e w3 ⟨rfl, h3⟩
    have B3 := (B2.alloc B2.size (.cells #[.int .u64 0, .int .u64 0, .int .u64 0] 26)).trans (h3.mono (B2.alloc B2.size _).size)
    clear K2 B2 h3 d0 d1 d2 kl
    go_wp2
    go_ret
    exact ⟨rfl, B3⟩

end Go.Proofs.Ytodhkdaipmeblaa
