/-
  FracClips' walk, on what is asked of the landed calls.
-/
import Derived.Test.YtodhkdaipmeblaaFs
namespace Go.Proofs.Ytodhkdaipmeblaa
open Go.RowKit

theorem behindB_true {N x M y k : Nat} (h : behindB N x M y k = true) : rightN N x = true ∧ rightN M y = true ∧ N * y + k * x * y < M * x := by
  unfold behindB at h
  simp only [Bool.and_eq_true, decide_eq_true_eq] at h
  exact ⟨h.1.1, h.1.2, h.2⟩
theorem raised {N x M y k : Nat} (h : behindB N x M y k = true) :
    N < overW (M - k * y) x y ∧ behindB (overW (M - k * y) x y) x M y k = false ∧ (overW (M - k * y) x y < 2 ^ 100 → behindB (overW (M - k * y) x y - 1) x M y k = true) := by
  obtain ⟨h1, h2, h3⟩ := behindB_true h
  obtain ⟨x1, x2, _⟩ := rightN_true h1
  obtain ⟨y1, y2, _⟩ := rightN_true h2
  have e0 : k * x * y = k * y * x := by rw [Nat.mul_assoc, Nat.mul_comm x y, ← Nat.mul_assoc]
  have g0 := over_ge (n := M - k * y) (m := x) (x := y) (by omega)
  have g1 := over_lt (n := M - k * y) (m := x) (x := y) (by omega)
  generalize overW (M - k * y) x y = R at g0 g1 ⊢
  have e1 : (M - k * y) * x = M * x - k * y * x := Nat.sub_mul _ _ _
  have hR : N < R := Nat.lt_of_mul_lt_mul_right (a := y) (by omega)
  have g2 := g1 (by omega)
  refine ⟨hR, ?_, fun hs => ?_⟩
  · unfold behindB
    rw [decide_eq_false (by omega), Bool.and_false]
  · unfold behindB
    rw [rightN_yes x1 x2 (by omega), h2, decide_eq_true (by omega)]; rfl

set_option maxHeartbeats 8000000 in
set_option maxRecDepth 100000 in
theorem clips_walk (HCo : CompareOk) (HLe : LessOk) (HBe : BehindOk) (HRa : RaiseOk) (h l x g j y k : Nat) (w : World) (hh : h < 2 ^ 64) (hl : l < 2 ^ 64) (hx : x < 2 ^ 64) (hg : g < 2 ^ 64) (hj : j < 2 ^ 64) (hy : y < 2 ^ 64) (hk2 : k < 2 ^ 64)
    (hk : ∀ u, Calls Try.prog 9 #[] u (Said (.bool true) u)) :
    Calls Try.prog 8 #[.agg (fr h l x), .agg (fr g j y), .int .u64 (k : Int)] w (Said (.bool true) w) := by
  obtain ⟨N, hN⟩ : ∃ N, h * 2 ^ 64 + l = N := ⟨_, rfl⟩
  obtain ⟨M, hM⟩ : ∃ M, g * 2 ^ 64 + j = M := ⟨_, rfl⟩
  have hN2 : N < 2 ^ 128 := by omega
  have hM2 : M < 2 ^ 128 := by omega
  have eN : fq N x = fr h l x := by rw [← hN]; exact fq_of hl x
  have eM : fq M y = fr g j y := by rw [← hM]; exact fq_of hj y
  have HK := Lib.hid hk
  have hr := fun u => HRa N x M y k u hN2 hx hM2 hy hk2
  have hn := fun u => HBe N x M y k u hN2 hx hM2 hy hk2
  rw [eN, eM] at hr hn
  obtain ⟨K, K', B⟩ : Blk ((w.alloc (.cells (fr h l x) 26)).alloc (.cells (fr g j y) 26)) w.heap.size 26 (fr h l x) ∧ Blk ((w.alloc (.cells (fr h l x) 26)).alloc (.cells (fr g j y) 26)) (w.heap.size + 1) 26 (fr g j y) ∧ Below w.heap.size w ((w.alloc (.cells (fr h l x) 26)).alloc (.cells (fr g j y) 26)) := by
    refine ⟨(Blk.new _ _ _).alloc _, ?_, ?_⟩
    · have := Blk.new (w.alloc (.cells (fr h l x) 26)) 26 (fr g j y)
      rwa [show (w.alloc (.cells (fr h l x) 26)).heap.size = w.heap.size + 1 from Array.size_push ..] at this
    · have b1 := (Below.refl w.heap.size w).alloc (Nat.le_refl _) (.cells (fr h l x) 26)
      exact b1.alloc b1.size _
  have HB := Lib.hid (And.intro K (And.intro K' B))
  clear hk K K' B
  by_cases hb : (rightN N x && rightN M y) = true
  · have hb' := hb
    rw [Bool.and_eq_true] at hb'
    obtain ⟨r1, r2⟩ := hb'
    obtain ⟨x1, x2, x3⟩ := rightN_true r1
    by_cases hd : behindB N x M y k = true
    · obtain ⟨g1, g2, g3⟩ := raised hd
      by_cases hs : overW (M - k * y) x y < 2 ^ 100
      · have g3 := g3 hs
        have e1 : raiseR N x M y k = (overW (M - k * y) x y, x, 0) := by unfold raiseR; rw [if_pos hb, if_pos hd, if_pos hs]
        have e2 : raiseR (overW (M - k * y) x y) x M y k = (overW (M - k * y) x y, x, 0) := by
          unfold raiseR; rw [if_pos (by rw [rightN_yes x1 x2 hs, r2]; rfl), g2]; exact if_neg (by decide)
        rw [e1] at hr
        generalize overW (M - k * y) x y = R at *
        have hrr := rightN_yes x1 x2 hs
        obtain ⟨rh, rl, f1, f2, f3⟩ := halves R (by omega)
        obtain ⟨sh, sl, f4, f5, f6⟩ := halves (R - 1) (by omega)
        have eR : fq R x = fr rh rl x := by rw [f1]; exact fq_of f3 x
        have eS : fq (R - 1) x = fr sh sl x := by rw [f4]; exact fq_of f6 x
        have ha := fun u => HRa R x M y k u (by omega) hx hM2 hy hk2
        have hv := fun u => HBe R x M y k u (by omega) hx hM2 hy hk2
        have hc := fun u => HCo R x N x u (by omega) hx hN2 hx
        have hle := fun u => HLe R x 1 u (by omega) hx (by omega)
        have hw := fun u => HBe (R - 1) x M y k u (by omega) hx hM2 hy hk2
        have ec : cmpR R x N x = 1 := by unfold cmpR; rw [if_pos (by rw [hrr, r1]; rfl)]; exact cmpW_gt (Nat.mul_lt_mul_of_pos_right g1 (by omega))
        have el : lessR R x 1 = (R - 1, x, 0) := if_pos hrr
        rw [e2, eR, eM, f1, fe_some f3] at ha
        rw [g2, eR, eM] at hv
        rw [ec, eR, eN] at hc
        rw [el, eR, f4, fe_some f6] at hle
        rw [g3, eS, eM] at hw
        rw [f1, fe_some f3] at hr
        have hne : (((rh : Int) == (h : Int)) = false) ∨ (((rh : Int) == (h : Int)) = true ∧ ((rl : Int) == (l : Int)) = false) := by
          by_cases h0 : rh = h
          · exact .inr ⟨by simp; omega, by simp; omega⟩
          · exact .inl (by simp; omega)
        have HR := Lib.hid hr
        have HA := Lib.hid ha
        have HN := Lib.hid hv
        have HC := Lib.hid hc
        have HL := Lib.hid hle
        have HY := Lib.hid hw
        clear hr hn hb hd ha hv hc hle hw g1 g2 g3 e1 e2 hs hrr f1 f2 f3 f4 f5 f6 eR eS ec el hN hM hN2 hM2 eN eM hh hl hx hg hj hy hk2 HCo HLe HBe HRa r1 r2 x1 x2 x3
        unfold fr at HR HA HN HC HL HY HB
        rcases hne with hn0 | ⟨q1, hn0⟩
        · skip
          go_enter Try.func8, Try.ntmps8
          go_wp2_with fail
          refine (HK.out _).mono ?_
          rintro e w1 ⟨rfl, h1⟩
          have K1_0 := HB.out.1.below h1 HB.out.1.lt
          have K1_1 := HB.out.2.1.below h1 HB.out.2.1.lt
          have B1 := HB.out.2.2.trans (h1.mono HB.out.2.2.size)
          clear HB h1
          have c1_0_0 : w1.cell? ⟨w.heap.size, 0, none⟩ = some (.int .u64 (h : Int)) := K1_0.cell 0
          have c1_0_1 : w1.cell? ⟨w.heap.size, 1, none⟩ = some (.int .u64 (l : Int)) := K1_0.cell 1
          have c1_0_2 : w1.cell? ⟨w.heap.size, 2, none⟩ = some (.int .u64 (x : Int)) := K1_0.cell 2
          have q1_0 := K1_0.lt
          have c1_1_0 : w1.cell? ⟨(w.heap.size + 1), 0, none⟩ = some (.int .u64 (g : Int)) := K1_1.cell 0
          have c1_1_1 : w1.cell? ⟨(w.heap.size + 1), 1, none⟩ = some (.int .u64 (j : Int)) := K1_1.cell 1
          have c1_1_2 : w1.cell? ⟨(w.heap.size + 1), 2, none⟩ = some (.int .u64 (y : Int)) := K1_1.cell 2
          have q1_1 := K1_1.lt
          go_wp2_with fail
          refine (HR.out _).mono ?_
          rintro e w2 ⟨rfl, h2⟩
          have K2_0 := K1_0.below h2 K1_0.lt
          have K2_1 := K1_1.below h2 K1_1.lt
          have B2 := B1.trans (h2.mono B1.size)
          clear K1_0 K1_1 B1 h2 c1_0_0  c1_0_1  c1_0_2  c1_1_0  c1_1_1  c1_1_2 q1_0 q1_1
          have c2_0_0 : w2.cell? ⟨w.heap.size, 0, none⟩ = some (.int .u64 (h : Int)) := K2_0.cell 0
          have c2_0_1 : w2.cell? ⟨w.heap.size, 1, none⟩ = some (.int .u64 (l : Int)) := K2_0.cell 1
          have c2_0_2 : w2.cell? ⟨w.heap.size, 2, none⟩ = some (.int .u64 (x : Int)) := K2_0.cell 2
          have q2_0 := K2_0.lt
          have c2_1_0 : w2.cell? ⟨(w.heap.size + 1), 0, none⟩ = some (.int .u64 (g : Int)) := K2_1.cell 0
          have c2_1_1 : w2.cell? ⟨(w.heap.size + 1), 1, none⟩ = some (.int .u64 (j : Int)) := K2_1.cell 1
          have c2_1_2 : w2.cell? ⟨(w.heap.size + 1), 2, none⟩ = some (.int .u64 (y : Int)) := K2_1.cell 2
          have q2_1 := K2_1.lt
          go_wp2_with fail
          refine (HN.out _).mono ?_
          rintro e w3 ⟨rfl, h3⟩
          have K3_2 := (Blk.new w2 26 #[.int .u64 (rh : Int), .int .u64 (rl : Int), .int .u64 (x : Int)]).below h3 (Blk.new w2 26 _).lt
          have K3_0 := (K2_0.alloc (.cells #[.int .u64 (rh : Int), .int .u64 (rl : Int), .int .u64 (x : Int)] 26)).below h3 (K2_0.alloc (.cells #[.int .u64 (rh : Int), .int .u64 (rl : Int), .int .u64 (x : Int)] 26)).lt
          have K3_1 := (K2_1.alloc (.cells #[.int .u64 (rh : Int), .int .u64 (rl : Int), .int .u64 (x : Int)] 26)).below h3 (K2_1.alloc (.cells #[.int .u64 (rh : Int), .int .u64 (rl : Int), .int .u64 (x : Int)] 26)).lt
          have B3 := (B2.alloc B2.size (.cells #[.int .u64 (rh : Int), .int .u64 (rl : Int), .int .u64 (x : Int)] 26)).trans (h3.mono (B2.alloc B2.size _).size)
          clear K2_0 K2_1 B2 h3 c2_0_0  c2_0_1  c2_0_2  c2_1_0  c2_1_1  c2_1_2 q2_0 q2_1
          have c3_0_0 : w3.cell? ⟨w.heap.size, 0, none⟩ = some (.int .u64 (h : Int)) := K3_0.cell 0
          have c3_0_1 : w3.cell? ⟨w.heap.size, 1, none⟩ = some (.int .u64 (l : Int)) := K3_0.cell 1
          have c3_0_2 : w3.cell? ⟨w.heap.size, 2, none⟩ = some (.int .u64 (x : Int)) := K3_0.cell 2
          have q3_0 := K3_0.lt
          have c3_1_0 : w3.cell? ⟨(w.heap.size + 1), 0, none⟩ = some (.int .u64 (g : Int)) := K3_1.cell 0
          have c3_1_1 : w3.cell? ⟨(w.heap.size + 1), 1, none⟩ = some (.int .u64 (j : Int)) := K3_1.cell 1
          have c3_1_2 : w3.cell? ⟨(w.heap.size + 1), 2, none⟩ = some (.int .u64 (y : Int)) := K3_1.cell 2
          have q3_1 := K3_1.lt
          have c3_2_0 : w3.cell? ⟨w2.heap.size, 0, none⟩ = some (.int .u64 (rh : Int)) := K3_2.cell 0
          have c3_2_1 : w3.cell? ⟨w2.heap.size, 1, none⟩ = some (.int .u64 (rl : Int)) := K3_2.cell 1
          have c3_2_2 : w3.cell? ⟨w2.heap.size, 2, none⟩ = some (.int .u64 (x : Int)) := K3_2.cell 2
          have q3_2 := K3_2.lt
          go_wp2_with fail
          refine (HC.out _).mono ?_
          rintro e w4 ⟨rfl, h4⟩
          have K4_0 := K3_0.below h4 K3_0.lt
          have K4_1 := K3_1.below h4 K3_1.lt
          have K4_2 := K3_2.below h4 K3_2.lt
          have B4 := B3.trans (h4.mono B3.size)
          clear K3_0 K3_1 K3_2 B3 h4 c3_0_0  c3_0_1  c3_0_2  c3_1_0  c3_1_1  c3_1_2  c3_2_0  c3_2_1  c3_2_2 q3_0 q3_1 q3_2
          have c4_0_0 : w4.cell? ⟨w.heap.size, 0, none⟩ = some (.int .u64 (h : Int)) := K4_0.cell 0
          have c4_0_1 : w4.cell? ⟨w.heap.size, 1, none⟩ = some (.int .u64 (l : Int)) := K4_0.cell 1
          have c4_0_2 : w4.cell? ⟨w.heap.size, 2, none⟩ = some (.int .u64 (x : Int)) := K4_0.cell 2
          have q4_0 := K4_0.lt
          have c4_1_0 : w4.cell? ⟨(w.heap.size + 1), 0, none⟩ = some (.int .u64 (g : Int)) := K4_1.cell 0
          have c4_1_1 : w4.cell? ⟨(w.heap.size + 1), 1, none⟩ = some (.int .u64 (j : Int)) := K4_1.cell 1
          have c4_1_2 : w4.cell? ⟨(w.heap.size + 1), 2, none⟩ = some (.int .u64 (y : Int)) := K4_1.cell 2
          have q4_1 := K4_1.lt
          have c4_2_0 : w4.cell? ⟨w2.heap.size, 0, none⟩ = some (.int .u64 (rh : Int)) := K4_2.cell 0
          have c4_2_1 : w4.cell? ⟨w2.heap.size, 1, none⟩ = some (.int .u64 (rl : Int)) := K4_2.cell 1
          have c4_2_2 : w4.cell? ⟨w2.heap.size, 2, none⟩ = some (.int .u64 (x : Int)) := K4_2.cell 2
          have q4_2 := K4_2.lt
          go_wp2_with fail
          refine (HA.out _).mono ?_
          rintro e w5 ⟨rfl, h5⟩
          have K5_0 := K4_0.below h5 K4_0.lt
          have K5_1 := K4_1.below h5 K4_1.lt
          have K5_2 := K4_2.below h5 K4_2.lt
          have B5 := B4.trans (h5.mono B4.size)
          clear K4_0 K4_1 K4_2 B4 h5 c4_0_0  c4_0_1  c4_0_2  c4_1_0  c4_1_1  c4_1_2  c4_2_0  c4_2_1  c4_2_2 q4_0 q4_1 q4_2
          have c5_0_0 : w5.cell? ⟨w.heap.size, 0, none⟩ = some (.int .u64 (h : Int)) := K5_0.cell 0
          have c5_0_1 : w5.cell? ⟨w.heap.size, 1, none⟩ = some (.int .u64 (l : Int)) := K5_0.cell 1
          have c5_0_2 : w5.cell? ⟨w.heap.size, 2, none⟩ = some (.int .u64 (x : Int)) := K5_0.cell 2
          have q5_0 := K5_0.lt
          have c5_1_0 : w5.cell? ⟨(w.heap.size + 1), 0, none⟩ = some (.int .u64 (g : Int)) := K5_1.cell 0
          have c5_1_1 : w5.cell? ⟨(w.heap.size + 1), 1, none⟩ = some (.int .u64 (j : Int)) := K5_1.cell 1
          have c5_1_2 : w5.cell? ⟨(w.heap.size + 1), 2, none⟩ = some (.int .u64 (y : Int)) := K5_1.cell 2
          have q5_1 := K5_1.lt
          have c5_2_0 : w5.cell? ⟨w2.heap.size, 0, none⟩ = some (.int .u64 (rh : Int)) := K5_2.cell 0
          have c5_2_1 : w5.cell? ⟨w2.heap.size, 1, none⟩ = some (.int .u64 (rl : Int)) := K5_2.cell 1
          have c5_2_2 : w5.cell? ⟨w2.heap.size, 2, none⟩ = some (.int .u64 (x : Int)) := K5_2.cell 2
          have q5_2 := K5_2.lt
          go_wp2_with fail
          refine (HL.out _).mono ?_
          rintro e w6 ⟨rfl, h6⟩
          have K6_3 := (Blk.new w5 26 #[.int .u64 (rh : Int), .int .u64 (rl : Int), .int .u64 (x : Int)]).below h6 (Blk.new w5 26 _).lt
          have K6_0 := (K5_0.alloc (.cells #[.int .u64 (rh : Int), .int .u64 (rl : Int), .int .u64 (x : Int)] 26)).below h6 (K5_0.alloc (.cells #[.int .u64 (rh : Int), .int .u64 (rl : Int), .int .u64 (x : Int)] 26)).lt
          have K6_1 := (K5_1.alloc (.cells #[.int .u64 (rh : Int), .int .u64 (rl : Int), .int .u64 (x : Int)] 26)).below h6 (K5_1.alloc (.cells #[.int .u64 (rh : Int), .int .u64 (rl : Int), .int .u64 (x : Int)] 26)).lt
          have K6_2 := (K5_2.alloc (.cells #[.int .u64 (rh : Int), .int .u64 (rl : Int), .int .u64 (x : Int)] 26)).below h6 (K5_2.alloc (.cells #[.int .u64 (rh : Int), .int .u64 (rl : Int), .int .u64 (x : Int)] 26)).lt
          have B6 := (B5.alloc B5.size (.cells #[.int .u64 (rh : Int), .int .u64 (rl : Int), .int .u64 (x : Int)] 26)).trans (h6.mono (B5.alloc B5.size _).size)
          clear K5_0 K5_1 K5_2 B5 h6 c5_0_0  c5_0_1  c5_0_2  c5_1_0  c5_1_1  c5_1_2  c5_2_0  c5_2_1  c5_2_2 q5_0 q5_1 q5_2
          have c6_0_0 : w6.cell? ⟨w.heap.size, 0, none⟩ = some (.int .u64 (h : Int)) := K6_0.cell 0
          have c6_0_1 : w6.cell? ⟨w.heap.size, 1, none⟩ = some (.int .u64 (l : Int)) := K6_0.cell 1
          have c6_0_2 : w6.cell? ⟨w.heap.size, 2, none⟩ = some (.int .u64 (x : Int)) := K6_0.cell 2
          have q6_0 := K6_0.lt
          have c6_1_0 : w6.cell? ⟨(w.heap.size + 1), 0, none⟩ = some (.int .u64 (g : Int)) := K6_1.cell 0
          have c6_1_1 : w6.cell? ⟨(w.heap.size + 1), 1, none⟩ = some (.int .u64 (j : Int)) := K6_1.cell 1
          have c6_1_2 : w6.cell? ⟨(w.heap.size + 1), 2, none⟩ = some (.int .u64 (y : Int)) := K6_1.cell 2
          have q6_1 := K6_1.lt
          have c6_2_0 : w6.cell? ⟨w2.heap.size, 0, none⟩ = some (.int .u64 (rh : Int)) := K6_2.cell 0
          have c6_2_1 : w6.cell? ⟨w2.heap.size, 1, none⟩ = some (.int .u64 (rl : Int)) := K6_2.cell 1
          have c6_2_2 : w6.cell? ⟨w2.heap.size, 2, none⟩ = some (.int .u64 (x : Int)) := K6_2.cell 2
          have q6_2 := K6_2.lt
          have c6_3_0 : w6.cell? ⟨w5.heap.size, 0, none⟩ = some (.int .u64 (rh : Int)) := K6_3.cell 0
          have c6_3_1 : w6.cell? ⟨w5.heap.size, 1, none⟩ = some (.int .u64 (rl : Int)) := K6_3.cell 1
          have c6_3_2 : w6.cell? ⟨w5.heap.size, 2, none⟩ = some (.int .u64 (x : Int)) := K6_3.cell 2
          have q6_3 := K6_3.lt
          go_wp2_with fail
          refine (HY.out _).mono ?_
          rintro e w7 ⟨rfl, h7⟩
          have K7_4 := (Blk.new w6 26 #[.int .u64 (sh : Int), .int .u64 (sl : Int), .int .u64 (x : Int)]).below h7 (Blk.new w6 26 _).lt
          have K7_0 := (K6_0.alloc (.cells #[.int .u64 (sh : Int), .int .u64 (sl : Int), .int .u64 (x : Int)] 26)).below h7 (K6_0.alloc (.cells #[.int .u64 (sh : Int), .int .u64 (sl : Int), .int .u64 (x : Int)] 26)).lt
          have K7_1 := (K6_1.alloc (.cells #[.int .u64 (sh : Int), .int .u64 (sl : Int), .int .u64 (x : Int)] 26)).below h7 (K6_1.alloc (.cells #[.int .u64 (sh : Int), .int .u64 (sl : Int), .int .u64 (x : Int)] 26)).lt
          have K7_2 := (K6_2.alloc (.cells #[.int .u64 (sh : Int), .int .u64 (sl : Int), .int .u64 (x : Int)] 26)).below h7 (K6_2.alloc (.cells #[.int .u64 (sh : Int), .int .u64 (sl : Int), .int .u64 (x : Int)] 26)).lt
          have K7_3 := (K6_3.alloc (.cells #[.int .u64 (sh : Int), .int .u64 (sl : Int), .int .u64 (x : Int)] 26)).below h7 (K6_3.alloc (.cells #[.int .u64 (sh : Int), .int .u64 (sl : Int), .int .u64 (x : Int)] 26)).lt
          have B7 := (B6.alloc B6.size (.cells #[.int .u64 (sh : Int), .int .u64 (sl : Int), .int .u64 (x : Int)] 26)).trans (h7.mono (B6.alloc B6.size _).size)
          clear K6_0 K6_1 K6_2 K6_3 B6 h7 c6_0_0  c6_0_1  c6_0_2  c6_1_0  c6_1_1  c6_1_2  c6_2_0  c6_2_1  c6_2_2  c6_3_0  c6_3_1  c6_3_2 q6_0 q6_1 q6_2 q6_3
          have c7_0_0 : w7.cell? ⟨w.heap.size, 0, none⟩ = some (.int .u64 (h : Int)) := K7_0.cell 0
          have c7_0_1 : w7.cell? ⟨w.heap.size, 1, none⟩ = some (.int .u64 (l : Int)) := K7_0.cell 1
          have c7_0_2 : w7.cell? ⟨w.heap.size, 2, none⟩ = some (.int .u64 (x : Int)) := K7_0.cell 2
          have q7_0 := K7_0.lt
          have c7_1_0 : w7.cell? ⟨(w.heap.size + 1), 0, none⟩ = some (.int .u64 (g : Int)) := K7_1.cell 0
          have c7_1_1 : w7.cell? ⟨(w.heap.size + 1), 1, none⟩ = some (.int .u64 (j : Int)) := K7_1.cell 1
          have c7_1_2 : w7.cell? ⟨(w.heap.size + 1), 2, none⟩ = some (.int .u64 (y : Int)) := K7_1.cell 2
          have q7_1 := K7_1.lt
          have c7_2_0 : w7.cell? ⟨w2.heap.size, 0, none⟩ = some (.int .u64 (rh : Int)) := K7_2.cell 0
          have c7_2_1 : w7.cell? ⟨w2.heap.size, 1, none⟩ = some (.int .u64 (rl : Int)) := K7_2.cell 1
          have c7_2_2 : w7.cell? ⟨w2.heap.size, 2, none⟩ = some (.int .u64 (x : Int)) := K7_2.cell 2
          have q7_2 := K7_2.lt
          have c7_3_0 : w7.cell? ⟨w5.heap.size, 0, none⟩ = some (.int .u64 (rh : Int)) := K7_3.cell 0
          have c7_3_1 : w7.cell? ⟨w5.heap.size, 1, none⟩ = some (.int .u64 (rl : Int)) := K7_3.cell 1
          have c7_3_2 : w7.cell? ⟨w5.heap.size, 2, none⟩ = some (.int .u64 (x : Int)) := K7_3.cell 2
          have q7_3 := K7_3.lt
          have c7_4_0 : w7.cell? ⟨w6.heap.size, 0, none⟩ = some (.int .u64 (sh : Int)) := K7_4.cell 0
          have c7_4_1 : w7.cell? ⟨w6.heap.size, 1, none⟩ = some (.int .u64 (sl : Int)) := K7_4.cell 1
          have c7_4_2 : w7.cell? ⟨w6.heap.size, 2, none⟩ = some (.int .u64 (x : Int)) := K7_4.cell 2
          have q7_4 := K7_4.lt
          go_wp2
          go_ret
          exact ⟨rfl, B7⟩
        · skip
          go_enter Try.func8, Try.ntmps8
          go_wp2_with fail
          refine (HK.out _).mono ?_
          rintro e w1 ⟨rfl, h1⟩
          have K1_0 := HB.out.1.below h1 HB.out.1.lt
          have K1_1 := HB.out.2.1.below h1 HB.out.2.1.lt
          have B1 := HB.out.2.2.trans (h1.mono HB.out.2.2.size)
          clear HB h1
          have c1_0_0 : w1.cell? ⟨w.heap.size, 0, none⟩ = some (.int .u64 (h : Int)) := K1_0.cell 0
          have c1_0_1 : w1.cell? ⟨w.heap.size, 1, none⟩ = some (.int .u64 (l : Int)) := K1_0.cell 1
          have c1_0_2 : w1.cell? ⟨w.heap.size, 2, none⟩ = some (.int .u64 (x : Int)) := K1_0.cell 2
          have q1_0 := K1_0.lt
          have c1_1_0 : w1.cell? ⟨(w.heap.size + 1), 0, none⟩ = some (.int .u64 (g : Int)) := K1_1.cell 0
          have c1_1_1 : w1.cell? ⟨(w.heap.size + 1), 1, none⟩ = some (.int .u64 (j : Int)) := K1_1.cell 1
          have c1_1_2 : w1.cell? ⟨(w.heap.size + 1), 2, none⟩ = some (.int .u64 (y : Int)) := K1_1.cell 2
          have q1_1 := K1_1.lt
          go_wp2_with fail
          refine (HR.out _).mono ?_
          rintro e w2 ⟨rfl, h2⟩
          have K2_0 := K1_0.below h2 K1_0.lt
          have K2_1 := K1_1.below h2 K1_1.lt
          have B2 := B1.trans (h2.mono B1.size)
          clear K1_0 K1_1 B1 h2 c1_0_0  c1_0_1  c1_0_2  c1_1_0  c1_1_1  c1_1_2 q1_0 q1_1
          have c2_0_0 : w2.cell? ⟨w.heap.size, 0, none⟩ = some (.int .u64 (h : Int)) := K2_0.cell 0
          have c2_0_1 : w2.cell? ⟨w.heap.size, 1, none⟩ = some (.int .u64 (l : Int)) := K2_0.cell 1
          have c2_0_2 : w2.cell? ⟨w.heap.size, 2, none⟩ = some (.int .u64 (x : Int)) := K2_0.cell 2
          have q2_0 := K2_0.lt
          have c2_1_0 : w2.cell? ⟨(w.heap.size + 1), 0, none⟩ = some (.int .u64 (g : Int)) := K2_1.cell 0
          have c2_1_1 : w2.cell? ⟨(w.heap.size + 1), 1, none⟩ = some (.int .u64 (j : Int)) := K2_1.cell 1
          have c2_1_2 : w2.cell? ⟨(w.heap.size + 1), 2, none⟩ = some (.int .u64 (y : Int)) := K2_1.cell 2
          have q2_1 := K2_1.lt
          go_wp2_with fail
          refine (HN.out _).mono ?_
          rintro e w3 ⟨rfl, h3⟩
          have K3_2 := (Blk.new w2 26 #[.int .u64 (rh : Int), .int .u64 (rl : Int), .int .u64 (x : Int)]).below h3 (Blk.new w2 26 _).lt
          have K3_0 := (K2_0.alloc (.cells #[.int .u64 (rh : Int), .int .u64 (rl : Int), .int .u64 (x : Int)] 26)).below h3 (K2_0.alloc (.cells #[.int .u64 (rh : Int), .int .u64 (rl : Int), .int .u64 (x : Int)] 26)).lt
          have K3_1 := (K2_1.alloc (.cells #[.int .u64 (rh : Int), .int .u64 (rl : Int), .int .u64 (x : Int)] 26)).below h3 (K2_1.alloc (.cells #[.int .u64 (rh : Int), .int .u64 (rl : Int), .int .u64 (x : Int)] 26)).lt
          have B3 := (B2.alloc B2.size (.cells #[.int .u64 (rh : Int), .int .u64 (rl : Int), .int .u64 (x : Int)] 26)).trans (h3.mono (B2.alloc B2.size _).size)
          clear K2_0 K2_1 B2 h3 c2_0_0  c2_0_1  c2_0_2  c2_1_0  c2_1_1  c2_1_2 q2_0 q2_1
          have c3_0_0 : w3.cell? ⟨w.heap.size, 0, none⟩ = some (.int .u64 (h : Int)) := K3_0.cell 0
          have c3_0_1 : w3.cell? ⟨w.heap.size, 1, none⟩ = some (.int .u64 (l : Int)) := K3_0.cell 1
          have c3_0_2 : w3.cell? ⟨w.heap.size, 2, none⟩ = some (.int .u64 (x : Int)) := K3_0.cell 2
          have q3_0 := K3_0.lt
          have c3_1_0 : w3.cell? ⟨(w.heap.size + 1), 0, none⟩ = some (.int .u64 (g : Int)) := K3_1.cell 0
          have c3_1_1 : w3.cell? ⟨(w.heap.size + 1), 1, none⟩ = some (.int .u64 (j : Int)) := K3_1.cell 1
          have c3_1_2 : w3.cell? ⟨(w.heap.size + 1), 2, none⟩ = some (.int .u64 (y : Int)) := K3_1.cell 2
          have q3_1 := K3_1.lt
          have c3_2_0 : w3.cell? ⟨w2.heap.size, 0, none⟩ = some (.int .u64 (rh : Int)) := K3_2.cell 0
          have c3_2_1 : w3.cell? ⟨w2.heap.size, 1, none⟩ = some (.int .u64 (rl : Int)) := K3_2.cell 1
          have c3_2_2 : w3.cell? ⟨w2.heap.size, 2, none⟩ = some (.int .u64 (x : Int)) := K3_2.cell 2
          have q3_2 := K3_2.lt
          go_wp2_with fail
          refine (HC.out _).mono ?_
          rintro e w4 ⟨rfl, h4⟩
          have K4_0 := K3_0.below h4 K3_0.lt
          have K4_1 := K3_1.below h4 K3_1.lt
          have K4_2 := K3_2.below h4 K3_2.lt
          have B4 := B3.trans (h4.mono B3.size)
          clear K3_0 K3_1 K3_2 B3 h4 c3_0_0  c3_0_1  c3_0_2  c3_1_0  c3_1_1  c3_1_2  c3_2_0  c3_2_1  c3_2_2 q3_0 q3_1 q3_2
          have c4_0_0 : w4.cell? ⟨w.heap.size, 0, none⟩ = some (.int .u64 (h : Int)) := K4_0.cell 0
          have c4_0_1 : w4.cell? ⟨w.heap.size, 1, none⟩ = some (.int .u64 (l : Int)) := K4_0.cell 1
          have c4_0_2 : w4.cell? ⟨w.heap.size, 2, none⟩ = some (.int .u64 (x : Int)) := K4_0.cell 2
          have q4_0 := K4_0.lt
          have c4_1_0 : w4.cell? ⟨(w.heap.size + 1), 0, none⟩ = some (.int .u64 (g : Int)) := K4_1.cell 0
          have c4_1_1 : w4.cell? ⟨(w.heap.size + 1), 1, none⟩ = some (.int .u64 (j : Int)) := K4_1.cell 1
          have c4_1_2 : w4.cell? ⟨(w.heap.size + 1), 2, none⟩ = some (.int .u64 (y : Int)) := K4_1.cell 2
          have q4_1 := K4_1.lt
          have c4_2_0 : w4.cell? ⟨w2.heap.size, 0, none⟩ = some (.int .u64 (rh : Int)) := K4_2.cell 0
          have c4_2_1 : w4.cell? ⟨w2.heap.size, 1, none⟩ = some (.int .u64 (rl : Int)) := K4_2.cell 1
          have c4_2_2 : w4.cell? ⟨w2.heap.size, 2, none⟩ = some (.int .u64 (x : Int)) := K4_2.cell 2
          have q4_2 := K4_2.lt
          go_wp2_with fail
          refine (HA.out _).mono ?_
          rintro e w5 ⟨rfl, h5⟩
          have K5_0 := K4_0.below h5 K4_0.lt
          have K5_1 := K4_1.below h5 K4_1.lt
          have K5_2 := K4_2.below h5 K4_2.lt
          have B5 := B4.trans (h5.mono B4.size)
          clear K4_0 K4_1 K4_2 B4 h5 c4_0_0  c4_0_1  c4_0_2  c4_1_0  c4_1_1  c4_1_2  c4_2_0  c4_2_1  c4_2_2 q4_0 q4_1 q4_2
          have c5_0_0 : w5.cell? ⟨w.heap.size, 0, none⟩ = some (.int .u64 (h : Int)) := K5_0.cell 0
          have c5_0_1 : w5.cell? ⟨w.heap.size, 1, none⟩ = some (.int .u64 (l : Int)) := K5_0.cell 1
          have c5_0_2 : w5.cell? ⟨w.heap.size, 2, none⟩ = some (.int .u64 (x : Int)) := K5_0.cell 2
          have q5_0 := K5_0.lt
          have c5_1_0 : w5.cell? ⟨(w.heap.size + 1), 0, none⟩ = some (.int .u64 (g : Int)) := K5_1.cell 0
          have c5_1_1 : w5.cell? ⟨(w.heap.size + 1), 1, none⟩ = some (.int .u64 (j : Int)) := K5_1.cell 1
          have c5_1_2 : w5.cell? ⟨(w.heap.size + 1), 2, none⟩ = some (.int .u64 (y : Int)) := K5_1.cell 2
          have q5_1 := K5_1.lt
          have c5_2_0 : w5.cell? ⟨w2.heap.size, 0, none⟩ = some (.int .u64 (rh : Int)) := K5_2.cell 0
          have c5_2_1 : w5.cell? ⟨w2.heap.size, 1, none⟩ = some (.int .u64 (rl : Int)) := K5_2.cell 1
          have c5_2_2 : w5.cell? ⟨w2.heap.size, 2, none⟩ = some (.int .u64 (x : Int)) := K5_2.cell 2
          have q5_2 := K5_2.lt
          go_wp2_with fail
          refine (HL.out _).mono ?_
          rintro e w6 ⟨rfl, h6⟩
          have K6_3 := (Blk.new w5 26 #[.int .u64 (rh : Int), .int .u64 (rl : Int), .int .u64 (x : Int)]).below h6 (Blk.new w5 26 _).lt
          have K6_0 := (K5_0.alloc (.cells #[.int .u64 (rh : Int), .int .u64 (rl : Int), .int .u64 (x : Int)] 26)).below h6 (K5_0.alloc (.cells #[.int .u64 (rh : Int), .int .u64 (rl : Int), .int .u64 (x : Int)] 26)).lt
          have K6_1 := (K5_1.alloc (.cells #[.int .u64 (rh : Int), .int .u64 (rl : Int), .int .u64 (x : Int)] 26)).below h6 (K5_1.alloc (.cells #[.int .u64 (rh : Int), .int .u64 (rl : Int), .int .u64 (x : Int)] 26)).lt
          have K6_2 := (K5_2.alloc (.cells #[.int .u64 (rh : Int), .int .u64 (rl : Int), .int .u64 (x : Int)] 26)).below h6 (K5_2.alloc (.cells #[.int .u64 (rh : Int), .int .u64 (rl : Int), .int .u64 (x : Int)] 26)).lt
          have B6 := (B5.alloc B5.size (.cells #[.int .u64 (rh : Int), .int .u64 (rl : Int), .int .u64 (x : Int)] 26)).trans (h6.mono (B5.alloc B5.size _).size)
          clear K5_0 K5_1 K5_2 B5 h6 c5_0_0  c5_0_1  c5_0_2  c5_1_0  c5_1_1  c5_1_2  c5_2_0  c5_2_1  c5_2_2 q5_0 q5_1 q5_2
          have c6_0_0 : w6.cell? ⟨w.heap.size, 0, none⟩ = some (.int .u64 (h : Int)) := K6_0.cell 0
          have c6_0_1 : w6.cell? ⟨w.heap.size, 1, none⟩ = some (.int .u64 (l : Int)) := K6_0.cell 1
          have c6_0_2 : w6.cell? ⟨w.heap.size, 2, none⟩ = some (.int .u64 (x : Int)) := K6_0.cell 2
          have q6_0 := K6_0.lt
          have c6_1_0 : w6.cell? ⟨(w.heap.size + 1), 0, none⟩ = some (.int .u64 (g : Int)) := K6_1.cell 0
          have c6_1_1 : w6.cell? ⟨(w.heap.size + 1), 1, none⟩ = some (.int .u64 (j : Int)) := K6_1.cell 1
          have c6_1_2 : w6.cell? ⟨(w.heap.size + 1), 2, none⟩ = some (.int .u64 (y : Int)) := K6_1.cell 2
          have q6_1 := K6_1.lt
          have c6_2_0 : w6.cell? ⟨w2.heap.size, 0, none⟩ = some (.int .u64 (rh : Int)) := K6_2.cell 0
          have c6_2_1 : w6.cell? ⟨w2.heap.size, 1, none⟩ = some (.int .u64 (rl : Int)) := K6_2.cell 1
          have c6_2_2 : w6.cell? ⟨w2.heap.size, 2, none⟩ = some (.int .u64 (x : Int)) := K6_2.cell 2
          have q6_2 := K6_2.lt
          have c6_3_0 : w6.cell? ⟨w5.heap.size, 0, none⟩ = some (.int .u64 (rh : Int)) := K6_3.cell 0
          have c6_3_1 : w6.cell? ⟨w5.heap.size, 1, none⟩ = some (.int .u64 (rl : Int)) := K6_3.cell 1
          have c6_3_2 : w6.cell? ⟨w5.heap.size, 2, none⟩ = some (.int .u64 (x : Int)) := K6_3.cell 2
          have q6_3 := K6_3.lt
          go_wp2_with fail
          refine (HY.out _).mono ?_
          rintro e w7 ⟨rfl, h7⟩
          have K7_4 := (Blk.new w6 26 #[.int .u64 (sh : Int), .int .u64 (sl : Int), .int .u64 (x : Int)]).below h7 (Blk.new w6 26 _).lt
          have K7_0 := (K6_0.alloc (.cells #[.int .u64 (sh : Int), .int .u64 (sl : Int), .int .u64 (x : Int)] 26)).below h7 (K6_0.alloc (.cells #[.int .u64 (sh : Int), .int .u64 (sl : Int), .int .u64 (x : Int)] 26)).lt
          have K7_1 := (K6_1.alloc (.cells #[.int .u64 (sh : Int), .int .u64 (sl : Int), .int .u64 (x : Int)] 26)).below h7 (K6_1.alloc (.cells #[.int .u64 (sh : Int), .int .u64 (sl : Int), .int .u64 (x : Int)] 26)).lt
          have K7_2 := (K6_2.alloc (.cells #[.int .u64 (sh : Int), .int .u64 (sl : Int), .int .u64 (x : Int)] 26)).below h7 (K6_2.alloc (.cells #[.int .u64 (sh : Int), .int .u64 (sl : Int), .int .u64 (x : Int)] 26)).lt
          have K7_3 := (K6_3.alloc (.cells #[.int .u64 (sh : Int), .int .u64 (sl : Int), .int .u64 (x : Int)] 26)).below h7 (K6_3.alloc (.cells #[.int .u64 (sh : Int), .int .u64 (sl : Int), .int .u64 (x : Int)] 26)).lt
          have B7 := (B6.alloc B6.size (.cells #[.int .u64 (sh : Int), .int .u64 (sl : Int), .int .u64 (x : Int)] 26)).trans (h7.mono (B6.alloc B6.size _).size)
          clear K6_0 K6_1 K6_2 K6_3 B6 h7 c6_0_0  c6_0_1  c6_0_2  c6_1_0  c6_1_1  c6_1_2  c6_2_0  c6_2_1  c6_2_2  c6_3_0  c6_3_1  c6_3_2 q6_0 q6_1 q6_2 q6_3
          have c7_0_0 : w7.cell? ⟨w.heap.size, 0, none⟩ = some (.int .u64 (h : Int)) := K7_0.cell 0
          have c7_0_1 : w7.cell? ⟨w.heap.size, 1, none⟩ = some (.int .u64 (l : Int)) := K7_0.cell 1
          have c7_0_2 : w7.cell? ⟨w.heap.size, 2, none⟩ = some (.int .u64 (x : Int)) := K7_0.cell 2
          have q7_0 := K7_0.lt
          have c7_1_0 : w7.cell? ⟨(w.heap.size + 1), 0, none⟩ = some (.int .u64 (g : Int)) := K7_1.cell 0
          have c7_1_1 : w7.cell? ⟨(w.heap.size + 1), 1, none⟩ = some (.int .u64 (j : Int)) := K7_1.cell 1
          have c7_1_2 : w7.cell? ⟨(w.heap.size + 1), 2, none⟩ = some (.int .u64 (y : Int)) := K7_1.cell 2
          have q7_1 := K7_1.lt
          have c7_2_0 : w7.cell? ⟨w2.heap.size, 0, none⟩ = some (.int .u64 (rh : Int)) := K7_2.cell 0
          have c7_2_1 : w7.cell? ⟨w2.heap.size, 1, none⟩ = some (.int .u64 (rl : Int)) := K7_2.cell 1
          have c7_2_2 : w7.cell? ⟨w2.heap.size, 2, none⟩ = some (.int .u64 (x : Int)) := K7_2.cell 2
          have q7_2 := K7_2.lt
          have c7_3_0 : w7.cell? ⟨w5.heap.size, 0, none⟩ = some (.int .u64 (rh : Int)) := K7_3.cell 0
          have c7_3_1 : w7.cell? ⟨w5.heap.size, 1, none⟩ = some (.int .u64 (rl : Int)) := K7_3.cell 1
          have c7_3_2 : w7.cell? ⟨w5.heap.size, 2, none⟩ = some (.int .u64 (x : Int)) := K7_3.cell 2
          have q7_3 := K7_3.lt
          have c7_4_0 : w7.cell? ⟨w6.heap.size, 0, none⟩ = some (.int .u64 (sh : Int)) := K7_4.cell 0
          have c7_4_1 : w7.cell? ⟨w6.heap.size, 1, none⟩ = some (.int .u64 (sl : Int)) := K7_4.cell 1
          have c7_4_2 : w7.cell? ⟨w6.heap.size, 2, none⟩ = some (.int .u64 (x : Int)) := K7_4.cell 2
          have q7_4 := K7_4.lt
          go_wp2
          go_ret
          exact ⟨rfl, B7⟩
      · have e1 : raiseR N x M y k = (0, 0, 131) := by unfold raiseR; rw [if_pos hb, if_pos hd, if_neg hs]
        rw [e1, fe_none] at hr
        have HR := Lib.hid hr
        clear hr hn hb hd g1 g2 g3 e1 hs hN hM hN2 hM2 eN eM hh hl hx hg hj hy hk2 HCo HLe HBe HRa r1 r2 x1 x2 x3
        unfold fr at HR HB
        go_enter Try.func8, Try.ntmps8
        go_wp2_with fail
        refine (HK.out _).mono ?_
        rintro e w1 ⟨rfl, h1⟩
        have K1_0 := HB.out.1.below h1 HB.out.1.lt
        have K1_1 := HB.out.2.1.below h1 HB.out.2.1.lt
        have B1 := HB.out.2.2.trans (h1.mono HB.out.2.2.size)
        clear HB h1
        have c1_0_0 : w1.cell? ⟨w.heap.size, 0, none⟩ = some (.int .u64 (h : Int)) := K1_0.cell 0
        have c1_0_1 : w1.cell? ⟨w.heap.size, 1, none⟩ = some (.int .u64 (l : Int)) := K1_0.cell 1
        have c1_0_2 : w1.cell? ⟨w.heap.size, 2, none⟩ = some (.int .u64 (x : Int)) := K1_0.cell 2
        have q1_0 := K1_0.lt
        have c1_1_0 : w1.cell? ⟨(w.heap.size + 1), 0, none⟩ = some (.int .u64 (g : Int)) := K1_1.cell 0
        have c1_1_1 : w1.cell? ⟨(w.heap.size + 1), 1, none⟩ = some (.int .u64 (j : Int)) := K1_1.cell 1
        have c1_1_2 : w1.cell? ⟨(w.heap.size + 1), 2, none⟩ = some (.int .u64 (y : Int)) := K1_1.cell 2
        have q1_1 := K1_1.lt
        go_wp2_with fail
        refine (HR.out _).mono ?_
        rintro e w2 ⟨rfl, h2⟩
        have K2_0 := K1_0.below h2 K1_0.lt
        have K2_1 := K1_1.below h2 K1_1.lt
        have B2 := B1.trans (h2.mono B1.size)
        clear K1_0 K1_1 B1 h2 c1_0_0  c1_0_1  c1_0_2  c1_1_0  c1_1_1  c1_1_2 q1_0 q1_1
        have c2_0_0 : w2.cell? ⟨w.heap.size, 0, none⟩ = some (.int .u64 (h : Int)) := K2_0.cell 0
        have c2_0_1 : w2.cell? ⟨w.heap.size, 1, none⟩ = some (.int .u64 (l : Int)) := K2_0.cell 1
        have c2_0_2 : w2.cell? ⟨w.heap.size, 2, none⟩ = some (.int .u64 (x : Int)) := K2_0.cell 2
        have q2_0 := K2_0.lt
        have c2_1_0 : w2.cell? ⟨(w.heap.size + 1), 0, none⟩ = some (.int .u64 (g : Int)) := K2_1.cell 0
        have c2_1_1 : w2.cell? ⟨(w.heap.size + 1), 1, none⟩ = some (.int .u64 (j : Int)) := K2_1.cell 1
        have c2_1_2 : w2.cell? ⟨(w.heap.size + 1), 2, none⟩ = some (.int .u64 (y : Int)) := K2_1.cell 2
        have q2_1 := K2_1.lt
        go_wp2
        go_ret
        exact ⟨rfl, B2.alloc B2.size _⟩
    · have e1 : raiseR N x M y k = (N, x, 0) := by unfold raiseR; rw [if_pos hb, if_neg hd]
      have hc := fun u => HCo N x N x u hN2 hx hN2 hx
      have ec : cmpR N x N x = 0 := by unfold cmpR; rw [if_pos (by rw [r1]; rfl)]; exact cmpW_eq rfl
      rw [ec, eN] at hc
      rw [e1, ← hN, fe_some hl] at hr
      rw [Bool.eq_false_iff.2 hd] at hn
      have HR := Lib.hid hr
      have HN := Lib.hid hn
      have HC := Lib.hid hc
      clear hr hn hc hb hd e1 ec hN hM hN2 hM2 eN eM hh hl hx hg hj hy hk2 HCo HLe HBe HRa r1 r2 x1 x2 x3
      unfold fr at HR HN HC HB
      go_enter Try.func8, Try.ntmps8
      go_wp2_with fail
      refine (HK.out _).mono ?_
      rintro e w1 ⟨rfl, h1⟩
      have K1_0 := HB.out.1.below h1 HB.out.1.lt
      have K1_1 := HB.out.2.1.below h1 HB.out.2.1.lt
      have B1 := HB.out.2.2.trans (h1.mono HB.out.2.2.size)
      clear HB h1
      have c1_0_0 : w1.cell? ⟨w.heap.size, 0, none⟩ = some (.int .u64 (h : Int)) := K1_0.cell 0
      have c1_0_1 : w1.cell? ⟨w.heap.size, 1, none⟩ = some (.int .u64 (l : Int)) := K1_0.cell 1
      have c1_0_2 : w1.cell? ⟨w.heap.size, 2, none⟩ = some (.int .u64 (x : Int)) := K1_0.cell 2
      have q1_0 := K1_0.lt
      have c1_1_0 : w1.cell? ⟨(w.heap.size + 1), 0, none⟩ = some (.int .u64 (g : Int)) := K1_1.cell 0
      have c1_1_1 : w1.cell? ⟨(w.heap.size + 1), 1, none⟩ = some (.int .u64 (j : Int)) := K1_1.cell 1
      have c1_1_2 : w1.cell? ⟨(w.heap.size + 1), 2, none⟩ = some (.int .u64 (y : Int)) := K1_1.cell 2
      have q1_1 := K1_1.lt
      go_wp2_with fail
      refine (HR.out _).mono ?_
      rintro e w2 ⟨rfl, h2⟩
      have K2_0 := K1_0.below h2 K1_0.lt
      have K2_1 := K1_1.below h2 K1_1.lt
      have B2 := B1.trans (h2.mono B1.size)
      clear K1_0 K1_1 B1 h2 c1_0_0  c1_0_1  c1_0_2  c1_1_0  c1_1_1  c1_1_2 q1_0 q1_1
      have c2_0_0 : w2.cell? ⟨w.heap.size, 0, none⟩ = some (.int .u64 (h : Int)) := K2_0.cell 0
      have c2_0_1 : w2.cell? ⟨w.heap.size, 1, none⟩ = some (.int .u64 (l : Int)) := K2_0.cell 1
      have c2_0_2 : w2.cell? ⟨w.heap.size, 2, none⟩ = some (.int .u64 (x : Int)) := K2_0.cell 2
      have q2_0 := K2_0.lt
      have c2_1_0 : w2.cell? ⟨(w.heap.size + 1), 0, none⟩ = some (.int .u64 (g : Int)) := K2_1.cell 0
      have c2_1_1 : w2.cell? ⟨(w.heap.size + 1), 1, none⟩ = some (.int .u64 (j : Int)) := K2_1.cell 1
      have c2_1_2 : w2.cell? ⟨(w.heap.size + 1), 2, none⟩ = some (.int .u64 (y : Int)) := K2_1.cell 2
      have q2_1 := K2_1.lt
      go_wp2_with fail
      refine (HN.out _).mono ?_
      rintro e w3 ⟨rfl, h3⟩
      have K3_2 := (Blk.new w2 26 #[.int .u64 (h : Int), .int .u64 (l : Int), .int .u64 (x : Int)]).below h3 (Blk.new w2 26 _).lt
      have K3_0 := (K2_0.alloc (.cells #[.int .u64 (h : Int), .int .u64 (l : Int), .int .u64 (x : Int)] 26)).below h3 (K2_0.alloc (.cells #[.int .u64 (h : Int), .int .u64 (l : Int), .int .u64 (x : Int)] 26)).lt
      have K3_1 := (K2_1.alloc (.cells #[.int .u64 (h : Int), .int .u64 (l : Int), .int .u64 (x : Int)] 26)).below h3 (K2_1.alloc (.cells #[.int .u64 (h : Int), .int .u64 (l : Int), .int .u64 (x : Int)] 26)).lt
      have B3 := (B2.alloc B2.size (.cells #[.int .u64 (h : Int), .int .u64 (l : Int), .int .u64 (x : Int)] 26)).trans (h3.mono (B2.alloc B2.size _).size)
      clear K2_0 K2_1 B2 h3 c2_0_0  c2_0_1  c2_0_2  c2_1_0  c2_1_1  c2_1_2 q2_0 q2_1
      have c3_0_0 : w3.cell? ⟨w.heap.size, 0, none⟩ = some (.int .u64 (h : Int)) := K3_0.cell 0
      have c3_0_1 : w3.cell? ⟨w.heap.size, 1, none⟩ = some (.int .u64 (l : Int)) := K3_0.cell 1
      have c3_0_2 : w3.cell? ⟨w.heap.size, 2, none⟩ = some (.int .u64 (x : Int)) := K3_0.cell 2
      have q3_0 := K3_0.lt
      have c3_1_0 : w3.cell? ⟨(w.heap.size + 1), 0, none⟩ = some (.int .u64 (g : Int)) := K3_1.cell 0
      have c3_1_1 : w3.cell? ⟨(w.heap.size + 1), 1, none⟩ = some (.int .u64 (j : Int)) := K3_1.cell 1
      have c3_1_2 : w3.cell? ⟨(w.heap.size + 1), 2, none⟩ = some (.int .u64 (y : Int)) := K3_1.cell 2
      have q3_1 := K3_1.lt
      have c3_2_0 : w3.cell? ⟨w2.heap.size, 0, none⟩ = some (.int .u64 (h : Int)) := K3_2.cell 0
      have c3_2_1 : w3.cell? ⟨w2.heap.size, 1, none⟩ = some (.int .u64 (l : Int)) := K3_2.cell 1
      have c3_2_2 : w3.cell? ⟨w2.heap.size, 2, none⟩ = some (.int .u64 (x : Int)) := K3_2.cell 2
      have q3_2 := K3_2.lt
      go_wp2_with fail
      refine (HC.out _).mono ?_
      rintro e w4 ⟨rfl, h4⟩
      have K4_0 := K3_0.below h4 K3_0.lt
      have K4_1 := K3_1.below h4 K3_1.lt
      have K4_2 := K3_2.below h4 K3_2.lt
      have B4 := B3.trans (h4.mono B3.size)
      clear K3_0 K3_1 K3_2 B3 h4 c3_0_0  c3_0_1  c3_0_2  c3_1_0  c3_1_1  c3_1_2  c3_2_0  c3_2_1  c3_2_2 q3_0 q3_1 q3_2
      have c4_0_0 : w4.cell? ⟨w.heap.size, 0, none⟩ = some (.int .u64 (h : Int)) := K4_0.cell 0
      have c4_0_1 : w4.cell? ⟨w.heap.size, 1, none⟩ = some (.int .u64 (l : Int)) := K4_0.cell 1
      have c4_0_2 : w4.cell? ⟨w.heap.size, 2, none⟩ = some (.int .u64 (x : Int)) := K4_0.cell 2
      have q4_0 := K4_0.lt
      have c4_1_0 : w4.cell? ⟨(w.heap.size + 1), 0, none⟩ = some (.int .u64 (g : Int)) := K4_1.cell 0
      have c4_1_1 : w4.cell? ⟨(w.heap.size + 1), 1, none⟩ = some (.int .u64 (j : Int)) := K4_1.cell 1
      have c4_1_2 : w4.cell? ⟨(w.heap.size + 1), 2, none⟩ = some (.int .u64 (y : Int)) := K4_1.cell 2
      have q4_1 := K4_1.lt
      have c4_2_0 : w4.cell? ⟨w2.heap.size, 0, none⟩ = some (.int .u64 (h : Int)) := K4_2.cell 0
      have c4_2_1 : w4.cell? ⟨w2.heap.size, 1, none⟩ = some (.int .u64 (l : Int)) := K4_2.cell 1
      have c4_2_2 : w4.cell? ⟨w2.heap.size, 2, none⟩ = some (.int .u64 (x : Int)) := K4_2.cell 2
      have q4_2 := K4_2.lt
      go_wp2_with fail
      refine (HR.out _).mono ?_
      rintro e w5 ⟨rfl, h5⟩
      have K5_0 := K4_0.below h5 K4_0.lt
      have K5_1 := K4_1.below h5 K4_1.lt
      have K5_2 := K4_2.below h5 K4_2.lt
      have B5 := B4.trans (h5.mono B4.size)
      clear K4_0 K4_1 K4_2 B4 h5 c4_0_0  c4_0_1  c4_0_2  c4_1_0  c4_1_1  c4_1_2  c4_2_0  c4_2_1  c4_2_2 q4_0 q4_1 q4_2
      have c5_0_0 : w5.cell? ⟨w.heap.size, 0, none⟩ = some (.int .u64 (h : Int)) := K5_0.cell 0
      have c5_0_1 : w5.cell? ⟨w.heap.size, 1, none⟩ = some (.int .u64 (l : Int)) := K5_0.cell 1
      have c5_0_2 : w5.cell? ⟨w.heap.size, 2, none⟩ = some (.int .u64 (x : Int)) := K5_0.cell 2
      have q5_0 := K5_0.lt
      have c5_1_0 : w5.cell? ⟨(w.heap.size + 1), 0, none⟩ = some (.int .u64 (g : Int)) := K5_1.cell 0
      have c5_1_1 : w5.cell? ⟨(w.heap.size + 1), 1, none⟩ = some (.int .u64 (j : Int)) := K5_1.cell 1
      have c5_1_2 : w5.cell? ⟨(w.heap.size + 1), 2, none⟩ = some (.int .u64 (y : Int)) := K5_1.cell 2
      have q5_1 := K5_1.lt
      have c5_2_0 : w5.cell? ⟨w2.heap.size, 0, none⟩ = some (.int .u64 (h : Int)) := K5_2.cell 0
      have c5_2_1 : w5.cell? ⟨w2.heap.size, 1, none⟩ = some (.int .u64 (l : Int)) := K5_2.cell 1
      have c5_2_2 : w5.cell? ⟨w2.heap.size, 2, none⟩ = some (.int .u64 (x : Int)) := K5_2.cell 2
      have q5_2 := K5_2.lt
      go_wp2_with fail
      refine (HN.out _).mono ?_
      rintro e w6 ⟨rfl, h6⟩
      have K6_3 := (Blk.new w5 26 #[.int .u64 (h : Int), .int .u64 (l : Int), .int .u64 (x : Int)]).below h6 (Blk.new w5 26 _).lt
      have K6_0 := (K5_0.alloc (.cells #[.int .u64 (h : Int), .int .u64 (l : Int), .int .u64 (x : Int)] 26)).below h6 (K5_0.alloc (.cells #[.int .u64 (h : Int), .int .u64 (l : Int), .int .u64 (x : Int)] 26)).lt
      have K6_1 := (K5_1.alloc (.cells #[.int .u64 (h : Int), .int .u64 (l : Int), .int .u64 (x : Int)] 26)).below h6 (K5_1.alloc (.cells #[.int .u64 (h : Int), .int .u64 (l : Int), .int .u64 (x : Int)] 26)).lt
      have K6_2 := (K5_2.alloc (.cells #[.int .u64 (h : Int), .int .u64 (l : Int), .int .u64 (x : Int)] 26)).below h6 (K5_2.alloc (.cells #[.int .u64 (h : Int), .int .u64 (l : Int), .int .u64 (x : Int)] 26)).lt
      have B6 := (B5.alloc B5.size (.cells #[.int .u64 (h : Int), .int .u64 (l : Int), .int .u64 (x : Int)] 26)).trans (h6.mono (B5.alloc B5.size _).size)
      clear K5_0 K5_1 K5_2 B5 h6 c5_0_0  c5_0_1  c5_0_2  c5_1_0  c5_1_1  c5_1_2  c5_2_0  c5_2_1  c5_2_2 q5_0 q5_1 q5_2
      have c6_0_0 : w6.cell? ⟨w.heap.size, 0, none⟩ = some (.int .u64 (h : Int)) := K6_0.cell 0
      have c6_0_1 : w6.cell? ⟨w.heap.size, 1, none⟩ = some (.int .u64 (l : Int)) := K6_0.cell 1
      have c6_0_2 : w6.cell? ⟨w.heap.size, 2, none⟩ = some (.int .u64 (x : Int)) := K6_0.cell 2
      have q6_0 := K6_0.lt
      have c6_1_0 : w6.cell? ⟨(w.heap.size + 1), 0, none⟩ = some (.int .u64 (g : Int)) := K6_1.cell 0
      have c6_1_1 : w6.cell? ⟨(w.heap.size + 1), 1, none⟩ = some (.int .u64 (j : Int)) := K6_1.cell 1
      have c6_1_2 : w6.cell? ⟨(w.heap.size + 1), 2, none⟩ = some (.int .u64 (y : Int)) := K6_1.cell 2
      have q6_1 := K6_1.lt
      have c6_2_0 : w6.cell? ⟨w2.heap.size, 0, none⟩ = some (.int .u64 (h : Int)) := K6_2.cell 0
      have c6_2_1 : w6.cell? ⟨w2.heap.size, 1, none⟩ = some (.int .u64 (l : Int)) := K6_2.cell 1
      have c6_2_2 : w6.cell? ⟨w2.heap.size, 2, none⟩ = some (.int .u64 (x : Int)) := K6_2.cell 2
      have q6_2 := K6_2.lt
      have c6_3_0 : w6.cell? ⟨w5.heap.size, 0, none⟩ = some (.int .u64 (h : Int)) := K6_3.cell 0
      have c6_3_1 : w6.cell? ⟨w5.heap.size, 1, none⟩ = some (.int .u64 (l : Int)) := K6_3.cell 1
      have c6_3_2 : w6.cell? ⟨w5.heap.size, 2, none⟩ = some (.int .u64 (x : Int)) := K6_3.cell 2
      have q6_3 := K6_3.lt
      go_wp2
      go_ret
      exact ⟨rfl, B6⟩
  · have e1 : raiseR N x M y k = (0, 0, 150) := by unfold raiseR; rw [if_neg hb]
    rw [e1, fe_none] at hr
    have HR := Lib.hid hr
    clear hr hn hb e1 hN hM hN2 hM2 eN eM hh hl hx hg hj hy hk2 HCo HLe HBe HRa
    unfold fr at HR HB
    go_enter Try.func8, Try.ntmps8
    go_wp2_with fail
    refine (HK.out _).mono ?_
    rintro e w1 ⟨rfl, h1⟩
    have K1_0 := HB.out.1.below h1 HB.out.1.lt
    have K1_1 := HB.out.2.1.below h1 HB.out.2.1.lt
    have B1 := HB.out.2.2.trans (h1.mono HB.out.2.2.size)
    clear HB h1
    have c1_0_0 : w1.cell? ⟨w.heap.size, 0, none⟩ = some (.int .u64 (h : Int)) := K1_0.cell 0
    have c1_0_1 : w1.cell? ⟨w.heap.size, 1, none⟩ = some (.int .u64 (l : Int)) := K1_0.cell 1
    have c1_0_2 : w1.cell? ⟨w.heap.size, 2, none⟩ = some (.int .u64 (x : Int)) := K1_0.cell 2
    have q1_0 := K1_0.lt
    have c1_1_0 : w1.cell? ⟨(w.heap.size + 1), 0, none⟩ = some (.int .u64 (g : Int)) := K1_1.cell 0
    have c1_1_1 : w1.cell? ⟨(w.heap.size + 1), 1, none⟩ = some (.int .u64 (j : Int)) := K1_1.cell 1
    have c1_1_2 : w1.cell? ⟨(w.heap.size + 1), 2, none⟩ = some (.int .u64 (y : Int)) := K1_1.cell 2
    have q1_1 := K1_1.lt
    go_wp2_with fail
    refine (HR.out _).mono ?_
    rintro e w2 ⟨rfl, h2⟩
    have K2_0 := K1_0.below h2 K1_0.lt
    have K2_1 := K1_1.below h2 K1_1.lt
    have B2 := B1.trans (h2.mono B1.size)
    clear K1_0 K1_1 B1 h2 c1_0_0  c1_0_1  c1_0_2  c1_1_0  c1_1_1  c1_1_2 q1_0 q1_1
    have c2_0_0 : w2.cell? ⟨w.heap.size, 0, none⟩ = some (.int .u64 (h : Int)) := K2_0.cell 0
    have c2_0_1 : w2.cell? ⟨w.heap.size, 1, none⟩ = some (.int .u64 (l : Int)) := K2_0.cell 1
    have c2_0_2 : w2.cell? ⟨w.heap.size, 2, none⟩ = some (.int .u64 (x : Int)) := K2_0.cell 2
    have q2_0 := K2_0.lt
    have c2_1_0 : w2.cell? ⟨(w.heap.size + 1), 0, none⟩ = some (.int .u64 (g : Int)) := K2_1.cell 0
    have c2_1_1 : w2.cell? ⟨(w.heap.size + 1), 1, none⟩ = some (.int .u64 (j : Int)) := K2_1.cell 1
    have c2_1_2 : w2.cell? ⟨(w.heap.size + 1), 2, none⟩ = some (.int .u64 (y : Int)) := K2_1.cell 2
    have q2_1 := K2_1.lt
    go_wp2
    go_ret
    exact ⟨rfl, B2.alloc B2.size _⟩

end Go.Proofs.Ytodhkdaipmeblaa
