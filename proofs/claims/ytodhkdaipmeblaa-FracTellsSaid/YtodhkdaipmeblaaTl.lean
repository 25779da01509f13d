/-
  FracTells' walk, on what is asked of the landed calls.
-/
import Derived.Test.YtodhkdaipmeblaaFs
import Derived.Test.YtodhkdaipmeblaaFd
import Derived.Deep.DeepCutAuto
namespace Go.Proofs.Ytodhkdaipmeblaa
open Go.RowKit

theorem joining {G : Prop} (P : Prop) (main : Hid P → G) (p : P) : G := main (Lib.hid p)
/-- what is asked of the landed Whole -/
def WholeOk : Prop := ∀ (N x : Nat) (u : World), N < 2 ^ 128 → x < 2 ^ 64 → Calls Try.prog 16 #[.agg (fq N x)] u (Said (if rightN N x = true then .tuple #[.agg #[.int .u64 ((N / x / 2 ^ 64 : Nat) : Int), .int .u64 ((N / x % 2 ^ 64 : Nat) : Int)], .int .i64 0] else .tuple #[.agg #[.int .u64 0, .int .u64 0], .int .i64 150]) u)

set_option maxHeartbeats 16000000 in
set_option maxRecDepth 100000 in
theorem tells_walk (HCk : CheckOk) (HOf : OfOk) (HCo : CompareOk) (HWo : WholeOk) (h l x g j y n : Nat) (w : World) (hh : h < 2 ^ 64) (hl : l < 2 ^ 64) (hx : x < 2 ^ 64) (hg : g < 2 ^ 64) (hj : j < 2 ^ 64) (hy : y < 2 ^ 64) (hn : n < 2 ^ 64)
    (hk : ∀ u, Calls Try.prog 9 #[] u (Said (.bool true) u)) :
    Calls Try.prog 3 #[.agg (fr h l x), .agg (fr g j y), .int .u64 (n : Int)] w (Said (.bool true) w) := by
  obtain ⟨N, hN⟩ : ∃ N, h * 2 ^ 64 + l = N := ⟨_, rfl⟩
  obtain ⟨M, hM⟩ : ∃ M, g * 2 ^ 64 + j = M := ⟨_, rfl⟩
  have hN2 : N < 2 ^ 128 := by omega
  have hM2 : M < 2 ^ 128 := by omega
  have eN : fq N x = fr h l x := by rw [← hN]; exact fq_of hl x
  have eM : fq M y = fr g j y := by rw [← hM]; exact fq_of hj y
  have HK := Lib.hid hk
  have hr := fun u => rright_any h l x u
  have hrb := fun u => rright_any g j y u
  have hc := fun u => HCk N x u hN2 hx
  have ho := fun u => HOf n y u hn hy
  have hw : ∀ u, Calls Try.prog 13 #[.int .u64 (y : Int)] u (Said (.bool (weightB y)) u) := fun u => (rweight_any y u).mono fun _ _ h => ⟨h.1, h.2 ▸ Below.refl _ _⟩
  have hwh := fun u => HWo N x u hN2 hx
  have hc2 := fun u => HCo N x M y u hN2 hx hM2 hy
  rw [← rightN_of hl, hN] at hr
  rw [← rightN_of hj, hM] at hrb
  rw [eN] at hc hwh
  rw [eN, eM] at hc2
  obtain ⟨sh, sl, sx, wb, c1, e1, e2, e3⟩ : ∃ sh sl sx : Nat, ∃ wb : Bool, ∃ c1 : Int, fe (ofR n y) = .tuple #[.agg (fr sh sl sx), .int .i64 c1] ∧ weightB y = wb ∧
      ((wb = true ∧ c1 = 0 ∧ ((sh : Int) == 0) = true ∧ sl = n ∧ sx = y) ∨ (wb = false ∧ c1 = 2 ∧ ((sh : Int) == 0) = true ∧ ((sl : Int) == 0) = true ∧ ((sx : Int) == 0) = true)) := by
    by_cases hwt : weightB y = true
    · refine ⟨0, n, y, true, 0, ?_, hwt, .inl ⟨rfl, rfl, rfl, rfl, rfl⟩⟩
      unfold ofR
      rw [if_pos hwt]
      have := fe_some (h := 0) hn y 0
      rwa [Nat.zero_mul, Nat.zero_add] at this
    · exact ⟨0, 0, 0, false, 2, by unfold ofR; rw [if_neg hwt, fe_none], by simpa using hwt, .inr ⟨rfl, rfl, rfl, rfl, rfl⟩⟩
  rw [e1] at ho
  rw [e2] at hw
  have HO := Lib.hid ho
  have HW := Lib.hid hw
  obtain ⟨b1, b2, b3⟩ := blks2 w 26 26 (fr h l x) (fr g j y)
  have HB := Lib.hid (And.intro b1 (And.intro b2 b3))
  clear hk b1 b2 b3 e1 e2 ho hw
  by_cases ra : rightN N x = true
  · rw [ra] at hr
    rw [if_pos ra] at hc hwh
    obtain ⟨x1, x2, x3⟩ := rightN_true ra
    have hoa := fun u => of_c h l u hh hl
    have hox := fun u => of_low x u hx
    rw [hN] at hoa
    have hqq := fun u => quotient_c N x u (by omega) (by omega) (by omega)
    have hQb : N / x < 2 ^ 128 := Nat.lt_of_le_of_lt (Nat.div_le_self _ _) hN2
    have hnn := fun u => number_c (N / x) u (by omega)
    rw [Nat.mod_eq_of_lt hQb, decide_eq_true hQb] at hnn
    generalize N / x = Q at *
    generalize N % x = R at *
    generalize Q / 2 ^ 64 = wh at *
    generalize Q % 2 ^ 64 = wl at *
    obtain ⟨rb, p, f1, f2, f3⟩ : ∃ rb : Bool, ∃ p : Int, rightN M y = rb ∧ cmpR N x M y = p ∧ ((rb = true ∧ ∀ u, Calls Try.prog 14 #[.agg (fr h l x), .agg (fr g j y)] u (Said (.int .i64 p) u)) ∨ (rb = false ∧ p = 0)) := by
      by_cases rb : rightN M y = true
      · refine ⟨true, cmpR N x M y, rb, rfl, .inl ⟨rfl, fun u => ?_⟩⟩
        have := rcompare_any h l x g j y u hh hl hx hg hj hy
        rw [hN, hM] at this
        rw [show cmpR N x M y = cmpI (N * y) (M * x) from if_pos (by rw [ra, rb]; rfl)]
        exact this
      · exact ⟨false, 0, by simpa using rb, if_neg (by rw [ra]; simpa using rb), .inr ⟨rfl, rfl⟩⟩
    rw [f1] at hrb
    rw [f2] at hc2
    have HX := Lib.hid (And.intro e3 f3)
    have HR := Lib.hid hr
    have HC := Lib.hid hc
    have HRb := Lib.hid hrb
    have HC2 := Lib.hid hc2
    have HWh := Lib.hid hwh
    have HOA := Lib.hid hoa
    have HOX := Lib.hid hox
    have HQ := Lib.hid hqq
    have HN := Lib.hid hnn
    clear hr hrb hc hc2 hwh hoa hox hqq hnn e3 f1 f2 f3 hQb ra x1 x2 x3 hN hM hN2 hM2 eN eM hh hl hx hg hj hy hn HCk HOf HCo HWo
    unfold fr at *
    go_enter Try.func3, Try.ntmps3
    go_wp2_with fail
    refine (HK.out _).mono ?_
    rintro e w21 ⟨rfl, h2⟩
    have k1 := HB.out.1.below h2 HB.out.1.lt
    have k2 := HB.out.2.1.below h2 HB.out.2.1.lt
    have B1 := HB.out.2.2.trans (h2.mono HB.out.2.2.size)
    clear h2 HB
    have p_k1_0 : World.cell? w21 ⟨w.heap.size, 0, none⟩ = some (.int .u64 (h : Int)) := k1.cell 0
    have p_k1_1 : World.cell? w21 ⟨w.heap.size, 1, none⟩ = some (.int .u64 (l : Int)) := k1.cell 1
    have p_k1_2 : World.cell? w21 ⟨w.heap.size, 2, none⟩ = some (.int .u64 (x : Int)) := k1.cell 2
    have p_k2_0 : World.cell? w21 ⟨(w.heap.size + 1), 0, none⟩ = some (.int .u64 (g : Int)) := k2.cell 0
    have p_k2_1 : World.cell? w21 ⟨(w.heap.size + 1), 1, none⟩ = some (.int .u64 (j : Int)) := k2.cell 1
    have p_k2_2 : World.cell? w21 ⟨(w.heap.size + 1), 2, none⟩ = some (.int .u64 (y : Int)) := k2.cell 2
    go_wp2_with fail
    refine (HR.out _).mono ?_
    rintro e w22 ⟨rfl, h2⟩
    replace k1 := k1.below h2 k1.lt
    replace k2 := k2.below h2 k2.lt
    replace B1 := B1.trans (h2.mono B1.size)
    clear h2 p_k1_0 p_k1_1 p_k1_2 p_k2_0 p_k2_1 p_k2_2
    have p_k1_0 : World.cell? w22 ⟨w.heap.size, 0, none⟩ = some (.int .u64 (h : Int)) := k1.cell 0
    have p_k1_1 : World.cell? w22 ⟨w.heap.size, 1, none⟩ = some (.int .u64 (l : Int)) := k1.cell 1
    have p_k1_2 : World.cell? w22 ⟨w.heap.size, 2, none⟩ = some (.int .u64 (x : Int)) := k1.cell 2
    have p_k2_0 : World.cell? w22 ⟨(w.heap.size + 1), 0, none⟩ = some (.int .u64 (g : Int)) := k2.cell 0
    have p_k2_1 : World.cell? w22 ⟨(w.heap.size + 1), 1, none⟩ = some (.int .u64 (j : Int)) := k2.cell 1
    have p_k2_2 : World.cell? w22 ⟨(w.heap.size + 1), 2, none⟩ = some (.int .u64 (y : Int)) := k2.cell 2
    go_wp2_with fail
    refine (HC.out _).mono ?_
    rintro e w23 ⟨rfl, h2⟩
    replace k1 := k1.below h2 k1.lt
    replace k2 := k2.below h2 k2.lt
    replace B1 := B1.trans (h2.mono B1.size)
    clear h2 p_k1_0 p_k1_1 p_k1_2 p_k2_0 p_k2_1 p_k2_2
    have p_k1_0 : World.cell? w23 ⟨w.heap.size, 0, none⟩ = some (.int .u64 (h : Int)) := k1.cell 0
    have p_k1_1 : World.cell? w23 ⟨w.heap.size, 1, none⟩ = some (.int .u64 (l : Int)) := k1.cell 1
    have p_k1_2 : World.cell? w23 ⟨w.heap.size, 2, none⟩ = some (.int .u64 (x : Int)) := k1.cell 2
    have p_k2_0 : World.cell? w23 ⟨(w.heap.size + 1), 0, none⟩ = some (.int .u64 (g : Int)) := k2.cell 0
    have p_k2_1 : World.cell? w23 ⟨(w.heap.size + 1), 1, none⟩ = some (.int .u64 (j : Int)) := k2.cell 1
    have p_k2_2 : World.cell? w23 ⟨(w.heap.size + 1), 2, none⟩ = some (.int .u64 (y : Int)) := k2.cell 2
    go_wp2_with fail
    refine (HO.out _).mono ?_
    rintro e w24 ⟨rfl, h2⟩
    replace k1 := k1.below h2 k1.lt
    replace k2 := k2.below h2 k2.lt
    replace B1 := B1.trans (h2.mono B1.size)
    clear h2 p_k1_0 p_k1_1 p_k1_2 p_k2_0 p_k2_1 p_k2_2
    have p_k1_0 : World.cell? w24 ⟨w.heap.size, 0, none⟩ = some (.int .u64 (h : Int)) := k1.cell 0
    have p_k1_1 : World.cell? w24 ⟨w.heap.size, 1, none⟩ = some (.int .u64 (l : Int)) := k1.cell 1
    have p_k1_2 : World.cell? w24 ⟨w.heap.size, 2, none⟩ = some (.int .u64 (x : Int)) := k1.cell 2
    have p_k2_0 : World.cell? w24 ⟨(w.heap.size + 1), 0, none⟩ = some (.int .u64 (g : Int)) := k2.cell 0
    have p_k2_1 : World.cell? w24 ⟨(w.heap.size + 1), 1, none⟩ = some (.int .u64 (j : Int)) := k2.cell 1
    have p_k2_2 : World.cell? w24 ⟨(w.heap.size + 1), 2, none⟩ = some (.int .u64 (y : Int)) := k2.cell 2
    go_upto_region 8 with fail
    have j1 := Blk.new w24 26 #[.int .u64 (sh : Int), .int .u64 (sl : Int), .int .u64 (sx : Int)]
    replace k1 := k1.alloc (.cells #[.int .u64 (sh : Int), .int .u64 (sl : Int), .int .u64 (sx : Int)] 26)
    replace k2 := k2.alloc (.cells #[.int .u64 (sh : Int), .int .u64 (sl : Int), .int .u64 (sx : Int)] 26)
    replace B1 := B1.alloc B1.size (.cells #[.int .u64 (sh : Int), .int .u64 (sl : Int), .int .u64 (sx : Int)] 26)
    clear  p_k1_0 p_k1_1 p_k1_2 p_k2_0 p_k2_1 p_k2_2
    generalize w24.alloc (.cells #[.int .u64 (sh : Int), .int .u64 (sl : Int), .int .u64 (sx : Int)] 26) = W2 at B1 k1 k2 j1 ⊢
    generalize w24.heap.size = g2 at j1 ⊢
    have p_k1_0 : World.cell? W2 ⟨w.heap.size, 0, none⟩ = some (.int .u64 (h : Int)) := k1.cell 0
    have p_k1_1 : World.cell? W2 ⟨w.heap.size, 1, none⟩ = some (.int .u64 (l : Int)) := k1.cell 1
    have p_k1_2 : World.cell? W2 ⟨w.heap.size, 2, none⟩ = some (.int .u64 (x : Int)) := k1.cell 2
    have p_k2_0 : World.cell? W2 ⟨(w.heap.size + 1), 0, none⟩ = some (.int .u64 (g : Int)) := k2.cell 0
    have p_k2_1 : World.cell? W2 ⟨(w.heap.size + 1), 1, none⟩ = some (.int .u64 (j : Int)) := k2.cell 1
    have p_k2_2 : World.cell? W2 ⟨(w.heap.size + 1), 2, none⟩ = some (.int .u64 (y : Int)) := k2.cell 2
    have p_j1_0 : World.cell? W2 ⟨g2, 0, none⟩ = some (.int .u64 (sh : Int)) := j1.cell 0
    have p_j1_1 : World.cell? W2 ⟨g2, 1, none⟩ = some (.int .u64 (sl : Int)) := j1.cell 1
    have p_j1_2 : World.cell? W2 ⟨g2, 2, none⟩ = some (.int .u64 (sx : Int)) := j1.cell 2
    go_wp2_with fail
    refine (HW.out _).mono ?_
    rintro e w25 ⟨rfl, h2⟩
    replace k1 := k1.below h2 k1.lt
    replace k2 := k2.below h2 k2.lt
    replace j1 := j1.below h2 j1.lt
    replace B1 := B1.trans (h2.mono B1.size)
    clear h2 p_k1_0 p_k1_1 p_k1_2 p_k2_0 p_k2_1 p_k2_2 p_j1_0 p_j1_1 p_j1_2
    have p_k1_0 : World.cell? w25 ⟨w.heap.size, 0, none⟩ = some (.int .u64 (h : Int)) := k1.cell 0
    have p_k1_1 : World.cell? w25 ⟨w.heap.size, 1, none⟩ = some (.int .u64 (l : Int)) := k1.cell 1
    have p_k1_2 : World.cell? w25 ⟨w.heap.size, 2, none⟩ = some (.int .u64 (x : Int)) := k1.cell 2
    have p_k2_0 : World.cell? w25 ⟨(w.heap.size + 1), 0, none⟩ = some (.int .u64 (g : Int)) := k2.cell 0
    have p_k2_1 : World.cell? w25 ⟨(w.heap.size + 1), 1, none⟩ = some (.int .u64 (j : Int)) := k2.cell 1
    have p_k2_2 : World.cell? w25 ⟨(w.heap.size + 1), 2, none⟩ = some (.int .u64 (y : Int)) := k2.cell 2
    have p_j1_0 : World.cell? w25 ⟨g2, 0, none⟩ = some (.int .u64 (sh : Int)) := j1.cell 0
    have p_j1_1 : World.cell? w25 ⟨g2, 1, none⟩ = some (.int .u64 (sl : Int)) := j1.cell 1
    have p_j1_2 : World.cell? w25 ⟨g2, 2, none⟩ = some (.int .u64 (sx : Int)) := j1.cell 2
    go_upto_region 9 with fail
    go_cut [74] (fun s74 wx => s74 = .bool false ∧ Blk wx w.heap.size 26 #[.int .u64 (h : Int), .int .u64 (l : Int), .int .u64 (x : Int)] ∧ Blk wx (w.heap.size + 1) 26 #[.int .u64 (g : Int), .int .u64 (j : Int), .int .u64 (y : Int)] ∧ Blk wx g2 26 #[.int .u64 (sh : Int), .int .u64 (sl : Int), .int .u64 (sx : Int)] ∧ Below w.heap.size w wx)
    case first =>
      rcases HX.out.1 with ⟨rfl, rfl, q1, rfl, rfl⟩ | ⟨rfl, rfl, q1, q2, q3⟩
      · clear HX
        go_wp2_with fail
        go_meet
        exact ⟨rfl, k1, k2, j1, B1⟩
      · clear HX
        go_wp2_with fail
        go_meet
        exact ⟨rfl, k1, k2, j1, B1⟩
    case rest =>
      clear B1 k1 k2 j1 
      clear  p_k1_0 p_k1_1 p_k1_2 p_k2_0 p_k2_1 p_k2_2 p_j1_0 p_j1_1 p_j1_2
      obtain ⟨rfl, k1, k2, j1, B1⟩ := hcut
      have p_k1_0 : World.cell? _ ⟨w.heap.size, 0, none⟩ = some (.int .u64 (h : Int)) := k1.cell 0
      have p_k1_1 : World.cell? _ ⟨w.heap.size, 1, none⟩ = some (.int .u64 (l : Int)) := k1.cell 1
      have p_k1_2 : World.cell? _ ⟨w.heap.size, 2, none⟩ = some (.int .u64 (x : Int)) := k1.cell 2
      have p_k2_0 : World.cell? _ ⟨(w.heap.size + 1), 0, none⟩ = some (.int .u64 (g : Int)) := k2.cell 0
      have p_k2_1 : World.cell? _ ⟨(w.heap.size + 1), 1, none⟩ = some (.int .u64 (j : Int)) := k2.cell 1
      have p_k2_2 : World.cell? _ ⟨(w.heap.size + 1), 2, none⟩ = some (.int .u64 (y : Int)) := k2.cell 2
      have p_j1_0 : World.cell? _ ⟨g2, 0, none⟩ = some (.int .u64 (sh : Int)) := j1.cell 0
      have p_j1_1 : World.cell? _ ⟨g2, 1, none⟩ = some (.int .u64 (sl : Int)) := j1.cell 1
      have p_j1_2 : World.cell? _ ⟨g2, 2, none⟩ = some (.int .u64 (sx : Int)) := j1.cell 2
      clear j1 p_j1_0 p_j1_1 p_j1_2
      go_wp2_with fail
      refine (HRb.out _).mono ?_
      rintro e w26 ⟨rfl, h2⟩
      replace k1 := k1.below h2 k1.lt
      replace k2 := k2.below h2 k2.lt
      replace B1 := B1.trans (h2.mono B1.size)
      clear h2 p_k1_0 p_k1_1 p_k1_2 p_k2_0 p_k2_1 p_k2_2
      have p_k1_0 : World.cell? w26 ⟨w.heap.size, 0, none⟩ = some (.int .u64 (h : Int)) := k1.cell 0
      have p_k1_1 : World.cell? w26 ⟨w.heap.size, 1, none⟩ = some (.int .u64 (l : Int)) := k1.cell 1
      have p_k1_2 : World.cell? w26 ⟨w.heap.size, 2, none⟩ = some (.int .u64 (x : Int)) := k1.cell 2
      have p_k2_0 : World.cell? w26 ⟨(w.heap.size + 1), 0, none⟩ = some (.int .u64 (g : Int)) := k2.cell 0
      have p_k2_1 : World.cell? w26 ⟨(w.heap.size + 1), 1, none⟩ = some (.int .u64 (j : Int)) := k2.cell 1
      have p_k2_2 : World.cell? w26 ⟨(w.heap.size + 1), 2, none⟩ = some (.int .u64 (y : Int)) := k2.cell 2
      go_upto_if 79 with fail
      go_cut [12] (fun s12 wx => s12 = .int .i64 p ∧ Blk wx w.heap.size 26 #[.int .u64 (h : Int), .int .u64 (l : Int), .int .u64 (x : Int)] ∧ Blk wx (w.heap.size + 1) 26 #[.int .u64 (g : Int), .int .u64 (j : Int), .int .u64 (y : Int)] ∧ Below w.heap.size w wx)
      case first =>
        rcases HX.out.2 with ⟨rfl, hrc⟩ | ⟨rfl, rfl⟩
        · have HRC := Lib.hid hrc
          clear hrc HX
          go_wp2_with fail
          refine (HRC.out _).mono ?_
          rintro e w27 ⟨rfl, h2⟩
          replace k1 := k1.below h2 k1.lt
          replace k2 := k2.below h2 k2.lt
          replace B1 := B1.trans (h2.mono B1.size)
          clear h2 p_k1_0 p_k1_1 p_k1_2 p_k2_0 p_k2_1 p_k2_2
          have p_k1_0 : World.cell? w27 ⟨w.heap.size, 0, none⟩ = some (.int .u64 (h : Int)) := k1.cell 0
          have p_k1_1 : World.cell? w27 ⟨w.heap.size, 1, none⟩ = some (.int .u64 (l : Int)) := k1.cell 1
          have p_k1_2 : World.cell? w27 ⟨w.heap.size, 2, none⟩ = some (.int .u64 (x : Int)) := k1.cell 2
          have p_k2_0 : World.cell? w27 ⟨(w.heap.size + 1), 0, none⟩ = some (.int .u64 (g : Int)) := k2.cell 0
          have p_k2_1 : World.cell? w27 ⟨(w.heap.size + 1), 1, none⟩ = some (.int .u64 (j : Int)) := k2.cell 1
          have p_k2_2 : World.cell? w27 ⟨(w.heap.size + 1), 2, none⟩ = some (.int .u64 (y : Int)) := k2.cell 2
          go_wp2_with fail
          go_meet
          exact ⟨rfl, k1, k2, B1⟩
        · clear HX
          go_wp2_with fail
          go_meet
          exact ⟨rfl, k1, k2, B1⟩
      case rest =>
        clear B1 k1 k2 
        clear  p_k1_0 p_k1_1 p_k1_2 p_k2_0 p_k2_1 p_k2_2
        obtain ⟨rfl, k1, k2, B1⟩ := hcut
        have p_k1_0 : World.cell? _ ⟨w.heap.size, 0, none⟩ = some (.int .u64 (h : Int)) := k1.cell 0
        have p_k1_1 : World.cell? _ ⟨w.heap.size, 1, none⟩ = some (.int .u64 (l : Int)) := k1.cell 1
        have p_k1_2 : World.cell? _ ⟨w.heap.size, 2, none⟩ = some (.int .u64 (x : Int)) := k1.cell 2
        have p_k2_0 : World.cell? _ ⟨(w.heap.size + 1), 0, none⟩ = some (.int .u64 (g : Int)) := k2.cell 0
        have p_k2_1 : World.cell? _ ⟨(w.heap.size + 1), 1, none⟩ = some (.int .u64 (j : Int)) := k2.cell 1
        have p_k2_2 : World.cell? _ ⟨(w.heap.size + 1), 2, none⟩ = some (.int .u64 (y : Int)) := k2.cell 2
        clear HX
        go_wp2_with fail
        refine (HC2.out _).mono ?_
        rintro e w27 ⟨rfl, h2⟩
        replace k1 := k1.below h2 k1.lt
        replace k2 := k2.below h2 k2.lt
        replace B1 := B1.trans (h2.mono B1.size)
        clear h2 p_k1_0 p_k1_1 p_k1_2 p_k2_0 p_k2_1 p_k2_2
        have p_k1_0 : World.cell? w27 ⟨w.heap.size, 0, none⟩ = some (.int .u64 (h : Int)) := k1.cell 0
        have p_k1_1 : World.cell? w27 ⟨w.heap.size, 1, none⟩ = some (.int .u64 (l : Int)) := k1.cell 1
        have p_k1_2 : World.cell? w27 ⟨w.heap.size, 2, none⟩ = some (.int .u64 (x : Int)) := k1.cell 2
        have p_k2_0 : World.cell? w27 ⟨(w.heap.size + 1), 0, none⟩ = some (.int .u64 (g : Int)) := k2.cell 0
        have p_k2_1 : World.cell? w27 ⟨(w.heap.size + 1), 1, none⟩ = some (.int .u64 (j : Int)) := k2.cell 1
        have p_k2_2 : World.cell? w27 ⟨(w.heap.size + 1), 2, none⟩ = some (.int .u64 (y : Int)) := k2.cell 2
        go_wp2_with fail
        refine (HWh.out _).mono ?_
        rintro e w28 ⟨rfl, h2⟩
        replace k1 := k1.below h2 k1.lt
        replace k2 := k2.below h2 k2.lt
        replace B1 := B1.trans (h2.mono B1.size)
        clear h2 p_k1_0 p_k1_1 p_k1_2 p_k2_0 p_k2_1 p_k2_2
        have p_k1_0 : World.cell? w28 ⟨w.heap.size, 0, none⟩ = some (.int .u64 (h : Int)) := k1.cell 0
        have p_k1_1 : World.cell? w28 ⟨w.heap.size, 1, none⟩ = some (.int .u64 (l : Int)) := k1.cell 1
        have p_k1_2 : World.cell? w28 ⟨w.heap.size, 2, none⟩ = some (.int .u64 (x : Int)) := k1.cell 2
        have p_k2_0 : World.cell? w28 ⟨(w.heap.size + 1), 0, none⟩ = some (.int .u64 (g : Int)) := k2.cell 0
        have p_k2_1 : World.cell? w28 ⟨(w.heap.size + 1), 1, none⟩ = some (.int .u64 (j : Int)) := k2.cell 1
        have p_k2_2 : World.cell? w28 ⟨(w.heap.size + 1), 2, none⟩ = some (.int .u64 (y : Int)) := k2.cell 2
        go_upto_region 17 with fail
        have j2 := Blk.new w28 24 #[.int .u64 (wh : Int), .int .u64 (wl : Int)]
        replace k1 := k1.alloc (.cells #[.int .u64 (wh : Int), .int .u64 (wl : Int)] 24)
        replace k2 := k2.alloc (.cells #[.int .u64 (wh : Int), .int .u64 (wl : Int)] 24)
        replace B1 := B1.alloc B1.size (.cells #[.int .u64 (wh : Int), .int .u64 (wl : Int)] 24)
        clear  p_k1_0 p_k1_1 p_k1_2 p_k2_0 p_k2_1 p_k2_2
        generalize w28.alloc (.cells #[.int .u64 (wh : Int), .int .u64 (wl : Int)] 24) = W3 at B1 k1 k2 j2 ⊢
        generalize w28.heap.size = g3 at j2 ⊢
        have p_k1_0 : World.cell? W3 ⟨w.heap.size, 0, none⟩ = some (.int .u64 (h : Int)) := k1.cell 0
        have p_k1_1 : World.cell? W3 ⟨w.heap.size, 1, none⟩ = some (.int .u64 (l : Int)) := k1.cell 1
        have p_k1_2 : World.cell? W3 ⟨w.heap.size, 2, none⟩ = some (.int .u64 (x : Int)) := k1.cell 2
        have p_k2_0 : World.cell? W3 ⟨(w.heap.size + 1), 0, none⟩ = some (.int .u64 (g : Int)) := k2.cell 0
        have p_k2_1 : World.cell? W3 ⟨(w.heap.size + 1), 1, none⟩ = some (.int .u64 (j : Int)) := k2.cell 1
        have p_k2_2 : World.cell? W3 ⟨(w.heap.size + 1), 2, none⟩ = some (.int .u64 (y : Int)) := k2.cell 2
        have p_j2_0 : World.cell? W3 ⟨g3, 0, none⟩ = some (.int .u64 (wh : Int)) := j2.cell 0
        have p_j2_1 : World.cell? W3 ⟨g3, 1, none⟩ = some (.int .u64 (wl : Int)) := j2.cell 1
        go_upto_region 19 with fail
        clear p_k1_0 p_k1_1 p_k1_2 p_k2_0 p_k2_1 p_k2_2 p_j2_0 p_j2_1 k2
        replace k1 : Blk (World.drew _) _ _ _ := k1
        replace j2 : Blk (World.drew _) _ _ _ := j2
        replace B1 := B1.drew
        have hz := zero_bits
        go_cut [14, 15] (fun s14 s15 wx => ∃ g14 : Nat, s14 = .pointer (some ⟨g14, 0, none⟩) ∧ Blk wx g14 38 (cellsOf Q.testBit) ∧ Blk wx g3 24 #[.int .u64 (wh : Int), .int .u64 (wl : Int)] ∧ Below w.heap.size w wx)
        case first =>
          try clear HK
          try clear HR
          try clear HC
          try clear HO
          try clear HW
          try clear HRb
          try clear HC2
          try clear HWh
          try clear HN
          refine wp_region_held_drew (S := fun W => Blk W w.heap.size 26 #[.int .u64 (h : Int), .int .u64 (l : Int), .int .u64 (x : Int)]) (by kernel_rfl) k1 (fun hS => ?_)
          generalize World.drew _ = V at k1 j2 B1 hS ⊢
          apply joining
          · intro J9
            apply joining
            · intro J8
              apply joining
              · intro J7
                apply joining
                · intro J6
                  apply joining
                  · intro J5
                    apply joining
                    · intro J4
                      apply joining
                      · intro J3
                        apply joining
                        · intro J2
                          apply joining
                          · intro J1
                            apply joining
                            · intro J0
                              refine wpAnyH_take (i := 0) (v := .pointer (some ⟨w.heap.size, 0, none⟩)) rfl (by kernel_rfl) (by kernel_rfl) (by kernel_rfl) (fun _ _ _ h => h) (Or.inl ⟨by rfl, fun u hSw => (by go_simp)⟩) hS ?_
                              change wpAnyH _ _ _ _ _ _ _ (Act.put _ (some 103) _) _
                              refine wpAnyH_take (i := 1) (v := .agg #[.int .u64 (h : Int), .int .u64 (l : Int)]) rfl (by kernel_rfl) (by kernel_rfl) (by kernel_rfl) (fun _ _ _ h => h) (Or.inl ⟨by rfl, fun u hSw => (by have c0 : u.cell? ⟨w.heap.size, 0, none⟩ = some (.int .u64 (h : Int)) := hSw.cell 0; have c1 : u.cell? ⟨w.heap.size, 1, none⟩ = some (.int .u64 (l : Int)) := hSw.cell 1; go_simp)⟩) hS ?_
                              change wpAnyH _ _ _ _ _ _ _ (Act.put _ (some 104) _) _
                              refine wpAnyH_take (i := 3) (v := .pointer (some ⟨w.heap.size, 2, none⟩)) rfl (by kernel_rfl) (by kernel_rfl) (by kernel_rfl) (fun _ _ _ h => h) (Or.inl ⟨by rfl, fun u hSw => (by go_simp)⟩) hS ?_
                              change wpAnyH _ _ _ _ _ _ _ (Act.put _ (some 106) _) _
                              refine wpAnyH_take (i := 4) (v := .int .u64 (x : Int)) rfl (by kernel_rfl) (by kernel_rfl) (by kernel_rfl) (fun _ _ _ h => h) (Or.inl ⟨by rfl, fun u hSw => (by have c : u.cell? ⟨w.heap.size, 2, none⟩ = some (.int .u64 (x : Int)) := hSw.cell 2; go_simp)⟩) hS ?_
                              change wpAnyH _ _ _ _ _ _ _ (Act.put _ (some 107) _) _
                              refine wpAnyH_take (i := 5) (v := .agg #[.int .u64 0, .int .u64 (x : Int)]) rfl (by kernel_rfl) (by kernel_rfl) (by kernel_rfl) (fun _ _ _ h => h) (Or.inl ⟨by rfl, fun u hSw => (by go_simp)⟩) hS ?_
                              change wpAnyH _ _ _ _ _ _ _ (Act.put _ (some 108) _) _
                              refine wpAnyH_ready (rs := [2, 11, 12]) (by kernel_rfl) (by simp) ?_
                              refine AllReadyH.cons rfl (fun K hK => ?_) (AllReadyH.cons rfl (fun K hK => ?_) (AllReadyH.cons rfl (fun K hK => ?_) (AllReadyH.nil)))
                              · skip
                                go_simp
                                refine (HOA.out _).mono ?_
                                rintro e w1 ⟨rfl, h1⟩
                                replace k1 := k1.below h1 k1.lt
                                replace j2 := j2.below h1 j2.lt
                                replace B1 := B1.trans (h1.mono B1.size)
                                clear h1
                                refine hK.out _ _ k1 (fun hS => ?_)
                                clear hK K
                                refine wpAnyH_ready (rs := [6, 11, 12]) (by kernel_rfl) (by simp) ?_
                                refine AllReadyH.cons rfl (fun K hK => ?_) (AllReadyH.cons rfl (fun K hK => ?_) (AllReadyH.cons rfl (fun K hK => ?_) (AllReadyH.nil)))
                                · skip
                                  go_simp
                                  refine (HOX.out _).mono ?_
                                  rintro e w2 ⟨rfl, h2⟩
                                  replace k1 := k1.below h2 k1.lt
                                  replace j2 := j2.below h2 j2.lt
                                  replace B1 := B1.trans (h2.mono B1.size)
                                  clear h2
                                  refine hK.out _ _ k1 (fun hS => ?_)
                                  clear hK K
                                  refine wpAnyH_ready (rs := [7, 11, 12]) (by kernel_rfl) (by simp) ?_
                                  refine AllReadyH.cons rfl (fun K hK => ?_) (AllReadyH.cons rfl (fun K hK => ?_) (AllReadyH.cons rfl (fun K hK => ?_) (AllReadyH.nil)))
                                  · skip
                                    go_simp
                                    refine (HQ.out _).mono ?_
                                    rintro e w3 ⟨rfl, h3⟩
                                    replace k1 := k1.below h3 k1.lt
                                    replace j2 := j2.below h3 j2.lt
                                    replace B1 := B1.trans (h3.mono B1.size)
                                    clear h3
                                    refine hK.out _ _ k1 (fun hS => ?_)
                                    clear hK K
                                    refine wpAnyH_take (i := 8) (v := .tuple #[.agg (cellsOf Q.testBit), .agg (cellsOf R.testBit)]) rfl (by kernel_rfl) (by kernel_rfl) (by kernel_rfl) (fun _ _ _ h => h) (Or.inl ⟨by rfl, fun u hSw => (by go_simp)⟩) hS ?_
                                    change wpAnyH _ _ _ _ _ _ _ (Act.put _ (some 102) _) _
                                    refine wpAnyH_take (i := 9) (v := .agg (cellsOf Q.testBit)) rfl (by kernel_rfl) (by kernel_rfl) (by kernel_rfl) (fun _ _ _ h => h) (Or.inl ⟨by rfl, fun u hSw => (by go_simp)⟩) hS ?_
                                    change wpAnyH _ _ _ _ _ _ _ (Act.put _ (some 111) _) _
                                    refine wpAnyH_take (i := 10) (v := .agg (cellsOf R.testBit)) rfl (by kernel_rfl) (by kernel_rfl) (by kernel_rfl) (fun _ _ _ h => h) (Or.inl ⟨by rfl, fun u hSw => (by go_simp)⟩) hS ?_
                                    change wpAnyH _ _ _ _ _ _ _ (Act.put _ (some 112) _) _
                                    refine wpAnyH_ready (rs := [11, 12]) (by kernel_rfl) (by simp) ?_
                                    refine AllReadyH.cons rfl (fun K hK => ?_) (AllReadyH.cons rfl (fun K hK => ?_) (AllReadyH.nil))
                                    · skip
                                      go_simp
                                      have F14 := Blk.new w3 38 (cellsOf none_)
                                      have l14A : w.heap.size < w3.heap.size := k1.lt
                                      replace k1 := k1.alloc (.cells (cellsOf none_) 38)
                                      have l14J : g3 < w3.heap.size := j2.lt
                                      replace j2 := j2.alloc (.cells (cellsOf none_) 38)
                                      have L14 := B1.size
                                      replace B1 := B1.alloc B1.size (.cells (cellsOf none_) 38)
                                      refine hK.out _ _ k1 (fun hS => ?_)
                                      clear hK K
                                      generalize w3.alloc (.cells (cellsOf none_) 38) = U4 at F14 k1 j2 B1 hS ⊢
                                      generalize w3.heap.size = g14 at F14 l14A l14J L14 ⊢
                                      have kb14 : w.heap.size ≤ g14 := by omega
                                      have kc14_A : w.heap.size < g14 := by omega
                                      have kc14_J : g3 < g14 := by omega
                                      clear l14A l14J L14
                                      try simp only [Act.put, List.setIfInBounds_toArray, List.set_cons_zero, List.set_cons_succ]
                                      revert hS; revert B1
                                      revert j2
                                      revert k1
                                      revert F14
                                      revert kc14_J
                                      revert kc14_A
                                      revert kb14
                                      revert g14
                                      revert U4
                                      exact J7.out
                                    · skip
                                      go_simp
                                      have F15 := Blk.new w3 38 (cellsOf none_)
                                      have l15A : w.heap.size < w3.heap.size := k1.lt
                                      replace k1 := k1.alloc (.cells (cellsOf none_) 38)
                                      have l15J : g3 < w3.heap.size := j2.lt
                                      replace j2 := j2.alloc (.cells (cellsOf none_) 38)
                                      have L15 := B1.size
                                      replace B1 := B1.alloc B1.size (.cells (cellsOf none_) 38)
                                      refine hK.out _ _ k1 (fun hS => ?_)
                                      clear hK K
                                      generalize w3.alloc (.cells (cellsOf none_) 38) = U5 at F15 k1 j2 B1 hS ⊢
                                      generalize w3.heap.size = g15 at F15 l15A l15J L15 ⊢
                                      have kb15 : w.heap.size ≤ g15 := by omega
                                      have kc15_A : w.heap.size < g15 := by omega
                                      have kc15_J : g3 < g15 := by omega
                                      clear l15A l15J L15
                                      try simp only [Act.put, List.setIfInBounds_toArray, List.set_cons_zero, List.set_cons_succ]
                                      revert hS; revert B1
                                      revert j2
                                      revert k1
                                      revert F15
                                      revert kc15_J
                                      revert kc15_A
                                      revert kb15
                                      revert g15
                                      revert U5
                                      exact J8.out
                                  · skip
                                    go_simp
                                    have F14 := Blk.new w2 38 (cellsOf none_)
                                    have l14A : w.heap.size < w2.heap.size := k1.lt
                                    replace k1 := k1.alloc (.cells (cellsOf none_) 38)
                                    have l14J : g3 < w2.heap.size := j2.lt
                                    replace j2 := j2.alloc (.cells (cellsOf none_) 38)
                                    have L14 := B1.size
                                    replace B1 := B1.alloc B1.size (.cells (cellsOf none_) 38)
                                    refine hK.out _ _ k1 (fun hS => ?_)
                                    clear hK K
                                    generalize w2.alloc (.cells (cellsOf none_) 38) = U6 at F14 k1 j2 B1 hS ⊢
                                    generalize w2.heap.size = g14 at F14 l14A l14J L14 ⊢
                                    have kb14 : w.heap.size ≤ g14 := by omega
                                    have kc14_A : w.heap.size < g14 := by omega
                                    have kc14_J : g3 < g14 := by omega
                                    clear l14A l14J L14
                                    try simp only [Act.put, List.setIfInBounds_toArray, List.set_cons_zero, List.set_cons_succ]
                                    revert hS; revert B1
                                    revert j2
                                    revert k1
                                    revert F14
                                    revert kc14_J
                                    revert kc14_A
                                    revert kb14
                                    revert g14
                                    revert U6
                                    exact J3.out
                                  · skip
                                    go_simp
                                    have F15 := Blk.new w2 38 (cellsOf none_)
                                    have l15A : w.heap.size < w2.heap.size := k1.lt
                                    replace k1 := k1.alloc (.cells (cellsOf none_) 38)
                                    have l15J : g3 < w2.heap.size := j2.lt
                                    replace j2 := j2.alloc (.cells (cellsOf none_) 38)
                                    have L15 := B1.size
                                    replace B1 := B1.alloc B1.size (.cells (cellsOf none_) 38)
                                    refine hK.out _ _ k1 (fun hS => ?_)
                                    clear hK K
                                    generalize w2.alloc (.cells (cellsOf none_) 38) = U7 at F15 k1 j2 B1 hS ⊢
                                    generalize w2.heap.size = g15 at F15 l15A l15J L15 ⊢
                                    have kb15 : w.heap.size ≤ g15 := by omega
                                    have kc15_A : w.heap.size < g15 := by omega
                                    have kc15_J : g3 < g15 := by omega
                                    clear l15A l15J L15
                                    try simp only [Act.put, List.setIfInBounds_toArray, List.set_cons_zero, List.set_cons_succ]
                                    revert hS; revert B1
                                    revert j2
                                    revert k1
                                    revert F15
                                    revert kc15_J
                                    revert kc15_A
                                    revert kb15
                                    revert g15
                                    revert U7
                                    exact J4.out
                                · skip
                                  go_simp
                                  have F14 := Blk.new w1 38 (cellsOf none_)
                                  have l14A : w.heap.size < w1.heap.size := k1.lt
                                  replace k1 := k1.alloc (.cells (cellsOf none_) 38)
                                  have l14J : g3 < w1.heap.size := j2.lt
                                  replace j2 := j2.alloc (.cells (cellsOf none_) 38)
                                  have L14 := B1.size
                                  replace B1 := B1.alloc B1.size (.cells (cellsOf none_) 38)
                                  refine hK.out _ _ k1 (fun hS => ?_)
                                  clear hK K
                                  generalize w1.alloc (.cells (cellsOf none_) 38) = U8 at F14 k1 j2 B1 hS ⊢
                                  generalize w1.heap.size = g14 at F14 l14A l14J L14 ⊢
                                  have kb14 : w.heap.size ≤ g14 := by omega
                                  have kc14_A : w.heap.size < g14 := by omega
                                  have kc14_J : g3 < g14 := by omega
                                  clear l14A l14J L14
                                  try simp only [Act.put, List.setIfInBounds_toArray, List.set_cons_zero, List.set_cons_succ]
                                  revert hS; revert B1
                                  revert j2
                                  revert k1
                                  revert F14
                                  revert kc14_J
                                  revert kc14_A
                                  revert kb14
                                  revert g14
                                  revert U8
                                  exact J0.out
                                · skip
                                  go_simp
                                  have F15 := Blk.new w1 38 (cellsOf none_)
                                  have l15A : w.heap.size < w1.heap.size := k1.lt
                                  replace k1 := k1.alloc (.cells (cellsOf none_) 38)
                                  have l15J : g3 < w1.heap.size := j2.lt
                                  replace j2 := j2.alloc (.cells (cellsOf none_) 38)
                                  have L15 := B1.size
                                  replace B1 := B1.alloc B1.size (.cells (cellsOf none_) 38)
                                  refine hK.out _ _ k1 (fun hS => ?_)
                                  clear hK K
                                  generalize w1.alloc (.cells (cellsOf none_) 38) = U9 at F15 k1 j2 B1 hS ⊢
                                  generalize w1.heap.size = g15 at F15 l15A l15J L15 ⊢
                                  have kb15 : w.heap.size ≤ g15 := by omega
                                  have kc15_A : w.heap.size < g15 := by omega
                                  have kc15_J : g3 < g15 := by omega
                                  clear l15A l15J L15
                                  try simp only [Act.put, List.setIfInBounds_toArray, List.set_cons_zero, List.set_cons_succ]
                                  revert hS; revert B1
                                  revert j2
                                  revert k1
                                  revert F15
                                  revert kc15_J
                                  revert kc15_A
                                  revert kb15
                                  revert g15
                                  revert U9
                                  exact J1.out
                              · skip
                                go_simp
                                have F14 := Blk.new V 38 (cellsOf none_)
                                have l14A : w.heap.size < V.heap.size := k1.lt
                                replace k1 := k1.alloc (.cells (cellsOf none_) 38)
                                have l14J : g3 < V.heap.size := j2.lt
                                replace j2 := j2.alloc (.cells (cellsOf none_) 38)
                                have L14 := B1.size
                                replace B1 := B1.alloc B1.size (.cells (cellsOf none_) 38)
                                refine hK.out _ _ k1 (fun hS => ?_)
                                clear hK K
                                generalize V.alloc (.cells (cellsOf none_) 38) = U10 at F14 k1 j2 B1 hS ⊢
                                generalize V.heap.size = g14 at F14 l14A l14J L14 ⊢
                                refine wpAnyH_ready (rs := [2, 12]) (by kernel_rfl) (by simp) ?_
                                refine AllReadyH.cons rfl (fun K hK => ?_) (AllReadyH.cons rfl (fun K hK => ?_) (AllReadyH.nil))
                                · skip
                                  go_simp
                                  refine (HOA.out _).mono ?_
                                  rintro e w11 ⟨rfl, h11⟩
                                  replace k1 := k1.below h11 k1.lt
                                  replace j2 := j2.below h11 j2.lt
                                  replace F14 := F14.below h11 F14.lt
                                  replace B1 := B1.trans (h11.mono B1.size)
                                  clear h11
                                  refine hK.out _ _ k1 (fun hS => ?_)
                                  clear hK K
                                  have kb14 : w.heap.size ≤ g14 := by omega
                                  have kc14_A : w.heap.size < g14 := by omega
                                  have kc14_J : g3 < g14 := by omega
                                  clear l14A l14J L14
                                  try simp only [Act.put, List.setIfInBounds_toArray, List.set_cons_zero, List.set_cons_succ]
                                  revert hS; revert B1
                                  revert j2
                                  revert k1
                                  revert F14
                                  revert kc14_J
                                  revert kc14_A
                                  revert kb14
                                  revert g14
                                  revert w11
                                  exact J0.out
                                · skip
                                  go_simp
                                  have F15 := Blk.new U10 38 (cellsOf none_)
                                  have l15A : w.heap.size < U10.heap.size := k1.lt
                                  replace k1 := k1.alloc (.cells (cellsOf none_) 38)
                                  have l15J : g3 < U10.heap.size := j2.lt
                                  replace j2 := j2.alloc (.cells (cellsOf none_) 38)
                                  have l1514 : g14 < U10.heap.size := F14.lt
                                  replace F14 := F14.alloc (.cells (cellsOf none_) 38)
                                  have L15 := B1.size
                                  replace B1 := B1.alloc B1.size (.cells (cellsOf none_) 38)
                                  refine hK.out _ _ k1 (fun hS => ?_)
                                  clear hK K
                                  generalize U10.alloc (.cells (cellsOf none_) 38) = U12 at F15 k1 j2 F14 B1 hS ⊢
                                  generalize U10.heap.size = g15 at F15 l15A l15J l1514 L15 ⊢
                                  have kb14 : w.heap.size ≤ g14 := by omega
                                  have kn14_15 : g14 ≠ g15 := by omega
                                  have kc14_A : w.heap.size < g14 := by omega
                                  have kc14_J : g3 < g14 := by omega
                                  have kb15 : w.heap.size ≤ g15 := by omega
                                  have kc15_A : w.heap.size < g15 := by omega
                                  have kc15_J : g3 < g15 := by omega
                                  clear l14A l14J L14 l15A l15J l1514 L15
                                  try simp only [Act.put, List.setIfInBounds_toArray, List.set_cons_zero, List.set_cons_succ]
                                  revert hS; revert B1
                                  revert j2
                                  revert k1
                                  revert F15
                                  revert F14
                                  revert kc15_J
                                  revert kc15_A
                                  revert kb15
                                  revert kc14_J
                                  revert kc14_A
                                  revert kn14_15
                                  revert kb14
                                  revert g15
                                  revert g14
                                  revert U12
                                  exact J2.out
                              · skip
                                go_simp
                                have F15 := Blk.new V 38 (cellsOf none_)
                                have l15A : w.heap.size < V.heap.size := k1.lt
                                replace k1 := k1.alloc (.cells (cellsOf none_) 38)
                                have l15J : g3 < V.heap.size := j2.lt
                                replace j2 := j2.alloc (.cells (cellsOf none_) 38)
                                have L15 := B1.size
                                replace B1 := B1.alloc B1.size (.cells (cellsOf none_) 38)
                                refine hK.out _ _ k1 (fun hS => ?_)
                                clear hK K
                                generalize V.alloc (.cells (cellsOf none_) 38) = U13 at F15 k1 j2 B1 hS ⊢
                                generalize V.heap.size = g15 at F15 l15A l15J L15 ⊢
                                refine wpAnyH_ready (rs := [2, 11]) (by kernel_rfl) (by simp) ?_
                                refine AllReadyH.cons rfl (fun K hK => ?_) (AllReadyH.cons rfl (fun K hK => ?_) (AllReadyH.nil))
                                · skip
                                  go_simp
                                  refine (HOA.out _).mono ?_
                                  rintro e w14 ⟨rfl, h14⟩
                                  replace k1 := k1.below h14 k1.lt
                                  replace j2 := j2.below h14 j2.lt
                                  replace F15 := F15.below h14 F15.lt
                                  replace B1 := B1.trans (h14.mono B1.size)
                                  clear h14
                                  refine hK.out _ _ k1 (fun hS => ?_)
                                  clear hK K
                                  have kb15 : w.heap.size ≤ g15 := by omega
                                  have kc15_A : w.heap.size < g15 := by omega
                                  have kc15_J : g3 < g15 := by omega
                                  clear l15A l15J L15
                                  try simp only [Act.put, List.setIfInBounds_toArray, List.set_cons_zero, List.set_cons_succ]
                                  revert hS; revert B1
                                  revert j2
                                  revert k1
                                  revert F15
                                  revert kc15_J
                                  revert kc15_A
                                  revert kb15
                                  revert g15
                                  revert w14
                                  exact J1.out
                                · skip
                                  go_simp
                                  have F14 := Blk.new U13 38 (cellsOf none_)
                                  have l14A : w.heap.size < U13.heap.size := k1.lt
                                  replace k1 := k1.alloc (.cells (cellsOf none_) 38)
                                  have l14J : g3 < U13.heap.size := j2.lt
                                  replace j2 := j2.alloc (.cells (cellsOf none_) 38)
                                  have l1415 : g15 < U13.heap.size := F15.lt
                                  replace F15 := F15.alloc (.cells (cellsOf none_) 38)
                                  have L14 := B1.size
                                  replace B1 := B1.alloc B1.size (.cells (cellsOf none_) 38)
                                  refine hK.out _ _ k1 (fun hS => ?_)
                                  clear hK K
                                  generalize U13.alloc (.cells (cellsOf none_) 38) = U15 at F14 k1 j2 F15 B1 hS ⊢
                                  generalize U13.heap.size = g14 at F14 l14A l14J l1415 L14 ⊢
                                  have kb14 : w.heap.size ≤ g14 := by omega
                                  have kn14_15 : g14 ≠ g15 := by omega
                                  have kc14_A : w.heap.size < g14 := by omega
                                  have kc14_J : g3 < g14 := by omega
                                  have kb15 : w.heap.size ≤ g15 := by omega
                                  have kc15_A : w.heap.size < g15 := by omega
                                  have kc15_J : g3 < g15 := by omega
                                  clear l15A l15J L15 l14A l14J l1415 L14
                                  try simp only [Act.put, List.setIfInBounds_toArray, List.set_cons_zero, List.set_cons_succ]
                                  revert hS; revert B1
                                  revert j2
                                  revert k1
                                  revert F15
                                  revert F14
                                  revert kc15_J
                                  revert kc15_A
                                  revert kb15
                                  revert kc14_J
                                  revert kc14_A
                                  revert kn14_15
                                  revert kb14
                                  revert g15
                                  revert g14
                                  revert U15
                                  exact J2.out
                            · intro V g14 kb14 kc14_A kc14_J F14 k1 j2 B1 hS
                              refine wpAnyH_ready (rs := [6, 12]) (by kernel_rfl) (by simp) ?_
                              refine AllReadyH.cons rfl (fun K hK => ?_) (AllReadyH.cons rfl (fun K hK => ?_) (AllReadyH.nil))
                              · skip
                                go_simp
                                refine (HOX.out _).mono ?_
                                rintro e w16 ⟨rfl, h16⟩
                                replace k1 := k1.below h16 k1.lt
                                replace j2 := j2.below h16 j2.lt
                                replace F14 := F14.below h16 F14.lt
                                replace B1 := B1.trans (h16.mono B1.size)
                                clear h16
                                refine hK.out _ _ k1 (fun hS => ?_)
                                clear hK K
                                have kb14 : w.heap.size ≤ g14 := by omega
                                have kc14_A : w.heap.size < g14 := by omega
                                have kc14_J : g3 < g14 := by omega
                                clear kb14 kc14_A kc14_J
                                try simp only [Act.put, List.setIfInBounds_toArray, List.set_cons_zero, List.set_cons_succ]
                                revert hS; revert B1
                                revert j2
                                revert k1
                                revert F14
                                revert kc14_J
                                revert kc14_A
                                revert kb14
                                revert g14
                                revert w16
                                exact J3.out
                              · skip
                                go_simp
                                have F15 := Blk.new V 38 (cellsOf none_)
                                have l15A : w.heap.size < V.heap.size := k1.lt
                                replace k1 := k1.alloc (.cells (cellsOf none_) 38)
                                have l15J : g3 < V.heap.size := j2.lt
                                replace j2 := j2.alloc (.cells (cellsOf none_) 38)
                                have l1514 : g14 < V.heap.size := F14.lt
                                replace F14 := F14.alloc (.cells (cellsOf none_) 38)
                                have L15 := B1.size
                                replace B1 := B1.alloc B1.size (.cells (cellsOf none_) 38)
                                refine hK.out _ _ k1 (fun hS => ?_)
                                clear hK K
                                generalize V.alloc (.cells (cellsOf none_) 38) = U17 at F15 k1 j2 F14 B1 hS ⊢
                                generalize V.heap.size = g15 at F15 l15A l15J l1514 L15 ⊢
                                have kb14 : w.heap.size ≤ g14 := by omega
                                have kn14_15 : g14 ≠ g15 := by omega
                                have kc14_A : w.heap.size < g14 := by omega
                                have kc14_J : g3 < g14 := by omega
                                have kb15 : w.heap.size ≤ g15 := by omega
                                have kc15_A : w.heap.size < g15 := by omega
                                have kc15_J : g3 < g15 := by omega
                                clear kb14 kc14_A kc14_J l15A l15J l1514 L15
                                try simp only [Act.put, List.setIfInBounds_toArray, List.set_cons_zero, List.set_cons_succ]
                                revert hS; revert B1
                                revert j2
                                revert k1
                                revert F15
                                revert F14
                                revert kc15_J
                                revert kc15_A
                                revert kb15
                                revert kc14_J
                                revert kc14_A
                                revert kn14_15
                                revert kb14
                                revert g15
                                revert g14
                                revert U17
                                exact J5.out
                          · intro V g15 kb15 kc15_A kc15_J F15 k1 j2 B1 hS
                            refine wpAnyH_ready (rs := [6, 11]) (by kernel_rfl) (by simp) ?_
                            refine AllReadyH.cons rfl (fun K hK => ?_) (AllReadyH.cons rfl (fun K hK => ?_) (AllReadyH.nil))
                            · skip
                              go_simp
                              refine (HOX.out _).mono ?_
                              rintro e w18 ⟨rfl, h18⟩
                              replace k1 := k1.below h18 k1.lt
                              replace j2 := j2.below h18 j2.lt
                              replace F15 := F15.below h18 F15.lt
                              replace B1 := B1.trans (h18.mono B1.size)
                              clear h18
                              refine hK.out _ _ k1 (fun hS => ?_)
                              clear hK K
                              have kb15 : w.heap.size ≤ g15 := by omega
                              have kc15_A : w.heap.size < g15 := by omega
                              have kc15_J : g3 < g15 := by omega
                              clear kb15 kc15_A kc15_J
                              try simp only [Act.put, List.setIfInBounds_toArray, List.set_cons_zero, List.set_cons_succ]
                              revert hS; revert B1
                              revert j2
                              revert k1
                              revert F15
                              revert kc15_J
                              revert kc15_A
                              revert kb15
                              revert g15
                              revert w18
                              exact J4.out
                            · skip
                              go_simp
                              have F14 := Blk.new V 38 (cellsOf none_)
                              have l14A : w.heap.size < V.heap.size := k1.lt
                              replace k1 := k1.alloc (.cells (cellsOf none_) 38)
                              have l14J : g3 < V.heap.size := j2.lt
                              replace j2 := j2.alloc (.cells (cellsOf none_) 38)
                              have l1415 : g15 < V.heap.size := F15.lt
                              replace F15 := F15.alloc (.cells (cellsOf none_) 38)
                              have L14 := B1.size
                              replace B1 := B1.alloc B1.size (.cells (cellsOf none_) 38)
                              refine hK.out _ _ k1 (fun hS => ?_)
                              clear hK K
                              generalize V.alloc (.cells (cellsOf none_) 38) = U19 at F14 k1 j2 F15 B1 hS ⊢
                              generalize V.heap.size = g14 at F14 l14A l14J l1415 L14 ⊢
                              have kb14 : w.heap.size ≤ g14 := by omega
                              have kn14_15 : g14 ≠ g15 := by omega
                              have kc14_A : w.heap.size < g14 := by omega
                              have kc14_J : g3 < g14 := by omega
                              have kb15 : w.heap.size ≤ g15 := by omega
                              have kc15_A : w.heap.size < g15 := by omega
                              have kc15_J : g3 < g15 := by omega
                              clear kb15 kc15_A kc15_J l14A l14J l1415 L14
                              try simp only [Act.put, List.setIfInBounds_toArray, List.set_cons_zero, List.set_cons_succ]
                              revert hS; revert B1
                              revert j2
                              revert k1
                              revert F15
                              revert F14
                              revert kc15_J
                              revert kc15_A
                              revert kb15
                              revert kc14_J
                              revert kc14_A
                              revert kn14_15
                              revert kb14
                              revert g15
                              revert g14
                              revert U19
                              exact J5.out
                        · intro V g14 g15 kb14 kn14_15 kc14_A kc14_J kb15 kc15_A kc15_J F14 F15 k1 j2 B1 hS
                          refine wpAnyH_ready (rs := [2]) (by kernel_rfl) (by simp) ?_
                          refine AllReadyH.cons rfl (fun K hK => ?_) (AllReadyH.nil)
                          go_simp
                          refine (HOA.out _).mono ?_
                          rintro e w20 ⟨rfl, h20⟩
                          replace k1 := k1.below h20 k1.lt
                          replace j2 := j2.below h20 j2.lt
                          replace F14 := F14.below h20 F14.lt
                          replace F15 := F15.below h20 F15.lt
                          replace B1 := B1.trans (h20.mono B1.size)
                          clear h20
                          refine hK.out _ _ k1 (fun hS => ?_)
                          clear hK K
                          have kb14 : w.heap.size ≤ g14 := by omega
                          have kn14_15 : g14 ≠ g15 := by omega
                          have kc14_A : w.heap.size < g14 := by omega
                          have kc14_J : g3 < g14 := by omega
                          have kb15 : w.heap.size ≤ g15 := by omega
                          have kc15_A : w.heap.size < g15 := by omega
                          have kc15_J : g3 < g15 := by omega
                          clear kb14 kn14_15 kc14_A kc14_J kb15 kc15_A kc15_J
                          try simp only [Act.put, List.setIfInBounds_toArray, List.set_cons_zero, List.set_cons_succ]
                          revert hS; revert B1
                          revert j2
                          revert k1
                          revert F15
                          revert F14
                          revert kc15_J
                          revert kc15_A
                          revert kb15
                          revert kc14_J
                          revert kc14_A
                          revert kn14_15
                          revert kb14
                          revert g15
                          revert g14
                          revert w20
                          exact J5.out
                      · intro V g14 kb14 kc14_A kc14_J F14 k1 j2 B1 hS
                        refine wpAnyH_ready (rs := [7, 12]) (by kernel_rfl) (by simp) ?_
                        refine AllReadyH.cons rfl (fun K hK => ?_) (AllReadyH.cons rfl (fun K hK => ?_) (AllReadyH.nil))
                        · skip
                          go_simp
                          refine (HQ.out _).mono ?_
                          rintro e w21 ⟨rfl, h21⟩
                          replace k1 := k1.below h21 k1.lt
                          replace j2 := j2.below h21 j2.lt
                          replace F14 := F14.below h21 F14.lt
                          replace B1 := B1.trans (h21.mono B1.size)
                          clear h21
                          refine hK.out _ _ k1 (fun hS => ?_)
                          clear hK K
                          refine wpAnyH_take (i := 8) (v := .tuple #[.agg (cellsOf Q.testBit), .agg (cellsOf R.testBit)]) rfl (by kernel_rfl) (by kernel_rfl) (by kernel_rfl) (fun _ _ _ h => h) (Or.inl ⟨by rfl, fun u hSw => (by go_simp)⟩) hS ?_
                          change wpAnyH _ _ _ _ _ _ _ (Act.put _ (some 102) _) _
                          refine wpAnyH_take (i := 9) (v := .agg (cellsOf Q.testBit)) rfl (by kernel_rfl) (by kernel_rfl) (by kernel_rfl) (fun _ _ _ h => h) (Or.inl ⟨by rfl, fun u hSw => (by go_simp)⟩) hS ?_
                          change wpAnyH _ _ _ _ _ _ _ (Act.put _ (some 111) _) _
                          refine wpAnyH_take (i := 10) (v := .agg (cellsOf R.testBit)) rfl (by kernel_rfl) (by kernel_rfl) (by kernel_rfl) (fun _ _ _ h => h) (Or.inl ⟨by rfl, fun u hSw => (by go_simp)⟩) hS ?_
                          change wpAnyH _ _ _ _ _ _ _ (Act.put _ (some 112) _) _
                          have kb14 : w.heap.size ≤ g14 := by omega
                          have kc14_A : w.heap.size < g14 := by omega
                          have kc14_J : g3 < g14 := by omega
                          clear kb14 kc14_A kc14_J
                          try simp only [Act.put, List.setIfInBounds_toArray, List.set_cons_zero, List.set_cons_succ]
                          revert hS; revert B1
                          revert j2
                          revert k1
                          revert F14
                          revert kc14_J
                          revert kc14_A
                          revert kb14
                          revert g14
                          revert w21
                          exact J7.out
                        · skip
                          go_simp
                          have F15 := Blk.new V 38 (cellsOf none_)
                          have l15A : w.heap.size < V.heap.size := k1.lt
                          replace k1 := k1.alloc (.cells (cellsOf none_) 38)
                          have l15J : g3 < V.heap.size := j2.lt
                          replace j2 := j2.alloc (.cells (cellsOf none_) 38)
                          have l1514 : g14 < V.heap.size := F14.lt
                          replace F14 := F14.alloc (.cells (cellsOf none_) 38)
                          have L15 := B1.size
                          replace B1 := B1.alloc B1.size (.cells (cellsOf none_) 38)
                          refine hK.out _ _ k1 (fun hS => ?_)
                          clear hK K
                          generalize V.alloc (.cells (cellsOf none_) 38) = U22 at F15 k1 j2 F14 B1 hS ⊢
                          generalize V.heap.size = g15 at F15 l15A l15J l1514 L15 ⊢
                          have kb14 : w.heap.size ≤ g14 := by omega
                          have kn14_15 : g14 ≠ g15 := by omega
                          have kc14_A : w.heap.size < g14 := by omega
                          have kc14_J : g3 < g14 := by omega
                          have kb15 : w.heap.size ≤ g15 := by omega
                          have kc15_A : w.heap.size < g15 := by omega
                          have kc15_J : g3 < g15 := by omega
                          clear kb14 kc14_A kc14_J l15A l15J l1514 L15
                          try simp only [Act.put, List.setIfInBounds_toArray, List.set_cons_zero, List.set_cons_succ]
                          revert hS; revert B1
                          revert j2
                          revert k1
                          revert F15
                          revert F14
                          revert kc15_J
                          revert kc15_A
                          revert kb15
                          revert kc14_J
                          revert kc14_A
                          revert kn14_15
                          revert kb14
                          revert g15
                          revert g14
                          revert U22
                          exact J6.out
                    · intro V g15 kb15 kc15_A kc15_J F15 k1 j2 B1 hS
                      refine wpAnyH_ready (rs := [7, 11]) (by kernel_rfl) (by simp) ?_
                      refine AllReadyH.cons rfl (fun K hK => ?_) (AllReadyH.cons rfl (fun K hK => ?_) (AllReadyH.nil))
                      · skip
                        go_simp
                        refine (HQ.out _).mono ?_
                        rintro e w23 ⟨rfl, h23⟩
                        replace k1 := k1.below h23 k1.lt
                        replace j2 := j2.below h23 j2.lt
                        replace F15 := F15.below h23 F15.lt
                        replace B1 := B1.trans (h23.mono B1.size)
                        clear h23
                        refine hK.out _ _ k1 (fun hS => ?_)
                        clear hK K
                        refine wpAnyH_take (i := 8) (v := .tuple #[.agg (cellsOf Q.testBit), .agg (cellsOf R.testBit)]) rfl (by kernel_rfl) (by kernel_rfl) (by kernel_rfl) (fun _ _ _ h => h) (Or.inl ⟨by rfl, fun u hSw => (by go_simp)⟩) hS ?_
                        change wpAnyH _ _ _ _ _ _ _ (Act.put _ (some 102) _) _
                        refine wpAnyH_take (i := 9) (v := .agg (cellsOf Q.testBit)) rfl (by kernel_rfl) (by kernel_rfl) (by kernel_rfl) (fun _ _ _ h => h) (Or.inl ⟨by rfl, fun u hSw => (by go_simp)⟩) hS ?_
                        change wpAnyH _ _ _ _ _ _ _ (Act.put _ (some 111) _) _
                        refine wpAnyH_take (i := 10) (v := .agg (cellsOf R.testBit)) rfl (by kernel_rfl) (by kernel_rfl) (by kernel_rfl) (fun _ _ _ h => h) (Or.inl ⟨by rfl, fun u hSw => (by go_simp)⟩) hS ?_
                        change wpAnyH _ _ _ _ _ _ _ (Act.put _ (some 112) _) _
                        have kb15 : w.heap.size ≤ g15 := by omega
                        have kc15_A : w.heap.size < g15 := by omega
                        have kc15_J : g3 < g15 := by omega
                        clear kb15 kc15_A kc15_J
                        try simp only [Act.put, List.setIfInBounds_toArray, List.set_cons_zero, List.set_cons_succ]
                        revert hS; revert B1
                        revert j2
                        revert k1
                        revert F15
                        revert kc15_J
                        revert kc15_A
                        revert kb15
                        revert g15
                        revert w23
                        exact J8.out
                      · skip
                        go_simp
                        have F14 := Blk.new V 38 (cellsOf none_)
                        have l14A : w.heap.size < V.heap.size := k1.lt
                        replace k1 := k1.alloc (.cells (cellsOf none_) 38)
                        have l14J : g3 < V.heap.size := j2.lt
                        replace j2 := j2.alloc (.cells (cellsOf none_) 38)
                        have l1415 : g15 < V.heap.size := F15.lt
                        replace F15 := F15.alloc (.cells (cellsOf none_) 38)
                        have L14 := B1.size
                        replace B1 := B1.alloc B1.size (.cells (cellsOf none_) 38)
                        refine hK.out _ _ k1 (fun hS => ?_)
                        clear hK K
                        generalize V.alloc (.cells (cellsOf none_) 38) = U24 at F14 k1 j2 F15 B1 hS ⊢
                        generalize V.heap.size = g14 at F14 l14A l14J l1415 L14 ⊢
                        have kb14 : w.heap.size ≤ g14 := by omega
                        have kn14_15 : g14 ≠ g15 := by omega
                        have kc14_A : w.heap.size < g14 := by omega
                        have kc14_J : g3 < g14 := by omega
                        have kb15 : w.heap.size ≤ g15 := by omega
                        have kc15_A : w.heap.size < g15 := by omega
                        have kc15_J : g3 < g15 := by omega
                        clear kb15 kc15_A kc15_J l14A l14J l1415 L14
                        try simp only [Act.put, List.setIfInBounds_toArray, List.set_cons_zero, List.set_cons_succ]
                        revert hS; revert B1
                        revert j2
                        revert k1
                        revert F15
                        revert F14
                        revert kc15_J
                        revert kc15_A
                        revert kb15
                        revert kc14_J
                        revert kc14_A
                        revert kn14_15
                        revert kb14
                        revert g15
                        revert g14
                        revert U24
                        exact J6.out
                  · intro V g14 g15 kb14 kn14_15 kc14_A kc14_J kb15 kc15_A kc15_J F14 F15 k1 j2 B1 hS
                    refine wpAnyH_ready (rs := [6]) (by kernel_rfl) (by simp) ?_
                    refine AllReadyH.cons rfl (fun K hK => ?_) (AllReadyH.nil)
                    go_simp
                    refine (HOX.out _).mono ?_
                    rintro e w25 ⟨rfl, h25⟩
                    replace k1 := k1.below h25 k1.lt
                    replace j2 := j2.below h25 j2.lt
                    replace F14 := F14.below h25 F14.lt
                    replace F15 := F15.below h25 F15.lt
                    replace B1 := B1.trans (h25.mono B1.size)
                    clear h25
                    refine hK.out _ _ k1 (fun hS => ?_)
                    clear hK K
                    have kb14 : w.heap.size ≤ g14 := by omega
                    have kn14_15 : g14 ≠ g15 := by omega
                    have kc14_A : w.heap.size < g14 := by omega
                    have kc14_J : g3 < g14 := by omega
                    have kb15 : w.heap.size ≤ g15 := by omega
                    have kc15_A : w.heap.size < g15 := by omega
                    have kc15_J : g3 < g15 := by omega
                    clear kb14 kn14_15 kc14_A kc14_J kb15 kc15_A kc15_J
                    try simp only [Act.put, List.setIfInBounds_toArray, List.set_cons_zero, List.set_cons_succ]
                    revert hS; revert B1
                    revert j2
                    revert k1
                    revert F15
                    revert F14
                    revert kc15_J
                    revert kc15_A
                    revert kb15
                    revert kc14_J
                    revert kc14_A
                    revert kn14_15
                    revert kb14
                    revert g15
                    revert g14
                    revert w25
                    exact J6.out
                · intro V g14 g15 kb14 kn14_15 kc14_A kc14_J kb15 kc15_A kc15_J F14 F15 k1 j2 B1 hS
                  refine wpAnyH_ready (rs := [7]) (by kernel_rfl) (by simp) ?_
                  refine AllReadyH.cons rfl (fun K hK => ?_) (AllReadyH.nil)
                  go_simp
                  refine (HQ.out _).mono ?_
                  rintro e w26 ⟨rfl, h26⟩
                  replace k1 := k1.below h26 k1.lt
                  replace j2 := j2.below h26 j2.lt
                  replace F14 := F14.below h26 F14.lt
                  replace F15 := F15.below h26 F15.lt
                  replace B1 := B1.trans (h26.mono B1.size)
                  clear h26
                  refine hK.out _ _ k1 (fun hS => ?_)
                  clear hK K
                  refine wpAnyH_take (i := 8) (v := .tuple #[.agg (cellsOf Q.testBit), .agg (cellsOf R.testBit)]) rfl (by kernel_rfl) (by kernel_rfl) (by kernel_rfl) (fun _ _ _ h => h) (Or.inl ⟨by rfl, fun u hSw => (by go_simp)⟩) hS ?_
                  change wpAnyH _ _ _ _ _ _ _ (Act.put _ (some 102) _) _
                  refine wpAnyH_take (i := 9) (v := .agg (cellsOf Q.testBit)) rfl (by kernel_rfl) (by kernel_rfl) (by kernel_rfl) (fun _ _ _ h => h) (Or.inl ⟨by rfl, fun u hSw => (by go_simp)⟩) hS ?_
                  change wpAnyH _ _ _ _ _ _ _ (Act.put _ (some 111) _) _
                  refine wpAnyH_take (i := 10) (v := .agg (cellsOf R.testBit)) rfl (by kernel_rfl) (by kernel_rfl) (by kernel_rfl) (fun _ _ _ h => h) (Or.inl ⟨by rfl, fun u hSw => (by go_simp)⟩) hS ?_
                  change wpAnyH _ _ _ _ _ _ _ (Act.put _ (some 112) _) _
                  have kb14 : w.heap.size ≤ g14 := by omega
                  have kn14_15 : g14 ≠ g15 := by omega
                  have kc14_A : w.heap.size < g14 := by omega
                  have kc14_J : g3 < g14 := by omega
                  have kb15 : w.heap.size ≤ g15 := by omega
                  have kc15_A : w.heap.size < g15 := by omega
                  have kc15_J : g3 < g15 := by omega
                  clear kb14 kn14_15 kc14_A kc14_J kb15 kc15_A kc15_J
                  try simp only [Act.put, List.setIfInBounds_toArray, List.set_cons_zero, List.set_cons_succ]
                  revert hS; revert B1
                  revert j2
                  revert k1
                  revert F15
                  revert F14
                  revert kc15_J
                  revert kc15_A
                  revert kb15
                  revert kc14_J
                  revert kc14_A
                  revert kn14_15
                  revert kb14
                  revert g15
                  revert g14
                  revert w26
                  exact J9.out
              · intro V g14 kb14 kc14_A kc14_J F14 k1 j2 B1 hS
                refine wpAnyH_ready (rs := [12]) (by kernel_rfl) (by simp) ?_
                refine AllReadyH.cons rfl (fun K hK => ?_) (AllReadyH.nil)
                go_simp
                have F15 := Blk.new V 38 (cellsOf none_)
                have l15A : w.heap.size < V.heap.size := k1.lt
                replace k1 := k1.alloc (.cells (cellsOf none_) 38)
                have l15J : g3 < V.heap.size := j2.lt
                replace j2 := j2.alloc (.cells (cellsOf none_) 38)
                have l1514 : g14 < V.heap.size := F14.lt
                replace F14 := F14.alloc (.cells (cellsOf none_) 38)
                have L15 := B1.size
                replace B1 := B1.alloc B1.size (.cells (cellsOf none_) 38)
                refine hK.out _ _ k1 (fun hS => ?_)
                clear hK K
                generalize V.alloc (.cells (cellsOf none_) 38) = U27 at F15 k1 j2 F14 B1 hS ⊢
                generalize V.heap.size = g15 at F15 l15A l15J l1514 L15 ⊢
                have kb14 : w.heap.size ≤ g14 := by omega
                have kn14_15 : g14 ≠ g15 := by omega
                have kc14_A : w.heap.size < g14 := by omega
                have kc14_J : g3 < g14 := by omega
                have kb15 : w.heap.size ≤ g15 := by omega
                have kc15_A : w.heap.size < g15 := by omega
                have kc15_J : g3 < g15 := by omega
                clear kb14 kc14_A kc14_J l15A l15J l1514 L15
                try simp only [Act.put, List.setIfInBounds_toArray, List.set_cons_zero, List.set_cons_succ]
                revert hS; revert B1
                revert j2
                revert k1
                revert F15
                revert F14
                revert kc15_J
                revert kc15_A
                revert kb15
                revert kc14_J
                revert kc14_A
                revert kn14_15
                revert kb14
                revert g15
                revert g14
                revert U27
                exact J9.out
            · intro V g15 kb15 kc15_A kc15_J F15 k1 j2 B1 hS
              refine wpAnyH_ready (rs := [11]) (by kernel_rfl) (by simp) ?_
              refine AllReadyH.cons rfl (fun K hK => ?_) (AllReadyH.nil)
              go_simp
              have F14 := Blk.new V 38 (cellsOf none_)
              have l14A : w.heap.size < V.heap.size := k1.lt
              replace k1 := k1.alloc (.cells (cellsOf none_) 38)
              have l14J : g3 < V.heap.size := j2.lt
              replace j2 := j2.alloc (.cells (cellsOf none_) 38)
              have l1415 : g15 < V.heap.size := F15.lt
              replace F15 := F15.alloc (.cells (cellsOf none_) 38)
              have L14 := B1.size
              replace B1 := B1.alloc B1.size (.cells (cellsOf none_) 38)
              refine hK.out _ _ k1 (fun hS => ?_)
              clear hK K
              generalize V.alloc (.cells (cellsOf none_) 38) = U28 at F14 k1 j2 F15 B1 hS ⊢
              generalize V.heap.size = g14 at F14 l14A l14J l1415 L14 ⊢
              have kb14 : w.heap.size ≤ g14 := by omega
              have kn14_15 : g14 ≠ g15 := by omega
              have kc14_A : w.heap.size < g14 := by omega
              have kc14_J : g3 < g14 := by omega
              have kb15 : w.heap.size ≤ g15 := by omega
              have kc15_A : w.heap.size < g15 := by omega
              have kc15_J : g3 < g15 := by omega
              clear kb15 kc15_A kc15_J l14A l14J l1415 L14
              try simp only [Act.put, List.setIfInBounds_toArray, List.set_cons_zero, List.set_cons_succ]
              revert hS; revert B1
              revert j2
              revert k1
              revert F15
              revert F14
              revert kc15_J
              revert kc15_A
              revert kb15
              revert kc14_J
              revert kc14_A
              revert kn14_15
              revert kb14
              revert g15
              revert g14
              revert U28
              exact J9.out
          · intro V g14 g15 kb14 kn14_15 kc14_A kc14_J kb15 kc15_A kc15_J F14 F15 k1 j2 B1 hS
            refine wpAnyH_ready (rs := [13]) (by kernel_rfl) (by simp) ?_
            refine AllReadyH.cons rfl (fun K hK => ?_) (AllReadyH.nil)
            have O29 := F14
            replace k1 := k1.other (g' := g14) (cs' := cellsOf Q.testBit) (by omega)
            replace j2 := j2.other (g' := g14) (cs' := cellsOf Q.testBit) (by omega)
            replace F15 := F15.other (g' := g14) (cs' := cellsOf Q.testBit) (by omega)
            replace F14 := F14.row (cs' := cellsOf Q.testBit)
            replace B1 := below_row (g' := g14) (cs' := cellsOf Q.testBit) B1 (by omega)
            refine keep_row rfl 38 (.tmp 14) (.tmp 111) rfl _ _ rfl rfl _ _ O29 (size_bits _) (by rw [cellsOf_size, cellsOf_size]) (cellsOf_one _) (hK.out _ _ k1 (fun hS => ?_))
            clear hK K O29
            generalize V.setRow (g14) (cellsOf Q.testBit) = U29 at k1 j2 F14 F15 B1 hS ⊢
            refine wpAnyH_ready (rs := [14]) (by kernel_rfl) (by simp) ?_
            refine AllReadyH.cons rfl (fun K hK => ?_) (AllReadyH.nil)
            have O30 := F15
            replace k1 := k1.other (g' := g15) (cs' := cellsOf R.testBit) (by omega)
            replace j2 := j2.other (g' := g15) (cs' := cellsOf R.testBit) (by omega)
            replace F14 := F14.other (g' := g15) (cs' := cellsOf R.testBit) (by omega)
            replace F15 := F15.row (cs' := cellsOf R.testBit)
            replace B1 := below_row (g' := g15) (cs' := cellsOf R.testBit) B1 (by omega)
            refine keep_row rfl 38 (.tmp 15) (.tmp 112) rfl _ _ rfl rfl _ _ O30 (size_bits _) (by rw [cellsOf_size, cellsOf_size]) (cellsOf_one _) (hK.out _ _ k1 (fun hS => ?_))
            clear hK K O30
            generalize U29.setRow (g15) (cellsOf R.testBit) = U30 at k1 j2 F14 F15 B1 hS ⊢
            refine wpAnyH_done (by kernel_rfl) ?_ _
            go_wp2_with fail
            go_meet
            exact ⟨g14, rfl, F14, j2, B1⟩
        case rest =>
          clear k1 j2 B1 HOA HOX HQ hz
          obtain ⟨g14, rfl, F14, j2, B1⟩ := hcut
          go_wp2_with (first
            | (refine wpList_load_row rfl 38 (.tmp 14) rfl _ rfl _ _ (0, 0) _ F14 Try.underlying38 rfl (size_bits _) ?_))
          refine (HN.out _).mono ?_
          rintro e w61 ⟨rfl, h2⟩
          replace j2 := j2.below h2 j2.lt
          replace B1 := B1.trans (h2.mono B1.size)
          clear h2 F14
          have p_j2_0 : World.cell? w61 ⟨g3, 0, none⟩ = some (.int .u64 (wh : Int)) := j2.cell 0
          have p_j2_1 : World.cell? w61 ⟨g3, 1, none⟩ = some (.int .u64 (wl : Int)) := j2.cell 1
          go_upto_region 21 with fail
          have j3 := Blk.new w61 24 #[.int .u64 (wh : Int), .int .u64 (wl : Int)]
          replace j2 := j2.alloc (.cells #[.int .u64 (wh : Int), .int .u64 (wl : Int)] 24)
          replace B1 := B1.alloc B1.size (.cells #[.int .u64 (wh : Int), .int .u64 (wl : Int)] 24)
          clear  p_j2_0 p_j2_1
          generalize w61.alloc (.cells #[.int .u64 (wh : Int), .int .u64 (wl : Int)] 24) = W31 at B1 j2 j3 ⊢
          generalize w61.heap.size = g31 at j3 ⊢
          have p_j2_0 : World.cell? W31 ⟨g3, 0, none⟩ = some (.int .u64 (wh : Int)) := j2.cell 0
          have p_j2_1 : World.cell? W31 ⟨g3, 1, none⟩ = some (.int .u64 (wl : Int)) := j2.cell 1
          have p_j3_0 : World.cell? W31 ⟨g31, 0, none⟩ = some (.int .u64 (wh : Int)) := j3.cell 0
          have p_j3_1 : World.cell? W31 ⟨g31, 1, none⟩ = some (.int .u64 (wl : Int)) := j3.cell 1
          go_wp2
          go_ret
          exact ⟨rfl, B1⟩
  · rw [Bool.eq_false_iff.2 ra] at hr
    rw [if_neg ra] at hc hwh
    rw [show cmpR N x M y = 0 from if_neg (by rw [Bool.eq_false_iff.2 ra, Bool.false_and]; decide)] at hc2
    obtain ⟨wh, wl, f1, q4, q5⟩ : ∃ wh wl : Nat, (Value.tuple #[.agg #[.int .u64 0, .int .u64 0], .int .i64 150]) = .tuple #[.agg #[.int .u64 (wh : Int), .int .u64 (wl : Int)], .int .i64 150] ∧ ((wh : Int) == 0) = true ∧ ((wl : Int) == 0) = true := ⟨0, 0, rfl, rfl, rfl⟩
    rw [f1] at hwh
    have HX := Lib.hid (And.intro e3 True.intro)
    have HR := Lib.hid hr
    have HC := Lib.hid hc
    have HC2 := Lib.hid hc2
    have HWh := Lib.hid hwh
    clear hr hrb hc hc2 hwh f1 e3 ra hN hM hN2 hM2 eN eM hh hl hx hg hj hy hn HCk HOf HCo HWo
    unfold fr at *
    go_enter Try.func3, Try.ntmps3
    go_wp2_with fail
    refine (HK.out _).mono ?_
    rintro e w21 ⟨rfl, h2⟩
    have k1 := HB.out.1.below h2 HB.out.1.lt
    have k2 := HB.out.2.1.below h2 HB.out.2.1.lt
    have B1 := HB.out.2.2.trans (h2.mono HB.out.2.2.size)
    clear h2 HB
    have p_k1_0 : World.cell? w21 ⟨w.heap.size, 0, none⟩ = some (.int .u64 (h : Int)) := k1.cell 0
    have p_k1_1 : World.cell? w21 ⟨w.heap.size, 1, none⟩ = some (.int .u64 (l : Int)) := k1.cell 1
    have p_k1_2 : World.cell? w21 ⟨w.heap.size, 2, none⟩ = some (.int .u64 (x : Int)) := k1.cell 2
    have p_k2_0 : World.cell? w21 ⟨(w.heap.size + 1), 0, none⟩ = some (.int .u64 (g : Int)) := k2.cell 0
    have p_k2_1 : World.cell? w21 ⟨(w.heap.size + 1), 1, none⟩ = some (.int .u64 (j : Int)) := k2.cell 1
    have p_k2_2 : World.cell? w21 ⟨(w.heap.size + 1), 2, none⟩ = some (.int .u64 (y : Int)) := k2.cell 2
    go_wp2_with fail
    refine (HR.out _).mono ?_
    rintro e w22 ⟨rfl, h2⟩
    replace k1 := k1.below h2 k1.lt
    replace k2 := k2.below h2 k2.lt
    replace B1 := B1.trans (h2.mono B1.size)
    clear h2 p_k1_0 p_k1_1 p_k1_2 p_k2_0 p_k2_1 p_k2_2
    have p_k1_0 : World.cell? w22 ⟨w.heap.size, 0, none⟩ = some (.int .u64 (h : Int)) := k1.cell 0
    have p_k1_1 : World.cell? w22 ⟨w.heap.size, 1, none⟩ = some (.int .u64 (l : Int)) := k1.cell 1
    have p_k1_2 : World.cell? w22 ⟨w.heap.size, 2, none⟩ = some (.int .u64 (x : Int)) := k1.cell 2
    have p_k2_0 : World.cell? w22 ⟨(w.heap.size + 1), 0, none⟩ = some (.int .u64 (g : Int)) := k2.cell 0
    have p_k2_1 : World.cell? w22 ⟨(w.heap.size + 1), 1, none⟩ = some (.int .u64 (j : Int)) := k2.cell 1
    have p_k2_2 : World.cell? w22 ⟨(w.heap.size + 1), 2, none⟩ = some (.int .u64 (y : Int)) := k2.cell 2
    go_wp2_with fail
    refine (HC.out _).mono ?_
    rintro e w23 ⟨rfl, h2⟩
    replace k1 := k1.below h2 k1.lt
    replace k2 := k2.below h2 k2.lt
    replace B1 := B1.trans (h2.mono B1.size)
    clear h2 p_k1_0 p_k1_1 p_k1_2 p_k2_0 p_k2_1 p_k2_2
    have p_k1_0 : World.cell? w23 ⟨w.heap.size, 0, none⟩ = some (.int .u64 (h : Int)) := k1.cell 0
    have p_k1_1 : World.cell? w23 ⟨w.heap.size, 1, none⟩ = some (.int .u64 (l : Int)) := k1.cell 1
    have p_k1_2 : World.cell? w23 ⟨w.heap.size, 2, none⟩ = some (.int .u64 (x : Int)) := k1.cell 2
    have p_k2_0 : World.cell? w23 ⟨(w.heap.size + 1), 0, none⟩ = some (.int .u64 (g : Int)) := k2.cell 0
    have p_k2_1 : World.cell? w23 ⟨(w.heap.size + 1), 1, none⟩ = some (.int .u64 (j : Int)) := k2.cell 1
    have p_k2_2 : World.cell? w23 ⟨(w.heap.size + 1), 2, none⟩ = some (.int .u64 (y : Int)) := k2.cell 2
    go_wp2_with fail
    refine (HO.out _).mono ?_
    rintro e w24 ⟨rfl, h2⟩
    replace k1 := k1.below h2 k1.lt
    replace k2 := k2.below h2 k2.lt
    replace B1 := B1.trans (h2.mono B1.size)
    clear h2 p_k1_0 p_k1_1 p_k1_2 p_k2_0 p_k2_1 p_k2_2
    have p_k1_0 : World.cell? w24 ⟨w.heap.size, 0, none⟩ = some (.int .u64 (h : Int)) := k1.cell 0
    have p_k1_1 : World.cell? w24 ⟨w.heap.size, 1, none⟩ = some (.int .u64 (l : Int)) := k1.cell 1
    have p_k1_2 : World.cell? w24 ⟨w.heap.size, 2, none⟩ = some (.int .u64 (x : Int)) := k1.cell 2
    have p_k2_0 : World.cell? w24 ⟨(w.heap.size + 1), 0, none⟩ = some (.int .u64 (g : Int)) := k2.cell 0
    have p_k2_1 : World.cell? w24 ⟨(w.heap.size + 1), 1, none⟩ = some (.int .u64 (j : Int)) := k2.cell 1
    have p_k2_2 : World.cell? w24 ⟨(w.heap.size + 1), 2, none⟩ = some (.int .u64 (y : Int)) := k2.cell 2
    go_upto_region 8 with fail
    have j1 := Blk.new w24 26 #[.int .u64 (sh : Int), .int .u64 (sl : Int), .int .u64 (sx : Int)]
    replace k1 := k1.alloc (.cells #[.int .u64 (sh : Int), .int .u64 (sl : Int), .int .u64 (sx : Int)] 26)
    replace k2 := k2.alloc (.cells #[.int .u64 (sh : Int), .int .u64 (sl : Int), .int .u64 (sx : Int)] 26)
    replace B1 := B1.alloc B1.size (.cells #[.int .u64 (sh : Int), .int .u64 (sl : Int), .int .u64 (sx : Int)] 26)
    clear  p_k1_0 p_k1_1 p_k1_2 p_k2_0 p_k2_1 p_k2_2
    generalize w24.alloc (.cells #[.int .u64 (sh : Int), .int .u64 (sl : Int), .int .u64 (sx : Int)] 26) = W2 at B1 k1 k2 j1 ⊢
    generalize w24.heap.size = g2 at j1 ⊢
    have p_k1_0 : World.cell? W2 ⟨w.heap.size, 0, none⟩ = some (.int .u64 (h : Int)) := k1.cell 0
    have p_k1_1 : World.cell? W2 ⟨w.heap.size, 1, none⟩ = some (.int .u64 (l : Int)) := k1.cell 1
    have p_k1_2 : World.cell? W2 ⟨w.heap.size, 2, none⟩ = some (.int .u64 (x : Int)) := k1.cell 2
    have p_k2_0 : World.cell? W2 ⟨(w.heap.size + 1), 0, none⟩ = some (.int .u64 (g : Int)) := k2.cell 0
    have p_k2_1 : World.cell? W2 ⟨(w.heap.size + 1), 1, none⟩ = some (.int .u64 (j : Int)) := k2.cell 1
    have p_k2_2 : World.cell? W2 ⟨(w.heap.size + 1), 2, none⟩ = some (.int .u64 (y : Int)) := k2.cell 2
    have p_j1_0 : World.cell? W2 ⟨g2, 0, none⟩ = some (.int .u64 (sh : Int)) := j1.cell 0
    have p_j1_1 : World.cell? W2 ⟨g2, 1, none⟩ = some (.int .u64 (sl : Int)) := j1.cell 1
    have p_j1_2 : World.cell? W2 ⟨g2, 2, none⟩ = some (.int .u64 (sx : Int)) := j1.cell 2
    go_wp2_with fail
    refine (HW.out _).mono ?_
    rintro e w25 ⟨rfl, h2⟩
    replace k1 := k1.below h2 k1.lt
    replace k2 := k2.below h2 k2.lt
    replace j1 := j1.below h2 j1.lt
    replace B1 := B1.trans (h2.mono B1.size)
    clear h2 p_k1_0 p_k1_1 p_k1_2 p_k2_0 p_k2_1 p_k2_2 p_j1_0 p_j1_1 p_j1_2
    have p_k1_0 : World.cell? w25 ⟨w.heap.size, 0, none⟩ = some (.int .u64 (h : Int)) := k1.cell 0
    have p_k1_1 : World.cell? w25 ⟨w.heap.size, 1, none⟩ = some (.int .u64 (l : Int)) := k1.cell 1
    have p_k1_2 : World.cell? w25 ⟨w.heap.size, 2, none⟩ = some (.int .u64 (x : Int)) := k1.cell 2
    have p_k2_0 : World.cell? w25 ⟨(w.heap.size + 1), 0, none⟩ = some (.int .u64 (g : Int)) := k2.cell 0
    have p_k2_1 : World.cell? w25 ⟨(w.heap.size + 1), 1, none⟩ = some (.int .u64 (j : Int)) := k2.cell 1
    have p_k2_2 : World.cell? w25 ⟨(w.heap.size + 1), 2, none⟩ = some (.int .u64 (y : Int)) := k2.cell 2
    have p_j1_0 : World.cell? w25 ⟨g2, 0, none⟩ = some (.int .u64 (sh : Int)) := j1.cell 0
    have p_j1_1 : World.cell? w25 ⟨g2, 1, none⟩ = some (.int .u64 (sl : Int)) := j1.cell 1
    have p_j1_2 : World.cell? w25 ⟨g2, 2, none⟩ = some (.int .u64 (sx : Int)) := j1.cell 2
    go_upto_region 9 with fail
    go_cut [74] (fun s74 wx => s74 = .bool false ∧ Blk wx w.heap.size 26 #[.int .u64 (h : Int), .int .u64 (l : Int), .int .u64 (x : Int)] ∧ Blk wx (w.heap.size + 1) 26 #[.int .u64 (g : Int), .int .u64 (j : Int), .int .u64 (y : Int)] ∧ Blk wx g2 26 #[.int .u64 (sh : Int), .int .u64 (sl : Int), .int .u64 (sx : Int)] ∧ Below w.heap.size w wx)
    case first =>
      rcases HX.out.1 with ⟨rfl, rfl, q1, rfl, rfl⟩ | ⟨rfl, rfl, q1, q2, q3⟩
      · clear HX
        go_wp2_with fail
        go_meet
        exact ⟨rfl, k1, k2, j1, B1⟩
      · clear HX
        go_wp2_with fail
        go_meet
        exact ⟨rfl, k1, k2, j1, B1⟩
    case rest =>
      clear B1 k1 k2 j1 
      clear  p_k1_0 p_k1_1 p_k1_2 p_k2_0 p_k2_1 p_k2_2 p_j1_0 p_j1_1 p_j1_2
      obtain ⟨rfl, k1, k2, j1, B1⟩ := hcut
      have p_k1_0 : World.cell? _ ⟨w.heap.size, 0, none⟩ = some (.int .u64 (h : Int)) := k1.cell 0
      have p_k1_1 : World.cell? _ ⟨w.heap.size, 1, none⟩ = some (.int .u64 (l : Int)) := k1.cell 1
      have p_k1_2 : World.cell? _ ⟨w.heap.size, 2, none⟩ = some (.int .u64 (x : Int)) := k1.cell 2
      have p_k2_0 : World.cell? _ ⟨(w.heap.size + 1), 0, none⟩ = some (.int .u64 (g : Int)) := k2.cell 0
      have p_k2_1 : World.cell? _ ⟨(w.heap.size + 1), 1, none⟩ = some (.int .u64 (j : Int)) := k2.cell 1
      have p_k2_2 : World.cell? _ ⟨(w.heap.size + 1), 2, none⟩ = some (.int .u64 (y : Int)) := k2.cell 2
      have p_j1_0 : World.cell? _ ⟨g2, 0, none⟩ = some (.int .u64 (sh : Int)) := j1.cell 0
      have p_j1_1 : World.cell? _ ⟨g2, 1, none⟩ = some (.int .u64 (sl : Int)) := j1.cell 1
      have p_j1_2 : World.cell? _ ⟨g2, 2, none⟩ = some (.int .u64 (sx : Int)) := j1.cell 2
      go_wp2_with fail
      refine (HC2.out _).mono ?_
      rintro e w26 ⟨rfl, h2⟩
      replace k1 := k1.below h2 k1.lt
      replace k2 := k2.below h2 k2.lt
      replace B1 := B1.trans (h2.mono B1.size)
      clear h2 p_k1_0 p_k1_1 p_k1_2 p_k2_0 p_k2_1 p_k2_2
      have p_k1_0 : World.cell? w26 ⟨w.heap.size, 0, none⟩ = some (.int .u64 (h : Int)) := k1.cell 0
      have p_k1_1 : World.cell? w26 ⟨w.heap.size, 1, none⟩ = some (.int .u64 (l : Int)) := k1.cell 1
      have p_k1_2 : World.cell? w26 ⟨w.heap.size, 2, none⟩ = some (.int .u64 (x : Int)) := k1.cell 2
      have p_k2_0 : World.cell? w26 ⟨(w.heap.size + 1), 0, none⟩ = some (.int .u64 (g : Int)) := k2.cell 0
      have p_k2_1 : World.cell? w26 ⟨(w.heap.size + 1), 1, none⟩ = some (.int .u64 (j : Int)) := k2.cell 1
      have p_k2_2 : World.cell? w26 ⟨(w.heap.size + 1), 2, none⟩ = some (.int .u64 (y : Int)) := k2.cell 2
      go_wp2_with fail
      refine (HWh.out _).mono ?_
      rintro e w27 ⟨rfl, h2⟩
      replace k1 := k1.below h2 k1.lt
      replace k2 := k2.below h2 k2.lt
      replace B1 := B1.trans (h2.mono B1.size)
      clear h2 p_k1_0 p_k1_1 p_k1_2 p_k2_0 p_k2_1 p_k2_2
      have p_k1_0 : World.cell? w27 ⟨w.heap.size, 0, none⟩ = some (.int .u64 (h : Int)) := k1.cell 0
      have p_k1_1 : World.cell? w27 ⟨w.heap.size, 1, none⟩ = some (.int .u64 (l : Int)) := k1.cell 1
      have p_k1_2 : World.cell? w27 ⟨w.heap.size, 2, none⟩ = some (.int .u64 (x : Int)) := k1.cell 2
      have p_k2_0 : World.cell? w27 ⟨(w.heap.size + 1), 0, none⟩ = some (.int .u64 (g : Int)) := k2.cell 0
      have p_k2_1 : World.cell? w27 ⟨(w.heap.size + 1), 1, none⟩ = some (.int .u64 (j : Int)) := k2.cell 1
      have p_k2_2 : World.cell? w27 ⟨(w.heap.size + 1), 2, none⟩ = some (.int .u64 (y : Int)) := k2.cell 2
      go_upto_region 17 with fail
      have j2 := Blk.new w27 24 #[.int .u64 (wh : Int), .int .u64 (wl : Int)]
      replace k1 := k1.alloc (.cells #[.int .u64 (wh : Int), .int .u64 (wl : Int)] 24)
      replace k2 := k2.alloc (.cells #[.int .u64 (wh : Int), .int .u64 (wl : Int)] 24)
      replace B1 := B1.alloc B1.size (.cells #[.int .u64 (wh : Int), .int .u64 (wl : Int)] 24)
      clear  p_k1_0 p_k1_1 p_k1_2 p_k2_0 p_k2_1 p_k2_2
      generalize w27.alloc (.cells #[.int .u64 (wh : Int), .int .u64 (wl : Int)] 24) = W3 at B1 k1 k2 j2 ⊢
      generalize w27.heap.size = g3 at j2 ⊢
      have p_k1_0 : World.cell? W3 ⟨w.heap.size, 0, none⟩ = some (.int .u64 (h : Int)) := k1.cell 0
      have p_k1_1 : World.cell? W3 ⟨w.heap.size, 1, none⟩ = some (.int .u64 (l : Int)) := k1.cell 1
      have p_k1_2 : World.cell? W3 ⟨w.heap.size, 2, none⟩ = some (.int .u64 (x : Int)) := k1.cell 2
      have p_k2_0 : World.cell? W3 ⟨(w.heap.size + 1), 0, none⟩ = some (.int .u64 (g : Int)) := k2.cell 0
      have p_k2_1 : World.cell? W3 ⟨(w.heap.size + 1), 1, none⟩ = some (.int .u64 (j : Int)) := k2.cell 1
      have p_k2_2 : World.cell? W3 ⟨(w.heap.size + 1), 2, none⟩ = some (.int .u64 (y : Int)) := k2.cell 2
      have p_j2_0 : World.cell? W3 ⟨g3, 0, none⟩ = some (.int .u64 (wh : Int)) := j2.cell 0
      have p_j2_1 : World.cell? W3 ⟨g3, 1, none⟩ = some (.int .u64 (wl : Int)) := j2.cell 1
      go_wp2
      go_ret
      exact ⟨rfl, B1⟩

end Go.Proofs.Ytodhkdaipmeblaa
