/-
  The landed frac: Whole. No statement is proved here.
-/
import Derived.Test.YtodhkdaipmeblaaLc
namespace Go.Proofs.Ytodhkdaipmeblaa
open Go.RowKit

theorem put2 {w w1 : World} {g b : Nat} {t : TypeId} {p q x y : Value} (K : Blk w1 g t #[p, q]) (B : Below b w w1) (hg : b ≤ g) :
    Blk ((w1.setCell ⟨g, 0, none⟩ x).setCell ⟨g, 1, none⟩ y) g t #[x, y] ∧ Below b w ((w1.setCell ⟨g, 0, none⟩ x).setCell ⟨g, 1, none⟩ y) :=
  ⟨K.set2, (B.setCell (p := ⟨g, 0, none⟩) hg x).setCell (p := ⟨g, 1, none⟩) hg y⟩

set_option maxRecDepth 100000 in
set_option maxHeartbeats 4000000 in
theorem whole_ok (N x : Nat) (w : World) (hN : N < 2 ^ 128) (hx : x < 2 ^ 64) : Calls Try.prog 16 #[.agg (fq N x)] w (Said (if rightN N x = true then .tuple #[.agg #[.int .u64 ((N / x / 2 ^ 64 : Nat) : Int), .int .u64 ((N / x % 2 ^ 64 : Nat) : Int)], .int .i64 0] else .tuple #[.agg #[.int .u64 0, .int .u64 0], .int .i64 150]) w) := by
  obtain ⟨h, l, e, hh, hl⟩ := halves N hN
  rw [show fq N x = fr h l x by rw [e]; exact fq_of hl x, show rightN N x = rightB h x by rw [e]; exact rightN_of hl]
  obtain ⟨b1, b2, b3, bb⟩ := blks3 w 26 24 26 (fr h l x) #[.int .u64 0, .int .u64 0] (fr h l x)
  have HC := Lib.hid (check1 h l x _ _ _ b3)
  have HB := Lib.hid (And.intro b1 (And.intro b2 bb))
  by_cases hr : rightB h x = true
  · rw [if_pos hr]
    rw [show chk h x = 0 from if_pos hr] at HC
    have q1 := right_parts hr
    have hq : N / x < 2 ^ 128 := Nat.lt_of_le_of_lt (Nat.div_le_self _ _) hN
    obtain ⟨qh, ql, e1, e2, e3⟩ := words (N / x) hq
    have HD := Lib.hid (fun u => div_any h l x qh ql (N % x) hh hl q1.1 hx (by rw [← e1, show h * 18446744073709551616 + l = N from e.symm]) e3 (by rw [show h * 18446744073709551616 + l = N from e.symm]) u)
    rw [show N / x / 2 ^ 64 = qh by omega, show N / x % 2 ^ 64 = ql by omega]
    generalize N % x = r at *
    clear e hh hl hx hN hr q1 hq e1 e2 e3 b1 b2 b3 bb
    unfold fr at *
    go_enter Try.func16, Try.ntmps16
    go_wp2_with fail
    refine HC.out.mono ?_
    rintro e w1 ⟨rfl, h1⟩
    have K1 := HB.out.1.below h1 HB.out.1.lt
    have K := HB.out.2.1.below h1 HB.out.2.1.lt
    have B := HB.out.2.2.trans (h1.mono HB.out.2.2.size)
    clear HB h1
    have c0 := K1.cell 0
    have c1 := K1.cell 1
    have c2 := K1.cell 2
    clear K1
    go_wp2_with fail
    refine (HD.out _).mono ?_
    rintro e w2 ⟨rfl, h2⟩
    replace K := K.below h2 K.lt
    replace B := B.trans (h2.mono B.size)
    have kl := K.lt
    clear h2 c0 c1 c2
    have d0 := K.cell 0
    have d1 := K.cell 1
    have f0 := K.frozen 0
    have f1 := K.frozen 1
    have HKF := Lib.hid (And.intro ((K.set2 (x := .int .u64 (qh : Int)) (y := .int .u64 (ql : Int))).alloc (.cells #[.int .u64 (qh : Int), .int .u64 (ql : Int)] 24)) (((B.setCell (p := ⟨w.heap.size + 1, 0, none⟩) (by simp) (.int .u64 (qh : Int))).setCell (p := ⟨w.heap.size + 1, 1, none⟩) (by simp) (.int .u64 (ql : Int))).alloc (by simpa [World.setCell] using B.size) (.cells #[.int .u64 (qh : Int), .int .u64 (ql : Int)] 24)))
    clear K B
    go_wp2_with fail
    exact bodyPost_ret (v := .tuple #[.agg #[.int .u64 (qh : Int), .int .u64 (ql : Int)], .int .i64 0]) (results_cell_row_tmp Try.results16 _ _ _ _ _ _ rfl HKF.out.1 Try.underlying24 rfl (by kernel_rfl)) rfl ⟨rfl, HKF.out.2⟩
  · rw [if_neg hr]
    rw [show chk h x = 150 from if_neg hr] at HC
    clear e hh hl hx hN hr b1 b2 b3 bb
    unfold fr at HC HB ⊢
    go_enter Try.func16, Try.ntmps16
    go_wp2_with fail
    refine HC.out.mono ?_
    rintro e w1 ⟨rfl, h1⟩
    have K := HB.out.2.1.below h1 HB.out.2.1.lt
    have B := HB.out.2.2.trans (h1.mono HB.out.2.2.size)
    clear HB h1
    have d0 := K.cell 0
    have d1 := K.cell 1
    have f0 := K.frozen 0
    have f1 := K.frozen 1
    have HKF := Lib.hid (put2 (x := .int .u64 0) (y := .int .u64 0) K B (by omega))
    clear K B
    go_wp2_with fail
    exact bodyPost_ret (v := .tuple #[.agg #[.int .u64 0, .int .u64 0], .int .i64 150]) (results_cell_row_tmp Try.results16 _ _ _ _ _ _ rfl HKF.out.1 Try.underlying24 rfl (by kernel_rfl)) rfl ⟨rfl, HKF.out.2⟩

end Go.Proofs.Ytodhkdaipmeblaa
