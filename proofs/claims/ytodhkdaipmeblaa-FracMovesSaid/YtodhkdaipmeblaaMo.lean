/-
  FracMoves' walk, on what is asked of the landed calls.
-/
import Derived.Test.YtodhkdaipmeblaaFs
import Derived.Test.YtodhkdaipmeblaaFe
namespace Go.Proofs.Ytodhkdaipmeblaa
open Go.RowKit

theorem fe_gen (e : Int) : ∃ a b c : Nat, fe (0, 0, e) = .tuple #[.agg (fr a b c), .int .i64 e] ∧ ((a : Int) == 0) = true ∧ ((b : Int) == 0) = true ∧ ((c : Int) == 0) = true := ⟨0, 0, 0, fe_none e, rfl, rfl, rfl⟩
theorem fe_val (N x : Nat) (e : Int) : fe (N, x, e) = .tuple #[.agg (fr (N / 2 ^ 64) (N % 2 ^ 64) x), .int .i64 e] := rfl
/-- what is added to, and the document's own sum -/
theorem moved (r : Nat × Nat × Int) (S x : Nat) (c : Int) (hr : (S < 2 ^ 100 ∧ r = (S, x, 0)) ∨ (¬ S < 2 ^ 100 ∧ r = (0, 0, c))) : ∃ sh sl sx ah al : Nat, ∃ b1 : Bool, ∃ c1 : Int, fe r = .tuple #[.agg (fr sh sl sx), .int .i64 c1] ∧ wv (num5 S).1 (num5 S).2.1 (num5 S).2.2 = wv ah al b1 ∧
    ((b1 = true ∧ c1 = 0 ∧ sh = ah ∧ sl = al ∧ sx = x) ∨ (b1 = false ∧ c1 = c ∧ ((sh : Int) == 0) = true ∧ ((sl : Int) == 0) = true ∧ ((sx : Int) == 0) = true)) := by
  rcases hr with ⟨h, e⟩ | ⟨h, e⟩
  · exact ⟨S / 2 ^ 64, S % 2 ^ 64, x, S / 2 ^ 64, S % 2 ^ 64, true, 0, by rw [e]; rfl, by rw [num5_yes h], .inl ⟨rfl, rfl, rfl, rfl, rfl⟩⟩
  · exact ⟨0, 0, 0, 0, 0, false, c, by rw [e, fe_none], by rw [num5_no h], .inr ⟨rfl, rfl, rfl, rfl, rfl⟩⟩

set_option maxHeartbeats 8000000 in
set_option maxRecDepth 100000 in
theorem moves_walk (HAdd : AddOk) (HLess : LessOk) (HOver : OverOk) (h l x n m : Nat) (w : World) (hh : h < 2 ^ 64) (hl : l < 2 ^ 64) (hx : x < 2 ^ 64) (hn : n < 2 ^ 64) (hm : m < 2 ^ 64)
    (hk : ∀ u, Calls Try.prog 9 #[] u (Said (.bool true) u)) :
    Calls Try.prog 4 #[.agg (fr h l x), .int .u64 (n : Int), .int .u64 (m : Int)] w (Said (.bool true) w) := by
  obtain ⟨N, hN⟩ : ∃ N, h * 2 ^ 64 + l = N := ⟨_, rfl⟩
  have hN2 : N < 2 ^ 128 := by omega
  have eN : fq N x = fr h l x := by rw [← hN]; exact fq_of hl x
  have HK := Lib.hid hk
  have ha := fun u => HAdd N x n u hN2 hx hn
  have hle := fun u => HLess N x n u hN2 hx hn
  have ho := fun u => HOver N x m u hN2 hx hm
  have hr := fun u => rright_any h l x u
  rw [← rightN_of hl, hN] at hr
  rw [eN] at ha hle ho
  obtain ⟨K, B⟩ : Blk (w.alloc (.cells (fr h l x) 26)) w.heap.size 26 (fr h l x) ∧ Below w.heap.size w (w.alloc (.cells (fr h l x) 26)) := ⟨Blk.new _ _ _, (Below.refl _ _).alloc (Nat.le_refl _) _⟩
  have HB := Lib.hid (And.intro K B)
  clear hk K B
  by_cases rr : rightN N x = true
  · rw [rr] at hr
    have HR := Lib.hid hr
    obtain ⟨x1, x2, x3⟩ := rightN_true rr
    obtain ⟨sh, sl, sx, ah, al, b1, c1, e1, e2, e3⟩ := moved (addR N x n) (N + n) x 131 (by
      unfold addR
      rw [if_pos rr]
      by_cases hs : N + n < 2 ^ 100
      · exact .inl ⟨hs, if_pos hs⟩
      · exact .inr ⟨hs, if_neg hs⟩)
    have had := fun u => radd_any h l x n u hh hl hn
    rw [hN, e2] at had
    rw [e1] at ha
    have HA := Lib.hid ha
    have HAd := Lib.hid had
    rw [show lessR N x n = (N - n, x, 0) from if_pos rr, fe_val] at hle
    have hls := fun u => rless_any N n u hN2 (by omega)
    have hoa := fun u => of_c h l u hh hl
    have hob := fun u => of_low n u hn
    rw [hN] at hoa
    generalize cellsOf N.testBit = RA at hls hoa
    generalize cellsOf n.testBit = RB at hls hob
    generalize (N - n) / 2 ^ 64 = uh at hle hls
    generalize (N - n) % 2 ^ 64 = ul at hle hls
    unfold wd at hls
    have HOa := Lib.hid hoa
    have HOb := Lib.hid hob
    have HLe := Lib.hid hls
    have HL := Lib.hid hle
    have hw : ∀ u, Calls Try.prog 13 #[.int .u64 (m : Int)] u (Said (.bool (weightB m)) u) := fun u => (rweight_any m u).mono fun _ _ h => ⟨h.1, h.2 ▸ Below.refl _ _⟩
    have hov := fun u => rover_any h l x m u hh hl (by omega) hx hm
    rw [hN, show overN N m x = overW N m x from rfl] at hov
    obtain ⟨th, tl, tx, oh, ol, b3, wb, c3, f1, f2, f3, f4⟩ : ∃ th tl tx oh ol : Nat, ∃ b3 wb : Bool, ∃ c3 : Int, fe (overR N x m) = .tuple #[.agg (fr th tl tx), .int .i64 c3] ∧ wv (num5 (overW N m x)).1 (num5 (overW N m x)).2.1 (num5 (overW N m x)).2.2 = wv oh ol b3 ∧ weightB m = wb ∧
        ((wb = false ∧ c3 = 2 ∧ ((th : Int) == 0) = true ∧ ((tl : Int) == 0) = true ∧ ((tx : Int) == 0) = true) ∨ (wb = true ∧ b3 = false ∧ c3 = 131 ∧ ((th : Int) == 0) = true ∧ ((tl : Int) == 0) = true ∧ ((tx : Int) == 0) = true) ∨ (wb = true ∧ b3 = true ∧ c3 = 0 ∧ th = oh ∧ tl = ol ∧ tx = m)) := by
      by_cases hwt : weightB m = true
      · obtain ⟨a, b, c, d, e, f, k, g1, g2, g3⟩ := moved (overR N x m) (overW N m x) m 131 (by
          unfold overR
          rw [if_pos rr, if_pos hwt]
          by_cases hs : overW N m x < 2 ^ 100
          · exact .inl ⟨hs, if_pos hs⟩
          · exact .inr ⟨hs, if_neg hs⟩)
        refine ⟨a, b, c, d, e, f, true, k, g1, g2, hwt, ?_⟩
        rcases g3 with ⟨y1, y2, y3, y4, y5⟩ | ⟨y1, y2, y3, y4, y5⟩
        · exact .inr (.inr ⟨rfl, y1, y2, y3, y4, y5⟩)
        · exact .inr (.inl ⟨rfl, y1, y2, y3, y4, y5⟩)
      · exact ⟨0, 0, 0, _, _, _, false, 2, by unfold overR; rw [if_pos rr, if_neg hwt, fe_none], rfl, by simpa using hwt, .inl ⟨rfl, rfl, rfl, rfl, rfl⟩⟩
    rw [f1] at ho
    rw [f2] at hov
    rw [f3] at hw
    have HO := Lib.hid ho
    have HOv := Lib.hid hov
    have HW := Lib.hid hw
    have HX := Lib.hid (And.intro e3 f4)
    clear ha hle ho hr rr had hls hoa hob hw hov e1 e2 e3 f1 f2 f3 f4 x1 x2 x3 hN hN2 eN hh hl hx hn hm HAdd HLess HOver
    unfold fr at HA HL HO HR HB HAd HOv
    unfold wv at HAd HOv
    go_enter Try.func4, Try.ntmps4
    go_wp2_with fail
    refine (HK.out _).mono ?_
    rintro e w21 ⟨rfl, h2⟩
    have k1 := HB.out.1.below h2 HB.out.1.lt
    have B1 := HB.out.2.trans (h2.mono HB.out.2.size)
    clear h2 HB
    have p_k1_0 : World.cell? w21 ⟨w.heap.size, 0, none⟩ = some (.int .u64 (h : Int)) := k1.cell 0
    have p_k1_1 : World.cell? w21 ⟨w.heap.size, 1, none⟩ = some (.int .u64 (l : Int)) := k1.cell 1
    have p_k1_2 : World.cell? w21 ⟨w.heap.size, 2, none⟩ = some (.int .u64 (x : Int)) := k1.cell 2
    go_wp2_with fail
    refine (HA.out _).mono ?_
    rintro e w22 ⟨rfl, h2⟩
    replace k1 := k1.below h2 k1.lt
    replace B1 := B1.trans (h2.mono B1.size)
    clear h2 p_k1_0 p_k1_1 p_k1_2
    have p_k1_0 : World.cell? w22 ⟨w.heap.size, 0, none⟩ = some (.int .u64 (h : Int)) := k1.cell 0
    have p_k1_1 : World.cell? w22 ⟨w.heap.size, 1, none⟩ = some (.int .u64 (l : Int)) := k1.cell 1
    have p_k1_2 : World.cell? w22 ⟨w.heap.size, 2, none⟩ = some (.int .u64 (x : Int)) := k1.cell 2
    go_upto_region 4 with fail
    have j1 := Blk.new w22 26 #[.int .u64 (sh : Int), .int .u64 (sl : Int), .int .u64 (sx : Int)]
    replace k1 := k1.alloc (.cells #[.int .u64 (sh : Int), .int .u64 (sl : Int), .int .u64 (sx : Int)] 26)
    replace B1 := B1.alloc B1.size (.cells #[.int .u64 (sh : Int), .int .u64 (sl : Int), .int .u64 (sx : Int)] 26)
    clear  p_k1_0 p_k1_1 p_k1_2
    generalize w22.alloc (.cells #[.int .u64 (sh : Int), .int .u64 (sl : Int), .int .u64 (sx : Int)] 26) = W2 at B1 k1 j1 ⊢
    generalize w22.heap.size = g2 at j1 ⊢
    have p_k1_0 : World.cell? W2 ⟨w.heap.size, 0, none⟩ = some (.int .u64 (h : Int)) := k1.cell 0
    have p_k1_1 : World.cell? W2 ⟨w.heap.size, 1, none⟩ = some (.int .u64 (l : Int)) := k1.cell 1
    have p_k1_2 : World.cell? W2 ⟨w.heap.size, 2, none⟩ = some (.int .u64 (x : Int)) := k1.cell 2
    have p_j1_0 : World.cell? W2 ⟨g2, 0, none⟩ = some (.int .u64 (sh : Int)) := j1.cell 0
    have p_j1_1 : World.cell? W2 ⟨g2, 1, none⟩ = some (.int .u64 (sl : Int)) := j1.cell 1
    have p_j1_2 : World.cell? W2 ⟨g2, 2, none⟩ = some (.int .u64 (sx : Int)) := j1.cell 2
    go_wp2_with fail
    refine (HL.out _).mono ?_
    rintro e w23 ⟨rfl, h2⟩
    replace k1 := k1.below h2 k1.lt
    replace j1 := j1.below h2 j1.lt
    replace B1 := B1.trans (h2.mono B1.size)
    clear h2 p_k1_0 p_k1_1 p_k1_2 p_j1_0 p_j1_1 p_j1_2
    have p_k1_0 : World.cell? w23 ⟨w.heap.size, 0, none⟩ = some (.int .u64 (h : Int)) := k1.cell 0
    have p_k1_1 : World.cell? w23 ⟨w.heap.size, 1, none⟩ = some (.int .u64 (l : Int)) := k1.cell 1
    have p_k1_2 : World.cell? w23 ⟨w.heap.size, 2, none⟩ = some (.int .u64 (x : Int)) := k1.cell 2
    have p_j1_0 : World.cell? w23 ⟨g2, 0, none⟩ = some (.int .u64 (sh : Int)) := j1.cell 0
    have p_j1_1 : World.cell? w23 ⟨g2, 1, none⟩ = some (.int .u64 (sl : Int)) := j1.cell 1
    have p_j1_2 : World.cell? w23 ⟨g2, 2, none⟩ = some (.int .u64 (sx : Int)) := j1.cell 2
    go_upto_region 5 with fail
    have j2 := Blk.new w23 26 #[.int .u64 (uh : Int), .int .u64 (ul : Int), .int .u64 (x : Int)]
    replace k1 := k1.alloc (.cells #[.int .u64 (uh : Int), .int .u64 (ul : Int), .int .u64 (x : Int)] 26)
    replace j1 := j1.alloc (.cells #[.int .u64 (uh : Int), .int .u64 (ul : Int), .int .u64 (x : Int)] 26)
    replace B1 := B1.alloc B1.size (.cells #[.int .u64 (uh : Int), .int .u64 (ul : Int), .int .u64 (x : Int)] 26)
    clear  p_k1_0 p_k1_1 p_k1_2 p_j1_0 p_j1_1 p_j1_2
    generalize w23.alloc (.cells #[.int .u64 (uh : Int), .int .u64 (ul : Int), .int .u64 (x : Int)] 26) = W3 at B1 k1 j1 j2 ⊢
    generalize w23.heap.size = g3 at j2 ⊢
    have p_k1_0 : World.cell? W3 ⟨w.heap.size, 0, none⟩ = some (.int .u64 (h : Int)) := k1.cell 0
    have p_k1_1 : World.cell? W3 ⟨w.heap.size, 1, none⟩ = some (.int .u64 (l : Int)) := k1.cell 1
    have p_k1_2 : World.cell? W3 ⟨w.heap.size, 2, none⟩ = some (.int .u64 (x : Int)) := k1.cell 2
    have p_j1_0 : World.cell? W3 ⟨g2, 0, none⟩ = some (.int .u64 (sh : Int)) := j1.cell 0
    have p_j1_1 : World.cell? W3 ⟨g2, 1, none⟩ = some (.int .u64 (sl : Int)) := j1.cell 1
    have p_j1_2 : World.cell? W3 ⟨g2, 2, none⟩ = some (.int .u64 (sx : Int)) := j1.cell 2
    have p_j2_0 : World.cell? W3 ⟨g3, 0, none⟩ = some (.int .u64 (uh : Int)) := j2.cell 0
    have p_j2_1 : World.cell? W3 ⟨g3, 1, none⟩ = some (.int .u64 (ul : Int)) := j2.cell 1
    have p_j2_2 : World.cell? W3 ⟨g3, 2, none⟩ = some (.int .u64 (x : Int)) := j2.cell 2
    go_wp2_with fail
    refine (HO.out _).mono ?_
    rintro e w24 ⟨rfl, h2⟩
    replace k1 := k1.below h2 k1.lt
    replace j1 := j1.below h2 j1.lt
    replace j2 := j2.below h2 j2.lt
    replace B1 := B1.trans (h2.mono B1.size)
    clear h2 p_k1_0 p_k1_1 p_k1_2 p_j1_0 p_j1_1 p_j1_2 p_j2_0 p_j2_1 p_j2_2
    have p_k1_0 : World.cell? w24 ⟨w.heap.size, 0, none⟩ = some (.int .u64 (h : Int)) := k1.cell 0
    have p_k1_1 : World.cell? w24 ⟨w.heap.size, 1, none⟩ = some (.int .u64 (l : Int)) := k1.cell 1
    have p_k1_2 : World.cell? w24 ⟨w.heap.size, 2, none⟩ = some (.int .u64 (x : Int)) := k1.cell 2
    have p_j1_0 : World.cell? w24 ⟨g2, 0, none⟩ = some (.int .u64 (sh : Int)) := j1.cell 0
    have p_j1_1 : World.cell? w24 ⟨g2, 1, none⟩ = some (.int .u64 (sl : Int)) := j1.cell 1
    have p_j1_2 : World.cell? w24 ⟨g2, 2, none⟩ = some (.int .u64 (sx : Int)) := j1.cell 2
    have p_j2_0 : World.cell? w24 ⟨g3, 0, none⟩ = some (.int .u64 (uh : Int)) := j2.cell 0
    have p_j2_1 : World.cell? w24 ⟨g3, 1, none⟩ = some (.int .u64 (ul : Int)) := j2.cell 1
    have p_j2_2 : World.cell? w24 ⟨g3, 2, none⟩ = some (.int .u64 (x : Int)) := j2.cell 2
    go_upto_region 6 with fail
    have j3 := Blk.new w24 26 #[.int .u64 (th : Int), .int .u64 (tl : Int), .int .u64 (tx : Int)]
    replace k1 := k1.alloc (.cells #[.int .u64 (th : Int), .int .u64 (tl : Int), .int .u64 (tx : Int)] 26)
    replace j1 := j1.alloc (.cells #[.int .u64 (th : Int), .int .u64 (tl : Int), .int .u64 (tx : Int)] 26)
    replace j2 := j2.alloc (.cells #[.int .u64 (th : Int), .int .u64 (tl : Int), .int .u64 (tx : Int)] 26)
    replace B1 := B1.alloc B1.size (.cells #[.int .u64 (th : Int), .int .u64 (tl : Int), .int .u64 (tx : Int)] 26)
    clear  p_k1_0 p_k1_1 p_k1_2 p_j1_0 p_j1_1 p_j1_2 p_j2_0 p_j2_1 p_j2_2
    generalize w24.alloc (.cells #[.int .u64 (th : Int), .int .u64 (tl : Int), .int .u64 (tx : Int)] 26) = W4 at B1 k1 j1 j2 j3 ⊢
    generalize w24.heap.size = g4 at j3 ⊢
    have p_k1_0 : World.cell? W4 ⟨w.heap.size, 0, none⟩ = some (.int .u64 (h : Int)) := k1.cell 0
    have p_k1_1 : World.cell? W4 ⟨w.heap.size, 1, none⟩ = some (.int .u64 (l : Int)) := k1.cell 1
    have p_k1_2 : World.cell? W4 ⟨w.heap.size, 2, none⟩ = some (.int .u64 (x : Int)) := k1.cell 2
    have p_j1_0 : World.cell? W4 ⟨g2, 0, none⟩ = some (.int .u64 (sh : Int)) := j1.cell 0
    have p_j1_1 : World.cell? W4 ⟨g2, 1, none⟩ = some (.int .u64 (sl : Int)) := j1.cell 1
    have p_j1_2 : World.cell? W4 ⟨g2, 2, none⟩ = some (.int .u64 (sx : Int)) := j1.cell 2
    have p_j2_0 : World.cell? W4 ⟨g3, 0, none⟩ = some (.int .u64 (uh : Int)) := j2.cell 0
    have p_j2_1 : World.cell? W4 ⟨g3, 1, none⟩ = some (.int .u64 (ul : Int)) := j2.cell 1
    have p_j2_2 : World.cell? W4 ⟨g3, 2, none⟩ = some (.int .u64 (x : Int)) := j2.cell 2
    have p_j3_0 : World.cell? W4 ⟨g4, 0, none⟩ = some (.int .u64 (th : Int)) := j3.cell 0
    have p_j3_1 : World.cell? W4 ⟨g4, 1, none⟩ = some (.int .u64 (tl : Int)) := j3.cell 1
    have p_j3_2 : World.cell? W4 ⟨g4, 2, none⟩ = some (.int .u64 (tx : Int)) := j3.cell 2
    go_wp2_with fail
    refine (HR.out _).mono ?_
    rintro e w25 ⟨rfl, h2⟩
    replace k1 := k1.below h2 k1.lt
    replace j1 := j1.below h2 j1.lt
    replace j2 := j2.below h2 j2.lt
    replace j3 := j3.below h2 j3.lt
    replace B1 := B1.trans (h2.mono B1.size)
    clear h2 p_k1_0 p_k1_1 p_k1_2 p_j1_0 p_j1_1 p_j1_2 p_j2_0 p_j2_1 p_j2_2 p_j3_0 p_j3_1 p_j3_2
    have p_k1_0 : World.cell? w25 ⟨w.heap.size, 0, none⟩ = some (.int .u64 (h : Int)) := k1.cell 0
    have p_k1_1 : World.cell? w25 ⟨w.heap.size, 1, none⟩ = some (.int .u64 (l : Int)) := k1.cell 1
    have p_k1_2 : World.cell? w25 ⟨w.heap.size, 2, none⟩ = some (.int .u64 (x : Int)) := k1.cell 2
    have p_j1_0 : World.cell? w25 ⟨g2, 0, none⟩ = some (.int .u64 (sh : Int)) := j1.cell 0
    have p_j1_1 : World.cell? w25 ⟨g2, 1, none⟩ = some (.int .u64 (sl : Int)) := j1.cell 1
    have p_j1_2 : World.cell? w25 ⟨g2, 2, none⟩ = some (.int .u64 (sx : Int)) := j1.cell 2
    have p_j2_0 : World.cell? w25 ⟨g3, 0, none⟩ = some (.int .u64 (uh : Int)) := j2.cell 0
    have p_j2_1 : World.cell? w25 ⟨g3, 1, none⟩ = some (.int .u64 (ul : Int)) := j2.cell 1
    have p_j2_2 : World.cell? w25 ⟨g3, 2, none⟩ = some (.int .u64 (x : Int)) := j2.cell 2
    have p_j3_0 : World.cell? w25 ⟨g4, 0, none⟩ = some (.int .u64 (th : Int)) := j3.cell 0
    have p_j3_1 : World.cell? w25 ⟨g4, 1, none⟩ = some (.int .u64 (tl : Int)) := j3.cell 1
    have p_j3_2 : World.cell? w25 ⟨g4, 2, none⟩ = some (.int .u64 (tx : Int)) := j3.cell 2
    go_wp2_with fail
    refine (HAd.out _).mono ?_
    rintro e w26 ⟨rfl, h2⟩
    replace k1 := k1.below h2 k1.lt
    replace j1 := j1.below h2 j1.lt
    replace j2 := j2.below h2 j2.lt
    replace j3 := j3.below h2 j3.lt
    replace B1 := B1.trans (h2.mono B1.size)
    clear h2 p_k1_0 p_k1_1 p_k1_2 p_j1_0 p_j1_1 p_j1_2 p_j2_0 p_j2_1 p_j2_2 p_j3_0 p_j3_1 p_j3_2
    have p_k1_0 : World.cell? w26 ⟨w.heap.size, 0, none⟩ = some (.int .u64 (h : Int)) := k1.cell 0
    have p_k1_1 : World.cell? w26 ⟨w.heap.size, 1, none⟩ = some (.int .u64 (l : Int)) := k1.cell 1
    have p_k1_2 : World.cell? w26 ⟨w.heap.size, 2, none⟩ = some (.int .u64 (x : Int)) := k1.cell 2
    have p_j1_0 : World.cell? w26 ⟨g2, 0, none⟩ = some (.int .u64 (sh : Int)) := j1.cell 0
    have p_j1_1 : World.cell? w26 ⟨g2, 1, none⟩ = some (.int .u64 (sl : Int)) := j1.cell 1
    have p_j1_2 : World.cell? w26 ⟨g2, 2, none⟩ = some (.int .u64 (sx : Int)) := j1.cell 2
    have p_j2_0 : World.cell? w26 ⟨g3, 0, none⟩ = some (.int .u64 (uh : Int)) := j2.cell 0
    have p_j2_1 : World.cell? w26 ⟨g3, 1, none⟩ = some (.int .u64 (ul : Int)) := j2.cell 1
    have p_j2_2 : World.cell? w26 ⟨g3, 2, none⟩ = some (.int .u64 (x : Int)) := j2.cell 2
    have p_j3_0 : World.cell? w26 ⟨g4, 0, none⟩ = some (.int .u64 (th : Int)) := j3.cell 0
    have p_j3_1 : World.cell? w26 ⟨g4, 1, none⟩ = some (.int .u64 (tl : Int)) := j3.cell 1
    have p_j3_2 : World.cell? w26 ⟨g4, 2, none⟩ = some (.int .u64 (tx : Int)) := j3.cell 2
    go_upto_region 9 with fail
    have j4 := Blk.new w26 24 #[.int .u64 (ah : Int), .int .u64 (al : Int)]
    replace k1 := k1.alloc (.cells #[.int .u64 (ah : Int), .int .u64 (al : Int)] 24)
    replace j1 := j1.alloc (.cells #[.int .u64 (ah : Int), .int .u64 (al : Int)] 24)
    replace j2 := j2.alloc (.cells #[.int .u64 (ah : Int), .int .u64 (al : Int)] 24)
    replace j3 := j3.alloc (.cells #[.int .u64 (ah : Int), .int .u64 (al : Int)] 24)
    replace B1 := B1.alloc B1.size (.cells #[.int .u64 (ah : Int), .int .u64 (al : Int)] 24)
    clear  p_k1_0 p_k1_1 p_k1_2 p_j1_0 p_j1_1 p_j1_2 p_j2_0 p_j2_1 p_j2_2 p_j3_0 p_j3_1 p_j3_2
    generalize w26.alloc (.cells #[.int .u64 (ah : Int), .int .u64 (al : Int)] 24) = W5 at B1 k1 j1 j2 j3 j4 ⊢
    generalize w26.heap.size = g5 at j4 ⊢
    have p_k1_0 : World.cell? W5 ⟨w.heap.size, 0, none⟩ = some (.int .u64 (h : Int)) := k1.cell 0
    have p_k1_1 : World.cell? W5 ⟨w.heap.size, 1, none⟩ = some (.int .u64 (l : Int)) := k1.cell 1
    have p_k1_2 : World.cell? W5 ⟨w.heap.size, 2, none⟩ = some (.int .u64 (x : Int)) := k1.cell 2
    have p_j1_0 : World.cell? W5 ⟨g2, 0, none⟩ = some (.int .u64 (sh : Int)) := j1.cell 0
    have p_j1_1 : World.cell? W5 ⟨g2, 1, none⟩ = some (.int .u64 (sl : Int)) := j1.cell 1
    have p_j1_2 : World.cell? W5 ⟨g2, 2, none⟩ = some (.int .u64 (sx : Int)) := j1.cell 2
    have p_j2_0 : World.cell? W5 ⟨g3, 0, none⟩ = some (.int .u64 (uh : Int)) := j2.cell 0
    have p_j2_1 : World.cell? W5 ⟨g3, 1, none⟩ = some (.int .u64 (ul : Int)) := j2.cell 1
    have p_j2_2 : World.cell? W5 ⟨g3, 2, none⟩ = some (.int .u64 (x : Int)) := j2.cell 2
    have p_j3_0 : World.cell? W5 ⟨g4, 0, none⟩ = some (.int .u64 (th : Int)) := j3.cell 0
    have p_j3_1 : World.cell? W5 ⟨g4, 1, none⟩ = some (.int .u64 (tl : Int)) := j3.cell 1
    have p_j3_2 : World.cell? W5 ⟨g4, 2, none⟩ = some (.int .u64 (tx : Int)) := j3.cell 2
    have p_j4_0 : World.cell? W5 ⟨g5, 0, none⟩ = some (.int .u64 (ah : Int)) := j4.cell 0
    have p_j4_1 : World.cell? W5 ⟨g5, 1, none⟩ = some (.int .u64 (al : Int)) := j4.cell 1
    go_cut [98] (fun s98 wx => s98 = .bool false ∧ Blk wx w.heap.size 26 #[.int .u64 (h : Int), .int .u64 (l : Int), .int .u64 (x : Int)] ∧ Blk wx g2 26 #[.int .u64 (sh : Int), .int .u64 (sl : Int), .int .u64 (sx : Int)] ∧ Blk wx g3 26 #[.int .u64 (uh : Int), .int .u64 (ul : Int), .int .u64 (x : Int)] ∧ Blk wx g4 26 #[.int .u64 (th : Int), .int .u64 (tl : Int), .int .u64 (tx : Int)] ∧ Blk wx g5 24 #[.int .u64 (ah : Int), .int .u64 (al : Int)] ∧ Below w.heap.size w wx)
    case first =>
      rcases HX.out.1 with ⟨rfl, rfl, rfl, rfl, rfl⟩ | ⟨rfl, rfl, q1, q2, q3⟩
      · clear HX
        go_wp2_with fail
        go_meet
        exact ⟨rfl, k1, j1, j2, j3, j4, B1⟩
      · clear HX
        go_wp2_with fail
        go_meet
        exact ⟨rfl, k1, j1, j2, j3, j4, B1⟩
    case rest =>
      clear B1 k1 j1 j2 j3 j4
      clear  p_k1_0 p_k1_1 p_k1_2 p_j1_0 p_j1_1 p_j1_2 p_j2_0 p_j2_1 p_j2_2 p_j3_0 p_j3_1 p_j3_2 p_j4_0 p_j4_1
      obtain ⟨rfl, k1, j1, j2, j3, j4, B1⟩ := hcut
      clear j4
      have p_k1_0 : World.cell? _ ⟨w.heap.size, 0, none⟩ = some (.int .u64 (h : Int)) := k1.cell 0
      have p_k1_1 : World.cell? _ ⟨w.heap.size, 1, none⟩ = some (.int .u64 (l : Int)) := k1.cell 1
      have p_k1_2 : World.cell? _ ⟨w.heap.size, 2, none⟩ = some (.int .u64 (x : Int)) := k1.cell 2
      have p_j1_0 : World.cell? _ ⟨g2, 0, none⟩ = some (.int .u64 (sh : Int)) := j1.cell 0
      have p_j1_1 : World.cell? _ ⟨g2, 1, none⟩ = some (.int .u64 (sl : Int)) := j1.cell 1
      have p_j1_2 : World.cell? _ ⟨g2, 2, none⟩ = some (.int .u64 (sx : Int)) := j1.cell 2
      have p_j2_0 : World.cell? _ ⟨g3, 0, none⟩ = some (.int .u64 (uh : Int)) := j2.cell 0
      have p_j2_1 : World.cell? _ ⟨g3, 1, none⟩ = some (.int .u64 (ul : Int)) := j2.cell 1
      have p_j2_2 : World.cell? _ ⟨g3, 2, none⟩ = some (.int .u64 (x : Int)) := j2.cell 2
      have p_j3_0 : World.cell? _ ⟨g4, 0, none⟩ = some (.int .u64 (th : Int)) := j3.cell 0
      have p_j3_1 : World.cell? _ ⟨g4, 1, none⟩ = some (.int .u64 (tl : Int)) := j3.cell 1
      have p_j3_2 : World.cell? _ ⟨g4, 2, none⟩ = some (.int .u64 (tx : Int)) := j3.cell 2
      go_wp2_with fail
      refine (HOa.out _).mono ?_
      rintro e w41 ⟨rfl, h2⟩
      replace k1 := k1.below h2 k1.lt
      replace j1 := j1.below h2 j1.lt
      replace j2 := j2.below h2 j2.lt
      replace j3 := j3.below h2 j3.lt
      replace B1 := B1.trans (h2.mono B1.size)
      clear h2 p_k1_0 p_k1_1 p_k1_2 p_j1_0 p_j1_1 p_j1_2 p_j2_0 p_j2_1 p_j2_2 p_j3_0 p_j3_1 p_j3_2
      have p_k1_0 : World.cell? w41 ⟨w.heap.size, 0, none⟩ = some (.int .u64 (h : Int)) := k1.cell 0
      have p_k1_1 : World.cell? w41 ⟨w.heap.size, 1, none⟩ = some (.int .u64 (l : Int)) := k1.cell 1
      have p_k1_2 : World.cell? w41 ⟨w.heap.size, 2, none⟩ = some (.int .u64 (x : Int)) := k1.cell 2
      have p_j1_0 : World.cell? w41 ⟨g2, 0, none⟩ = some (.int .u64 (sh : Int)) := j1.cell 0
      have p_j1_1 : World.cell? w41 ⟨g2, 1, none⟩ = some (.int .u64 (sl : Int)) := j1.cell 1
      have p_j1_2 : World.cell? w41 ⟨g2, 2, none⟩ = some (.int .u64 (sx : Int)) := j1.cell 2
      have p_j2_0 : World.cell? w41 ⟨g3, 0, none⟩ = some (.int .u64 (uh : Int)) := j2.cell 0
      have p_j2_1 : World.cell? w41 ⟨g3, 1, none⟩ = some (.int .u64 (ul : Int)) := j2.cell 1
      have p_j2_2 : World.cell? w41 ⟨g3, 2, none⟩ = some (.int .u64 (x : Int)) := j2.cell 2
      have p_j3_0 : World.cell? w41 ⟨g4, 0, none⟩ = some (.int .u64 (th : Int)) := j3.cell 0
      have p_j3_1 : World.cell? w41 ⟨g4, 1, none⟩ = some (.int .u64 (tl : Int)) := j3.cell 1
      have p_j3_2 : World.cell? w41 ⟨g4, 2, none⟩ = some (.int .u64 (tx : Int)) := j3.cell 2
      go_wp2_with fail
      refine (HOb.out _).mono ?_
      rintro e w42 ⟨rfl, h2⟩
      replace k1 := k1.below h2 k1.lt
      replace j1 := j1.below h2 j1.lt
      replace j2 := j2.below h2 j2.lt
      replace j3 := j3.below h2 j3.lt
      replace B1 := B1.trans (h2.mono B1.size)
      clear h2 p_k1_0 p_k1_1 p_k1_2 p_j1_0 p_j1_1 p_j1_2 p_j2_0 p_j2_1 p_j2_2 p_j3_0 p_j3_1 p_j3_2
      have p_k1_0 : World.cell? w42 ⟨w.heap.size, 0, none⟩ = some (.int .u64 (h : Int)) := k1.cell 0
      have p_k1_1 : World.cell? w42 ⟨w.heap.size, 1, none⟩ = some (.int .u64 (l : Int)) := k1.cell 1
      have p_k1_2 : World.cell? w42 ⟨w.heap.size, 2, none⟩ = some (.int .u64 (x : Int)) := k1.cell 2
      have p_j1_0 : World.cell? w42 ⟨g2, 0, none⟩ = some (.int .u64 (sh : Int)) := j1.cell 0
      have p_j1_1 : World.cell? w42 ⟨g2, 1, none⟩ = some (.int .u64 (sl : Int)) := j1.cell 1
      have p_j1_2 : World.cell? w42 ⟨g2, 2, none⟩ = some (.int .u64 (sx : Int)) := j1.cell 2
      have p_j2_0 : World.cell? w42 ⟨g3, 0, none⟩ = some (.int .u64 (uh : Int)) := j2.cell 0
      have p_j2_1 : World.cell? w42 ⟨g3, 1, none⟩ = some (.int .u64 (ul : Int)) := j2.cell 1
      have p_j2_2 : World.cell? w42 ⟨g3, 2, none⟩ = some (.int .u64 (x : Int)) := j2.cell 2
      have p_j3_0 : World.cell? w42 ⟨g4, 0, none⟩ = some (.int .u64 (th : Int)) := j3.cell 0
      have p_j3_1 : World.cell? w42 ⟨g4, 1, none⟩ = some (.int .u64 (tl : Int)) := j3.cell 1
      have p_j3_2 : World.cell? w42 ⟨g4, 2, none⟩ = some (.int .u64 (tx : Int)) := j3.cell 2
      go_wp2_with fail
      refine (HLe.out _).mono ?_
      rintro e w43 ⟨rfl, h2⟩
      replace k1 := k1.below h2 k1.lt
      replace j1 := j1.below h2 j1.lt
      replace j2 := j2.below h2 j2.lt
      replace j3 := j3.below h2 j3.lt
      replace B1 := B1.trans (h2.mono B1.size)
      clear h2 p_k1_0 p_k1_1 p_k1_2 p_j1_0 p_j1_1 p_j1_2 p_j2_0 p_j2_1 p_j2_2 p_j3_0 p_j3_1 p_j3_2
      have p_k1_0 : World.cell? w43 ⟨w.heap.size, 0, none⟩ = some (.int .u64 (h : Int)) := k1.cell 0
      have p_k1_1 : World.cell? w43 ⟨w.heap.size, 1, none⟩ = some (.int .u64 (l : Int)) := k1.cell 1
      have p_k1_2 : World.cell? w43 ⟨w.heap.size, 2, none⟩ = some (.int .u64 (x : Int)) := k1.cell 2
      have p_j1_0 : World.cell? w43 ⟨g2, 0, none⟩ = some (.int .u64 (sh : Int)) := j1.cell 0
      have p_j1_1 : World.cell? w43 ⟨g2, 1, none⟩ = some (.int .u64 (sl : Int)) := j1.cell 1
      have p_j1_2 : World.cell? w43 ⟨g2, 2, none⟩ = some (.int .u64 (sx : Int)) := j1.cell 2
      have p_j2_0 : World.cell? w43 ⟨g3, 0, none⟩ = some (.int .u64 (uh : Int)) := j2.cell 0
      have p_j2_1 : World.cell? w43 ⟨g3, 1, none⟩ = some (.int .u64 (ul : Int)) := j2.cell 1
      have p_j2_2 : World.cell? w43 ⟨g3, 2, none⟩ = some (.int .u64 (x : Int)) := j2.cell 2
      have p_j3_0 : World.cell? w43 ⟨g4, 0, none⟩ = some (.int .u64 (th : Int)) := j3.cell 0
      have p_j3_1 : World.cell? w43 ⟨g4, 1, none⟩ = some (.int .u64 (tl : Int)) := j3.cell 1
      have p_j3_2 : World.cell? w43 ⟨g4, 2, none⟩ = some (.int .u64 (tx : Int)) := j3.cell 2
      go_upto_region 12 with fail
      have j5 := Blk.new w43 24 #[.int .u64 (uh : Int), .int .u64 (ul : Int)]
      replace k1 := k1.alloc (.cells #[.int .u64 (uh : Int), .int .u64 (ul : Int)] 24)
      replace j1 := j1.alloc (.cells #[.int .u64 (uh : Int), .int .u64 (ul : Int)] 24)
      replace j2 := j2.alloc (.cells #[.int .u64 (uh : Int), .int .u64 (ul : Int)] 24)
      replace j3 := j3.alloc (.cells #[.int .u64 (uh : Int), .int .u64 (ul : Int)] 24)
      replace B1 := B1.alloc B1.size (.cells #[.int .u64 (uh : Int), .int .u64 (ul : Int)] 24)
      clear  p_k1_0 p_k1_1 p_k1_2 p_j1_0 p_j1_1 p_j1_2 p_j2_0 p_j2_1 p_j2_2 p_j3_0 p_j3_1 p_j3_2
      generalize w43.alloc (.cells #[.int .u64 (uh : Int), .int .u64 (ul : Int)] 24) = W11 at B1 k1 j1 j2 j3 j5 ⊢
      generalize w43.heap.size = g11 at j5 ⊢
      have p_k1_0 : World.cell? W11 ⟨w.heap.size, 0, none⟩ = some (.int .u64 (h : Int)) := k1.cell 0
      have p_k1_1 : World.cell? W11 ⟨w.heap.size, 1, none⟩ = some (.int .u64 (l : Int)) := k1.cell 1
      have p_k1_2 : World.cell? W11 ⟨w.heap.size, 2, none⟩ = some (.int .u64 (x : Int)) := k1.cell 2
      have p_j1_0 : World.cell? W11 ⟨g2, 0, none⟩ = some (.int .u64 (sh : Int)) := j1.cell 0
      have p_j1_1 : World.cell? W11 ⟨g2, 1, none⟩ = some (.int .u64 (sl : Int)) := j1.cell 1
      have p_j1_2 : World.cell? W11 ⟨g2, 2, none⟩ = some (.int .u64 (sx : Int)) := j1.cell 2
      have p_j2_0 : World.cell? W11 ⟨g3, 0, none⟩ = some (.int .u64 (uh : Int)) := j2.cell 0
      have p_j2_1 : World.cell? W11 ⟨g3, 1, none⟩ = some (.int .u64 (ul : Int)) := j2.cell 1
      have p_j2_2 : World.cell? W11 ⟨g3, 2, none⟩ = some (.int .u64 (x : Int)) := j2.cell 2
      have p_j3_0 : World.cell? W11 ⟨g4, 0, none⟩ = some (.int .u64 (th : Int)) := j3.cell 0
      have p_j3_1 : World.cell? W11 ⟨g4, 1, none⟩ = some (.int .u64 (tl : Int)) := j3.cell 1
      have p_j3_2 : World.cell? W11 ⟨g4, 2, none⟩ = some (.int .u64 (tx : Int)) := j3.cell 2
      have p_j5_0 : World.cell? W11 ⟨g11, 0, none⟩ = some (.int .u64 (uh : Int)) := j5.cell 0
      have p_j5_1 : World.cell? W11 ⟨g11, 1, none⟩ = some (.int .u64 (ul : Int)) := j5.cell 1
      go_wp2_with fail
      rcases HX.out.2 with ⟨rfl, rfl, q1, q2, q3⟩ | ⟨rfl, rfl, rfl, q1, q2, q3⟩ | ⟨rfl, rfl, rfl, rfl, rfl, rfl⟩
      · skip
        clear HX
        refine (HW.out _).mono ?_
        rintro e w44 ⟨rfl, h2⟩
        replace k1 := k1.below h2 k1.lt
        replace j1 := j1.below h2 j1.lt
        replace j2 := j2.below h2 j2.lt
        replace j3 := j3.below h2 j3.lt
        replace j5 := j5.below h2 j5.lt
        replace B1 := B1.trans (h2.mono B1.size)
        clear h2 p_k1_0 p_k1_1 p_k1_2 p_j1_0 p_j1_1 p_j1_2 p_j2_0 p_j2_1 p_j2_2 p_j3_0 p_j3_1 p_j3_2 p_j5_0 p_j5_1
        have p_k1_0 : World.cell? w44 ⟨w.heap.size, 0, none⟩ = some (.int .u64 (h : Int)) := k1.cell 0
        have p_k1_1 : World.cell? w44 ⟨w.heap.size, 1, none⟩ = some (.int .u64 (l : Int)) := k1.cell 1
        have p_k1_2 : World.cell? w44 ⟨w.heap.size, 2, none⟩ = some (.int .u64 (x : Int)) := k1.cell 2
        have p_j1_0 : World.cell? w44 ⟨g2, 0, none⟩ = some (.int .u64 (sh : Int)) := j1.cell 0
        have p_j1_1 : World.cell? w44 ⟨g2, 1, none⟩ = some (.int .u64 (sl : Int)) := j1.cell 1
        have p_j1_2 : World.cell? w44 ⟨g2, 2, none⟩ = some (.int .u64 (sx : Int)) := j1.cell 2
        have p_j2_0 : World.cell? w44 ⟨g3, 0, none⟩ = some (.int .u64 (uh : Int)) := j2.cell 0
        have p_j2_1 : World.cell? w44 ⟨g3, 1, none⟩ = some (.int .u64 (ul : Int)) := j2.cell 1
        have p_j2_2 : World.cell? w44 ⟨g3, 2, none⟩ = some (.int .u64 (x : Int)) := j2.cell 2
        have p_j3_0 : World.cell? w44 ⟨g4, 0, none⟩ = some (.int .u64 (th : Int)) := j3.cell 0
        have p_j3_1 : World.cell? w44 ⟨g4, 1, none⟩ = some (.int .u64 (tl : Int)) := j3.cell 1
        have p_j3_2 : World.cell? w44 ⟨g4, 2, none⟩ = some (.int .u64 (tx : Int)) := j3.cell 2
        have p_j5_0 : World.cell? w44 ⟨g11, 0, none⟩ = some (.int .u64 (uh : Int)) := j5.cell 0
        have p_j5_1 : World.cell? w44 ⟨g11, 1, none⟩ = some (.int .u64 (ul : Int)) := j5.cell 1
        go_wp2
        go_ret
        exact ⟨rfl, B1⟩
      · skip
        clear HX
        refine (HW.out _).mono ?_
        rintro e w44 ⟨rfl, h2⟩
        replace k1 := k1.below h2 k1.lt
        replace j1 := j1.below h2 j1.lt
        replace j2 := j2.below h2 j2.lt
        replace j3 := j3.below h2 j3.lt
        replace j5 := j5.below h2 j5.lt
        replace B1 := B1.trans (h2.mono B1.size)
        clear h2 p_k1_0 p_k1_1 p_k1_2 p_j1_0 p_j1_1 p_j1_2 p_j2_0 p_j2_1 p_j2_2 p_j3_0 p_j3_1 p_j3_2 p_j5_0 p_j5_1
        have p_k1_0 : World.cell? w44 ⟨w.heap.size, 0, none⟩ = some (.int .u64 (h : Int)) := k1.cell 0
        have p_k1_1 : World.cell? w44 ⟨w.heap.size, 1, none⟩ = some (.int .u64 (l : Int)) := k1.cell 1
        have p_k1_2 : World.cell? w44 ⟨w.heap.size, 2, none⟩ = some (.int .u64 (x : Int)) := k1.cell 2
        have p_j1_0 : World.cell? w44 ⟨g2, 0, none⟩ = some (.int .u64 (sh : Int)) := j1.cell 0
        have p_j1_1 : World.cell? w44 ⟨g2, 1, none⟩ = some (.int .u64 (sl : Int)) := j1.cell 1
        have p_j1_2 : World.cell? w44 ⟨g2, 2, none⟩ = some (.int .u64 (sx : Int)) := j1.cell 2
        have p_j2_0 : World.cell? w44 ⟨g3, 0, none⟩ = some (.int .u64 (uh : Int)) := j2.cell 0
        have p_j2_1 : World.cell? w44 ⟨g3, 1, none⟩ = some (.int .u64 (ul : Int)) := j2.cell 1
        have p_j2_2 : World.cell? w44 ⟨g3, 2, none⟩ = some (.int .u64 (x : Int)) := j2.cell 2
        have p_j3_0 : World.cell? w44 ⟨g4, 0, none⟩ = some (.int .u64 (th : Int)) := j3.cell 0
        have p_j3_1 : World.cell? w44 ⟨g4, 1, none⟩ = some (.int .u64 (tl : Int)) := j3.cell 1
        have p_j3_2 : World.cell? w44 ⟨g4, 2, none⟩ = some (.int .u64 (tx : Int)) := j3.cell 2
        have p_j5_0 : World.cell? w44 ⟨g11, 0, none⟩ = some (.int .u64 (uh : Int)) := j5.cell 0
        have p_j5_1 : World.cell? w44 ⟨g11, 1, none⟩ = some (.int .u64 (ul : Int)) := j5.cell 1
        go_wp2_with fail
        refine (HOv.out _).mono ?_
        rintro e w45 ⟨rfl, h2⟩
        replace k1 := k1.below h2 k1.lt
        replace j1 := j1.below h2 j1.lt
        replace j2 := j2.below h2 j2.lt
        replace j3 := j3.below h2 j3.lt
        replace j5 := j5.below h2 j5.lt
        replace B1 := B1.trans (h2.mono B1.size)
        clear h2 p_k1_0 p_k1_1 p_k1_2 p_j1_0 p_j1_1 p_j1_2 p_j2_0 p_j2_1 p_j2_2 p_j3_0 p_j3_1 p_j3_2 p_j5_0 p_j5_1
        have p_k1_0 : World.cell? w45 ⟨w.heap.size, 0, none⟩ = some (.int .u64 (h : Int)) := k1.cell 0
        have p_k1_1 : World.cell? w45 ⟨w.heap.size, 1, none⟩ = some (.int .u64 (l : Int)) := k1.cell 1
        have p_k1_2 : World.cell? w45 ⟨w.heap.size, 2, none⟩ = some (.int .u64 (x : Int)) := k1.cell 2
        have p_j1_0 : World.cell? w45 ⟨g2, 0, none⟩ = some (.int .u64 (sh : Int)) := j1.cell 0
        have p_j1_1 : World.cell? w45 ⟨g2, 1, none⟩ = some (.int .u64 (sl : Int)) := j1.cell 1
        have p_j1_2 : World.cell? w45 ⟨g2, 2, none⟩ = some (.int .u64 (sx : Int)) := j1.cell 2
        have p_j2_0 : World.cell? w45 ⟨g3, 0, none⟩ = some (.int .u64 (uh : Int)) := j2.cell 0
        have p_j2_1 : World.cell? w45 ⟨g3, 1, none⟩ = some (.int .u64 (ul : Int)) := j2.cell 1
        have p_j2_2 : World.cell? w45 ⟨g3, 2, none⟩ = some (.int .u64 (x : Int)) := j2.cell 2
        have p_j3_0 : World.cell? w45 ⟨g4, 0, none⟩ = some (.int .u64 (th : Int)) := j3.cell 0
        have p_j3_1 : World.cell? w45 ⟨g4, 1, none⟩ = some (.int .u64 (tl : Int)) := j3.cell 1
        have p_j3_2 : World.cell? w45 ⟨g4, 2, none⟩ = some (.int .u64 (tx : Int)) := j3.cell 2
        have p_j5_0 : World.cell? w45 ⟨g11, 0, none⟩ = some (.int .u64 (uh : Int)) := j5.cell 0
        have p_j5_1 : World.cell? w45 ⟨g11, 1, none⟩ = some (.int .u64 (ul : Int)) := j5.cell 1
        go_upto_region 17 with fail
        have j6 := Blk.new w45 24 #[.int .u64 (oh : Int), .int .u64 (ol : Int)]
        replace k1 := k1.alloc (.cells #[.int .u64 (oh : Int), .int .u64 (ol : Int)] 24)
        replace j1 := j1.alloc (.cells #[.int .u64 (oh : Int), .int .u64 (ol : Int)] 24)
        replace j2 := j2.alloc (.cells #[.int .u64 (oh : Int), .int .u64 (ol : Int)] 24)
        replace j3 := j3.alloc (.cells #[.int .u64 (oh : Int), .int .u64 (ol : Int)] 24)
        replace j5 := j5.alloc (.cells #[.int .u64 (oh : Int), .int .u64 (ol : Int)] 24)
        replace B1 := B1.alloc B1.size (.cells #[.int .u64 (oh : Int), .int .u64 (ol : Int)] 24)
        clear  p_k1_0 p_k1_1 p_k1_2 p_j1_0 p_j1_1 p_j1_2 p_j2_0 p_j2_1 p_j2_2 p_j3_0 p_j3_1 p_j3_2 p_j5_0 p_j5_1
        generalize w45.alloc (.cells #[.int .u64 (oh : Int), .int .u64 (ol : Int)] 24) = W12 at B1 k1 j1 j2 j3 j5 j6 ⊢
        generalize w45.heap.size = g12 at j6 ⊢
        have p_k1_0 : World.cell? W12 ⟨w.heap.size, 0, none⟩ = some (.int .u64 (h : Int)) := k1.cell 0
        have p_k1_1 : World.cell? W12 ⟨w.heap.size, 1, none⟩ = some (.int .u64 (l : Int)) := k1.cell 1
        have p_k1_2 : World.cell? W12 ⟨w.heap.size, 2, none⟩ = some (.int .u64 (x : Int)) := k1.cell 2
        have p_j1_0 : World.cell? W12 ⟨g2, 0, none⟩ = some (.int .u64 (sh : Int)) := j1.cell 0
        have p_j1_1 : World.cell? W12 ⟨g2, 1, none⟩ = some (.int .u64 (sl : Int)) := j1.cell 1
        have p_j1_2 : World.cell? W12 ⟨g2, 2, none⟩ = some (.int .u64 (sx : Int)) := j1.cell 2
        have p_j2_0 : World.cell? W12 ⟨g3, 0, none⟩ = some (.int .u64 (uh : Int)) := j2.cell 0
        have p_j2_1 : World.cell? W12 ⟨g3, 1, none⟩ = some (.int .u64 (ul : Int)) := j2.cell 1
        have p_j2_2 : World.cell? W12 ⟨g3, 2, none⟩ = some (.int .u64 (x : Int)) := j2.cell 2
        have p_j3_0 : World.cell? W12 ⟨g4, 0, none⟩ = some (.int .u64 (th : Int)) := j3.cell 0
        have p_j3_1 : World.cell? W12 ⟨g4, 1, none⟩ = some (.int .u64 (tl : Int)) := j3.cell 1
        have p_j3_2 : World.cell? W12 ⟨g4, 2, none⟩ = some (.int .u64 (tx : Int)) := j3.cell 2
        have p_j5_0 : World.cell? W12 ⟨g11, 0, none⟩ = some (.int .u64 (uh : Int)) := j5.cell 0
        have p_j5_1 : World.cell? W12 ⟨g11, 1, none⟩ = some (.int .u64 (ul : Int)) := j5.cell 1
        have p_j6_0 : World.cell? W12 ⟨g12, 0, none⟩ = some (.int .u64 (oh : Int)) := j6.cell 0
        have p_j6_1 : World.cell? W12 ⟨g12, 1, none⟩ = some (.int .u64 (ol : Int)) := j6.cell 1
        go_wp2
        go_ret
        exact ⟨rfl, B1⟩
      · skip
        clear HX
        refine (HW.out _).mono ?_
        rintro e w44 ⟨rfl, h2⟩
        replace k1 := k1.below h2 k1.lt
        replace j1 := j1.below h2 j1.lt
        replace j2 := j2.below h2 j2.lt
        replace j3 := j3.below h2 j3.lt
        replace j5 := j5.below h2 j5.lt
        replace B1 := B1.trans (h2.mono B1.size)
        clear h2 p_k1_0 p_k1_1 p_k1_2 p_j1_0 p_j1_1 p_j1_2 p_j2_0 p_j2_1 p_j2_2 p_j3_0 p_j3_1 p_j3_2 p_j5_0 p_j5_1
        have p_k1_0 : World.cell? w44 ⟨w.heap.size, 0, none⟩ = some (.int .u64 (h : Int)) := k1.cell 0
        have p_k1_1 : World.cell? w44 ⟨w.heap.size, 1, none⟩ = some (.int .u64 (l : Int)) := k1.cell 1
        have p_k1_2 : World.cell? w44 ⟨w.heap.size, 2, none⟩ = some (.int .u64 (x : Int)) := k1.cell 2
        have p_j1_0 : World.cell? w44 ⟨g2, 0, none⟩ = some (.int .u64 (sh : Int)) := j1.cell 0
        have p_j1_1 : World.cell? w44 ⟨g2, 1, none⟩ = some (.int .u64 (sl : Int)) := j1.cell 1
        have p_j1_2 : World.cell? w44 ⟨g2, 2, none⟩ = some (.int .u64 (sx : Int)) := j1.cell 2
        have p_j2_0 : World.cell? w44 ⟨g3, 0, none⟩ = some (.int .u64 (uh : Int)) := j2.cell 0
        have p_j2_1 : World.cell? w44 ⟨g3, 1, none⟩ = some (.int .u64 (ul : Int)) := j2.cell 1
        have p_j2_2 : World.cell? w44 ⟨g3, 2, none⟩ = some (.int .u64 (x : Int)) := j2.cell 2
        have p_j3_0 : World.cell? w44 ⟨g4, 0, none⟩ = some (.int .u64 (th : Int)) := j3.cell 0
        have p_j3_1 : World.cell? w44 ⟨g4, 1, none⟩ = some (.int .u64 (tl : Int)) := j3.cell 1
        have p_j3_2 : World.cell? w44 ⟨g4, 2, none⟩ = some (.int .u64 (tx : Int)) := j3.cell 2
        have p_j5_0 : World.cell? w44 ⟨g11, 0, none⟩ = some (.int .u64 (uh : Int)) := j5.cell 0
        have p_j5_1 : World.cell? w44 ⟨g11, 1, none⟩ = some (.int .u64 (ul : Int)) := j5.cell 1
        go_wp2_with fail
        refine (HOv.out _).mono ?_
        rintro e w45 ⟨rfl, h2⟩
        replace k1 := k1.below h2 k1.lt
        replace j1 := j1.below h2 j1.lt
        replace j2 := j2.below h2 j2.lt
        replace j3 := j3.below h2 j3.lt
        replace j5 := j5.below h2 j5.lt
        replace B1 := B1.trans (h2.mono B1.size)
        clear h2 p_k1_0 p_k1_1 p_k1_2 p_j1_0 p_j1_1 p_j1_2 p_j2_0 p_j2_1 p_j2_2 p_j3_0 p_j3_1 p_j3_2 p_j5_0 p_j5_1
        have p_k1_0 : World.cell? w45 ⟨w.heap.size, 0, none⟩ = some (.int .u64 (h : Int)) := k1.cell 0
        have p_k1_1 : World.cell? w45 ⟨w.heap.size, 1, none⟩ = some (.int .u64 (l : Int)) := k1.cell 1
        have p_k1_2 : World.cell? w45 ⟨w.heap.size, 2, none⟩ = some (.int .u64 (x : Int)) := k1.cell 2
        have p_j1_0 : World.cell? w45 ⟨g2, 0, none⟩ = some (.int .u64 (sh : Int)) := j1.cell 0
        have p_j1_1 : World.cell? w45 ⟨g2, 1, none⟩ = some (.int .u64 (sl : Int)) := j1.cell 1
        have p_j1_2 : World.cell? w45 ⟨g2, 2, none⟩ = some (.int .u64 (sx : Int)) := j1.cell 2
        have p_j2_0 : World.cell? w45 ⟨g3, 0, none⟩ = some (.int .u64 (uh : Int)) := j2.cell 0
        have p_j2_1 : World.cell? w45 ⟨g3, 1, none⟩ = some (.int .u64 (ul : Int)) := j2.cell 1
        have p_j2_2 : World.cell? w45 ⟨g3, 2, none⟩ = some (.int .u64 (x : Int)) := j2.cell 2
        have p_j3_0 : World.cell? w45 ⟨g4, 0, none⟩ = some (.int .u64 (th : Int)) := j3.cell 0
        have p_j3_1 : World.cell? w45 ⟨g4, 1, none⟩ = some (.int .u64 (tl : Int)) := j3.cell 1
        have p_j3_2 : World.cell? w45 ⟨g4, 2, none⟩ = some (.int .u64 (tx : Int)) := j3.cell 2
        have p_j5_0 : World.cell? w45 ⟨g11, 0, none⟩ = some (.int .u64 (uh : Int)) := j5.cell 0
        have p_j5_1 : World.cell? w45 ⟨g11, 1, none⟩ = some (.int .u64 (ul : Int)) := j5.cell 1
        go_upto_region 17 with fail
        have j6 := Blk.new w45 24 #[.int .u64 (th : Int), .int .u64 (tl : Int)]
        replace k1 := k1.alloc (.cells #[.int .u64 (th : Int), .int .u64 (tl : Int)] 24)
        replace j1 := j1.alloc (.cells #[.int .u64 (th : Int), .int .u64 (tl : Int)] 24)
        replace j2 := j2.alloc (.cells #[.int .u64 (th : Int), .int .u64 (tl : Int)] 24)
        replace j3 := j3.alloc (.cells #[.int .u64 (th : Int), .int .u64 (tl : Int)] 24)
        replace j5 := j5.alloc (.cells #[.int .u64 (th : Int), .int .u64 (tl : Int)] 24)
        replace B1 := B1.alloc B1.size (.cells #[.int .u64 (th : Int), .int .u64 (tl : Int)] 24)
        clear  p_k1_0 p_k1_1 p_k1_2 p_j1_0 p_j1_1 p_j1_2 p_j2_0 p_j2_1 p_j2_2 p_j3_0 p_j3_1 p_j3_2 p_j5_0 p_j5_1
        generalize w45.alloc (.cells #[.int .u64 (th : Int), .int .u64 (tl : Int)] 24) = W12 at B1 k1 j1 j2 j3 j5 j6 ⊢
        generalize w45.heap.size = g12 at j6 ⊢
        have p_k1_0 : World.cell? W12 ⟨w.heap.size, 0, none⟩ = some (.int .u64 (h : Int)) := k1.cell 0
        have p_k1_1 : World.cell? W12 ⟨w.heap.size, 1, none⟩ = some (.int .u64 (l : Int)) := k1.cell 1
        have p_k1_2 : World.cell? W12 ⟨w.heap.size, 2, none⟩ = some (.int .u64 (x : Int)) := k1.cell 2
        have p_j1_0 : World.cell? W12 ⟨g2, 0, none⟩ = some (.int .u64 (sh : Int)) := j1.cell 0
        have p_j1_1 : World.cell? W12 ⟨g2, 1, none⟩ = some (.int .u64 (sl : Int)) := j1.cell 1
        have p_j1_2 : World.cell? W12 ⟨g2, 2, none⟩ = some (.int .u64 (sx : Int)) := j1.cell 2
        have p_j2_0 : World.cell? W12 ⟨g3, 0, none⟩ = some (.int .u64 (uh : Int)) := j2.cell 0
        have p_j2_1 : World.cell? W12 ⟨g3, 1, none⟩ = some (.int .u64 (ul : Int)) := j2.cell 1
        have p_j2_2 : World.cell? W12 ⟨g3, 2, none⟩ = some (.int .u64 (x : Int)) := j2.cell 2
        have p_j3_0 : World.cell? W12 ⟨g4, 0, none⟩ = some (.int .u64 (th : Int)) := j3.cell 0
        have p_j3_1 : World.cell? W12 ⟨g4, 1, none⟩ = some (.int .u64 (tl : Int)) := j3.cell 1
        have p_j3_2 : World.cell? W12 ⟨g4, 2, none⟩ = some (.int .u64 (tx : Int)) := j3.cell 2
        have p_j5_0 : World.cell? W12 ⟨g11, 0, none⟩ = some (.int .u64 (uh : Int)) := j5.cell 0
        have p_j5_1 : World.cell? W12 ⟨g11, 1, none⟩ = some (.int .u64 (ul : Int)) := j5.cell 1
        have p_j6_0 : World.cell? W12 ⟨g12, 0, none⟩ = some (.int .u64 (th : Int)) := j6.cell 0
        have p_j6_1 : World.cell? W12 ⟨g12, 1, none⟩ = some (.int .u64 (tl : Int)) := j6.cell 1
        go_wp2
        go_ret
        exact ⟨rfl, B1⟩
  · rw [Bool.eq_false_iff.2 rr] at hr
    have HR := Lib.hid hr
    obtain ⟨sh, sl, sx, e1, q1, q2, q3⟩ := fe_gen 150
    obtain ⟨uh, ul, ux, e2, q4, q5, q6⟩ := fe_gen 150
    obtain ⟨th, tl, tx, e3, q7, q8, q9⟩ := fe_gen 150
    rw [show addR N x n = (0, 0, 150) from if_neg rr, e1] at ha
    rw [show lessR N x n = (0, 0, 150) from if_neg rr, e2] at hle
    rw [show overR N x m = (0, 0, 150) from if_neg rr, e3] at ho
    have HA := Lib.hid ha
    have HL := Lib.hid hle
    have HO := Lib.hid ho
    clear ha hle ho hr rr e1 e2 e3 hN hN2 eN hh hl hx hn hm HAdd HLess HOver
    unfold fr at HA HL HO HR HB
    go_enter Try.func4, Try.ntmps4
    go_wp2_with fail
    refine (HK.out _).mono ?_
    rintro e w21 ⟨rfl, h2⟩
    have k1 := HB.out.1.below h2 HB.out.1.lt
    have B1 := HB.out.2.trans (h2.mono HB.out.2.size)
    clear h2 HB
    have p_k1_0 : World.cell? w21 ⟨w.heap.size, 0, none⟩ = some (.int .u64 (h : Int)) := k1.cell 0
    have p_k1_1 : World.cell? w21 ⟨w.heap.size, 1, none⟩ = some (.int .u64 (l : Int)) := k1.cell 1
    have p_k1_2 : World.cell? w21 ⟨w.heap.size, 2, none⟩ = some (.int .u64 (x : Int)) := k1.cell 2
    go_wp2_with fail
    refine (HA.out _).mono ?_
    rintro e w22 ⟨rfl, h2⟩
    replace k1 := k1.below h2 k1.lt
    replace B1 := B1.trans (h2.mono B1.size)
    clear h2 p_k1_0 p_k1_1 p_k1_2
    have p_k1_0 : World.cell? w22 ⟨w.heap.size, 0, none⟩ = some (.int .u64 (h : Int)) := k1.cell 0
    have p_k1_1 : World.cell? w22 ⟨w.heap.size, 1, none⟩ = some (.int .u64 (l : Int)) := k1.cell 1
    have p_k1_2 : World.cell? w22 ⟨w.heap.size, 2, none⟩ = some (.int .u64 (x : Int)) := k1.cell 2
    go_upto_region 4 with fail
    have j1 := Blk.new w22 26 #[.int .u64 (sh : Int), .int .u64 (sl : Int), .int .u64 (sx : Int)]
    replace k1 := k1.alloc (.cells #[.int .u64 (sh : Int), .int .u64 (sl : Int), .int .u64 (sx : Int)] 26)
    replace B1 := B1.alloc B1.size (.cells #[.int .u64 (sh : Int), .int .u64 (sl : Int), .int .u64 (sx : Int)] 26)
    clear  p_k1_0 p_k1_1 p_k1_2
    generalize w22.alloc (.cells #[.int .u64 (sh : Int), .int .u64 (sl : Int), .int .u64 (sx : Int)] 26) = W2 at B1 k1 j1 ⊢
    generalize w22.heap.size = g2 at j1 ⊢
    have p_k1_0 : World.cell? W2 ⟨w.heap.size, 0, none⟩ = some (.int .u64 (h : Int)) := k1.cell 0
    have p_k1_1 : World.cell? W2 ⟨w.heap.size, 1, none⟩ = some (.int .u64 (l : Int)) := k1.cell 1
    have p_k1_2 : World.cell? W2 ⟨w.heap.size, 2, none⟩ = some (.int .u64 (x : Int)) := k1.cell 2
    have p_j1_0 : World.cell? W2 ⟨g2, 0, none⟩ = some (.int .u64 (sh : Int)) := j1.cell 0
    have p_j1_1 : World.cell? W2 ⟨g2, 1, none⟩ = some (.int .u64 (sl : Int)) := j1.cell 1
    have p_j1_2 : World.cell? W2 ⟨g2, 2, none⟩ = some (.int .u64 (sx : Int)) := j1.cell 2
    go_wp2_with fail
    refine (HL.out _).mono ?_
    rintro e w23 ⟨rfl, h2⟩
    replace k1 := k1.below h2 k1.lt
    replace j1 := j1.below h2 j1.lt
    replace B1 := B1.trans (h2.mono B1.size)
    clear h2 p_k1_0 p_k1_1 p_k1_2 p_j1_0 p_j1_1 p_j1_2
    have p_k1_0 : World.cell? w23 ⟨w.heap.size, 0, none⟩ = some (.int .u64 (h : Int)) := k1.cell 0
    have p_k1_1 : World.cell? w23 ⟨w.heap.size, 1, none⟩ = some (.int .u64 (l : Int)) := k1.cell 1
    have p_k1_2 : World.cell? w23 ⟨w.heap.size, 2, none⟩ = some (.int .u64 (x : Int)) := k1.cell 2
    have p_j1_0 : World.cell? w23 ⟨g2, 0, none⟩ = some (.int .u64 (sh : Int)) := j1.cell 0
    have p_j1_1 : World.cell? w23 ⟨g2, 1, none⟩ = some (.int .u64 (sl : Int)) := j1.cell 1
    have p_j1_2 : World.cell? w23 ⟨g2, 2, none⟩ = some (.int .u64 (sx : Int)) := j1.cell 2
    go_upto_region 5 with fail
    have j2 := Blk.new w23 26 #[.int .u64 (uh : Int), .int .u64 (ul : Int), .int .u64 (ux : Int)]
    replace k1 := k1.alloc (.cells #[.int .u64 (uh : Int), .int .u64 (ul : Int), .int .u64 (ux : Int)] 26)
    replace j1 := j1.alloc (.cells #[.int .u64 (uh : Int), .int .u64 (ul : Int), .int .u64 (ux : Int)] 26)
    replace B1 := B1.alloc B1.size (.cells #[.int .u64 (uh : Int), .int .u64 (ul : Int), .int .u64 (ux : Int)] 26)
    clear  p_k1_0 p_k1_1 p_k1_2 p_j1_0 p_j1_1 p_j1_2
    generalize w23.alloc (.cells #[.int .u64 (uh : Int), .int .u64 (ul : Int), .int .u64 (ux : Int)] 26) = W3 at B1 k1 j1 j2 ⊢
    generalize w23.heap.size = g3 at j2 ⊢
    have p_k1_0 : World.cell? W3 ⟨w.heap.size, 0, none⟩ = some (.int .u64 (h : Int)) := k1.cell 0
    have p_k1_1 : World.cell? W3 ⟨w.heap.size, 1, none⟩ = some (.int .u64 (l : Int)) := k1.cell 1
    have p_k1_2 : World.cell? W3 ⟨w.heap.size, 2, none⟩ = some (.int .u64 (x : Int)) := k1.cell 2
    have p_j1_0 : World.cell? W3 ⟨g2, 0, none⟩ = some (.int .u64 (sh : Int)) := j1.cell 0
    have p_j1_1 : World.cell? W3 ⟨g2, 1, none⟩ = some (.int .u64 (sl : Int)) := j1.cell 1
    have p_j1_2 : World.cell? W3 ⟨g2, 2, none⟩ = some (.int .u64 (sx : Int)) := j1.cell 2
    have p_j2_0 : World.cell? W3 ⟨g3, 0, none⟩ = some (.int .u64 (uh : Int)) := j2.cell 0
    have p_j2_1 : World.cell? W3 ⟨g3, 1, none⟩ = some (.int .u64 (ul : Int)) := j2.cell 1
    have p_j2_2 : World.cell? W3 ⟨g3, 2, none⟩ = some (.int .u64 (ux : Int)) := j2.cell 2
    go_wp2_with fail
    refine (HO.out _).mono ?_
    rintro e w24 ⟨rfl, h2⟩
    replace k1 := k1.below h2 k1.lt
    replace j1 := j1.below h2 j1.lt
    replace j2 := j2.below h2 j2.lt
    replace B1 := B1.trans (h2.mono B1.size)
    clear h2 p_k1_0 p_k1_1 p_k1_2 p_j1_0 p_j1_1 p_j1_2 p_j2_0 p_j2_1 p_j2_2
    have p_k1_0 : World.cell? w24 ⟨w.heap.size, 0, none⟩ = some (.int .u64 (h : Int)) := k1.cell 0
    have p_k1_1 : World.cell? w24 ⟨w.heap.size, 1, none⟩ = some (.int .u64 (l : Int)) := k1.cell 1
    have p_k1_2 : World.cell? w24 ⟨w.heap.size, 2, none⟩ = some (.int .u64 (x : Int)) := k1.cell 2
    have p_j1_0 : World.cell? w24 ⟨g2, 0, none⟩ = some (.int .u64 (sh : Int)) := j1.cell 0
    have p_j1_1 : World.cell? w24 ⟨g2, 1, none⟩ = some (.int .u64 (sl : Int)) := j1.cell 1
    have p_j1_2 : World.cell? w24 ⟨g2, 2, none⟩ = some (.int .u64 (sx : Int)) := j1.cell 2
    have p_j2_0 : World.cell? w24 ⟨g3, 0, none⟩ = some (.int .u64 (uh : Int)) := j2.cell 0
    have p_j2_1 : World.cell? w24 ⟨g3, 1, none⟩ = some (.int .u64 (ul : Int)) := j2.cell 1
    have p_j2_2 : World.cell? w24 ⟨g3, 2, none⟩ = some (.int .u64 (ux : Int)) := j2.cell 2
    go_upto_region 6 with fail
    have j3 := Blk.new w24 26 #[.int .u64 (th : Int), .int .u64 (tl : Int), .int .u64 (tx : Int)]
    replace k1 := k1.alloc (.cells #[.int .u64 (th : Int), .int .u64 (tl : Int), .int .u64 (tx : Int)] 26)
    replace j1 := j1.alloc (.cells #[.int .u64 (th : Int), .int .u64 (tl : Int), .int .u64 (tx : Int)] 26)
    replace j2 := j2.alloc (.cells #[.int .u64 (th : Int), .int .u64 (tl : Int), .int .u64 (tx : Int)] 26)
    replace B1 := B1.alloc B1.size (.cells #[.int .u64 (th : Int), .int .u64 (tl : Int), .int .u64 (tx : Int)] 26)
    clear  p_k1_0 p_k1_1 p_k1_2 p_j1_0 p_j1_1 p_j1_2 p_j2_0 p_j2_1 p_j2_2
    generalize w24.alloc (.cells #[.int .u64 (th : Int), .int .u64 (tl : Int), .int .u64 (tx : Int)] 26) = W4 at B1 k1 j1 j2 j3 ⊢
    generalize w24.heap.size = g4 at j3 ⊢
    have p_k1_0 : World.cell? W4 ⟨w.heap.size, 0, none⟩ = some (.int .u64 (h : Int)) := k1.cell 0
    have p_k1_1 : World.cell? W4 ⟨w.heap.size, 1, none⟩ = some (.int .u64 (l : Int)) := k1.cell 1
    have p_k1_2 : World.cell? W4 ⟨w.heap.size, 2, none⟩ = some (.int .u64 (x : Int)) := k1.cell 2
    have p_j1_0 : World.cell? W4 ⟨g2, 0, none⟩ = some (.int .u64 (sh : Int)) := j1.cell 0
    have p_j1_1 : World.cell? W4 ⟨g2, 1, none⟩ = some (.int .u64 (sl : Int)) := j1.cell 1
    have p_j1_2 : World.cell? W4 ⟨g2, 2, none⟩ = some (.int .u64 (sx : Int)) := j1.cell 2
    have p_j2_0 : World.cell? W4 ⟨g3, 0, none⟩ = some (.int .u64 (uh : Int)) := j2.cell 0
    have p_j2_1 : World.cell? W4 ⟨g3, 1, none⟩ = some (.int .u64 (ul : Int)) := j2.cell 1
    have p_j2_2 : World.cell? W4 ⟨g3, 2, none⟩ = some (.int .u64 (ux : Int)) := j2.cell 2
    have p_j3_0 : World.cell? W4 ⟨g4, 0, none⟩ = some (.int .u64 (th : Int)) := j3.cell 0
    have p_j3_1 : World.cell? W4 ⟨g4, 1, none⟩ = some (.int .u64 (tl : Int)) := j3.cell 1
    have p_j3_2 : World.cell? W4 ⟨g4, 2, none⟩ = some (.int .u64 (tx : Int)) := j3.cell 2
    go_wp2_with fail
    refine (HR.out _).mono ?_
    rintro e w25 ⟨rfl, h2⟩
    replace k1 := k1.below h2 k1.lt
    replace j1 := j1.below h2 j1.lt
    replace j2 := j2.below h2 j2.lt
    replace j3 := j3.below h2 j3.lt
    replace B1 := B1.trans (h2.mono B1.size)
    clear h2 p_k1_0 p_k1_1 p_k1_2 p_j1_0 p_j1_1 p_j1_2 p_j2_0 p_j2_1 p_j2_2 p_j3_0 p_j3_1 p_j3_2
    have p_k1_0 : World.cell? w25 ⟨w.heap.size, 0, none⟩ = some (.int .u64 (h : Int)) := k1.cell 0
    have p_k1_1 : World.cell? w25 ⟨w.heap.size, 1, none⟩ = some (.int .u64 (l : Int)) := k1.cell 1
    have p_k1_2 : World.cell? w25 ⟨w.heap.size, 2, none⟩ = some (.int .u64 (x : Int)) := k1.cell 2
    have p_j1_0 : World.cell? w25 ⟨g2, 0, none⟩ = some (.int .u64 (sh : Int)) := j1.cell 0
    have p_j1_1 : World.cell? w25 ⟨g2, 1, none⟩ = some (.int .u64 (sl : Int)) := j1.cell 1
    have p_j1_2 : World.cell? w25 ⟨g2, 2, none⟩ = some (.int .u64 (sx : Int)) := j1.cell 2
    have p_j2_0 : World.cell? w25 ⟨g3, 0, none⟩ = some (.int .u64 (uh : Int)) := j2.cell 0
    have p_j2_1 : World.cell? w25 ⟨g3, 1, none⟩ = some (.int .u64 (ul : Int)) := j2.cell 1
    have p_j2_2 : World.cell? w25 ⟨g3, 2, none⟩ = some (.int .u64 (ux : Int)) := j2.cell 2
    have p_j3_0 : World.cell? w25 ⟨g4, 0, none⟩ = some (.int .u64 (th : Int)) := j3.cell 0
    have p_j3_1 : World.cell? w25 ⟨g4, 1, none⟩ = some (.int .u64 (tl : Int)) := j3.cell 1
    have p_j3_2 : World.cell? w25 ⟨g4, 2, none⟩ = some (.int .u64 (tx : Int)) := j3.cell 2
    go_wp2
    go_ret
    exact ⟨rfl, B1⟩

end Go.Proofs.Ytodhkdaipmeblaa
