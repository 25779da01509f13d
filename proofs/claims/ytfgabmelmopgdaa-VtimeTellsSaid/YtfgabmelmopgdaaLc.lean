/-
  The landed frac: Check, Of, Compare, Over, Whole. No statement is proved here.
-/
import Derived.Test.YtfgabmelmopgdaaLb
namespace Go.Proofs.Ytfgabmelmopgdaa
open Go.RowKit

set_option maxRecDepth 100000 in
theorem put3 {w w1 : World} {g b : Nat} {t : TypeId} {p q r x y z : Value} (K : Blk w1 g t #[p, q, r]) (B : Below b w w1) (hg : b ≤ g) :
    Blk (((w1.setCell ⟨g, 0, none⟩ x).setCell ⟨g, 1, none⟩ y).setCell ⟨g, 2, none⟩ z) g t #[x, y, z] ∧ Below b w (((w1.setCell ⟨g, 0, none⟩ x).setCell ⟨g, 1, none⟩ y).setCell ⟨g, 2, none⟩ z) := by
  refine ⟨?_, ((B.setCell (p := ⟨g, 0, none⟩) hg x).setCell (p := ⟨g, 1, none⟩) hg y).setCell (p := ⟨g, 2, none⟩) hg z⟩
  have := ((K.set_ 0 x).set_ 1 y).set_ 2 z
  simpa using this
set_option maxRecDepth 100000 in
theorem frow1 {u : World} {g : Nat} {t : TypeId} {a b x : Nat} (h : Blk u g t #[.int .u64 (a : Int), .int .u64 (b : Int), .int .u64 (x : Int)]) : Frow u u.heap.size (some ⟨g, 0, none⟩) [(a, b, x)] := fun k p q r hk => by
  have hk0 : k = 0 := by
    have := (List.getElem?_eq_some_iff.1 hk).1
    simp at this
    exact this
  subst hk0
  simp only [List.getElem?_cons_zero, Option.some.injEq, Prod.mk.injEq] at hk
  obtain ⟨rfl, rfl, rfl⟩ := hk
  exact ⟨_, rfl, h.lt, h.cell 0, h.cell 1, h.cell 2⟩
set_option maxRecDepth 100000 in
theorem frow2 {u : World} {g : Nat} {t : TypeId} {a b x a' b' x' : Nat} (h : Blk u g t #[.int .u64 (a : Int), .int .u64 (b : Int), .int .u64 (x : Int), .int .u64 (a' : Int), .int .u64 (b' : Int), .int .u64 (x' : Int)]) :
    Frow u u.heap.size (some ⟨g, 0, none⟩) [(a, b, x), (a', b', x')] := fun k p q r hk => by
  have hk0 : k = 0 ∨ k = 1 := by
    have := (List.getElem?_eq_some_iff.1 hk).1
    simp at this
    omega
  rcases hk0 with rfl | rfl
  · simp only [List.getElem?_cons_zero, Option.some.injEq, Prod.mk.injEq] at hk
    obtain ⟨rfl, rfl, rfl⟩ := hk
    exact ⟨_, rfl, h.lt, h.cell 0, h.cell 1, h.cell 2⟩
  · simp only [List.getElem?_cons_succ, List.getElem?_cons_zero, Option.some.injEq, Prod.mk.injEq] at hk
    obtain ⟨rfl, rfl, rfl⟩ := hk
    exact ⟨_, rfl, h.lt, h.cell 3, h.cell 4, h.cell 5⟩
/-- may one be, may two be -/
def chk (h x : Nat) : Int := if rightB h x = true then 0 else 150
def chk2 (h x h' x' : Nat) : Int := if (rightB h x && rightB h' x') = true then 0 else 150
set_option maxRecDepth 100000 in
theorem check1 (h l x : Nat) (u : World) (g : Nat) (t : TypeId) (hb : Blk u g t #[.int .u64 (h : Int), .int .u64 (l : Int), .int .u64 (x : Int)]) :
    Calls Try.prog 49 #[.slice (some ⟨g, 0, none⟩) 1 1] u (Said (.int .i64 (chk h x)) u) := by
  have := checkall_any (some ⟨g, 0, none⟩) 1 1 [(h, l, x)] u rfl (by unfold maxLen; omega) (frow1 hb)
  rw [show allE [(h, l, x)] = chk h x by unfold allE allB chk; simp] at this
  exact this
set_option maxRecDepth 100000 in
theorem check2 (h l x h' l' x' : Nat) (u : World) (g : Nat) (t : TypeId) (hb : Blk u g t #[.int .u64 (h : Int), .int .u64 (l : Int), .int .u64 (x : Int), .int .u64 (h' : Int), .int .u64 (l' : Int), .int .u64 (x' : Int)]) :
    Calls Try.prog 49 #[.slice (some ⟨g, 0, none⟩) 2 2] u (Said (.int .i64 (chk2 h x h' x')) u) := by
  have := checkall_any (some ⟨g, 0, none⟩) 2 2 [(h, l, x), (h', l', x')] u rfl (by unfold maxLen; omega) (frow2 hb)
  rw [show allE [(h, l, x), (h', l', x')] = chk2 h x h' x' by unfold allE allB chk2; simp] at this
  exact this
set_option maxRecDepth 100000 in
theorem right_parts {h x : Nat} (hr : rightB h x = true) : 1 ≤ x ∧ x ≤ 65535 ∧ h < 68719476736 := by
  unfold rightB at hr
  simp only [Bool.and_eq_true, decide_eq_true_eq] at hr
  exact ⟨(weightB_true hr.1).1, (weightB_true hr.1).2, hr.2⟩
set_option maxRecDepth 100000 in
/-- a number that is bounded, and what is said of it -/
theorem bnd (S m zh zl : Nat) (e : S = zh * 18446744073709551616 + zl) (h : zl < 18446744073709551616) : ∃ sh sl sx : Nat, ∃ c : Int, fe (if S < 2 ^ 100 then (S, m, 0) else (0, 0, 131)) = .tuple #[.agg (fr sh sl sx), .int .i64 c] ∧
    ∀ w, Calls Try.prog 64 #[.agg #[.int .u64 (zh : Int), .int .u64 (zl : Int)], .int .u64 (m : Int)] w (Said (.tuple #[.agg (fr sh sl sx), .int .i64 c]) w) := by
  by_cases hz : zh < 68719476736
  · refine ⟨zh, zl, m, 0, ?_, fun w => ?_⟩
    · rw [if_pos (by omega), e]
      exact fe_some h m 0
    · have := bounded_any zh zl m w
      rwa [if_pos hz] at this
  · refine ⟨0, 0, 0, 131, ?_, fun w => ?_⟩
    · rw [if_neg (by omega)]
      exact fe_none 131
    · have := bounded_any zh zl m w
      rwa [if_neg hz] at this

set_option maxRecDepth 100000 in
set_option maxHeartbeats 2000000 in
theorem check_ok : CheckOk := by
  intro N x w hN hx
  obtain ⟨h, l, e, hh, hl⟩ := halves N hN
  rw [show fq N x = fr h l x by rw [e]; exact fq_of hl x, show rightN N x = rightB h x by rw [e]; exact rightN_of hl]
  obtain ⟨b1, b2, bb⟩ := blks2 w 36 36 (fr h l x) (fr h l x)
  have HC := Lib.hid (check1 h l x _ _ _ b2)
  have HB := Lib.hid bb
  change Calls _ _ _ _ (Said (.int .i64 (chk h x)) w)
  generalize chk h x = p at *
  clear e hh hl hx hN b1 b2 bb
  unfold fr at *
  go_enter Try.func43, Try.ntmps43
  go_wp2_with fail
  refine HC.out.mono ?_
  rintro e w1 ⟨rfl, h1⟩
  go_wp2
  go_ret
  exact ⟨rfl, HB.out.trans (h1.mono HB.out.size)⟩

set_option maxRecDepth 100000 in
set_option maxHeartbeats 2000000 in
theorem of_ok : OfOk := by
  intro n m w hn hm
  unfold ofR
  have HW := Lib.hid (fun u => weight_any m u)
  obtain ⟨K, B⟩ : Blk (w.alloc (.cells #[.int .u64 0, .int .u64 0, .int .u64 0] 36)) w.heap.size 36 #[.int .u64 0, .int .u64 0, .int .u64 0] ∧ Below w.heap.size w (w.alloc (.cells #[.int .u64 0, .int .u64 0, .int .u64 0] 36)) := ⟨Blk.new _ _ _, (Below.refl _ _).alloc (Nat.le_refl _) _⟩
  have d0 := K.cell 0
  have d1 := K.cell 1
  have d2 := K.cell 2
  have f0 := K.frozen 0
  have f1 := K.frozen 1
  have f2 := K.frozen 2
  by_cases hw : weightB m = true
  · rw [if_pos hw]
    rw [hw] at HW
    have HO := Lib.hid (fun u => of_wide n u)
    have eV : fe (n, m, 0) = .tuple #[.agg #[.int .u64 0, .int .u64 (n : Int), .int .u64 (m : Int)], .int .i64 0] := by
      have := fe_some (h := 0) hn m 0
      rwa [Nat.zero_mul, Nat.zero_add] at this
    rw [eV]
    have HK := Lib.hid (And.intro K B)
    clear hw hn hm eV K B
    go_enter Try.func84, Try.ntmps84
    go_wp2_with fail
    refine (HW.out _).mono ?_
    rintro e w' ⟨rfl, rfl⟩
    go_wp2_with fail
    refine (HO.out _).mono ?_
    rintro e w1 ⟨rfl, h1⟩
    have K := HK.out.1.below h1 HK.out.1.lt
    have B := HK.out.2.trans (h1.mono HK.out.2.size)
    clear HK h1 d0 d1 d2 f0 f1 f2
    have d0 := K.cell 0
    have d1 := K.cell 1
    have d2 := K.cell 2
    have f0 := K.frozen 0
    have f1 := K.frozen 1
    have f2 := K.frozen 2
    have HKF := Lib.hid (put3 (x := .int .u64 0) (y := .int .u64 (n : Int)) (z := .int .u64 (m : Int)) K B (Nat.le_refl _))
    clear K B
    go_wp2_with fail
    exact bodyPost_ret (v := .tuple #[.agg #[.int .u64 0, .int .u64 (n : Int), .int .u64 (m : Int)], .int .i64 0]) (results_cell_row_tmp Try.results84 _ _ _ _ _ _ rfl HKF.out.1 Try.underlying36 rfl (by kernel_rfl)) rfl ⟨rfl, HKF.out.2⟩
  · rw [if_neg hw, fe_none]
    rw [show weightB m = false by simpa using hw] at HW
    have HKF := Lib.hid (And.intro K B)
    clear hw hn hm K B
    go_enter Try.func84, Try.ntmps84
    go_wp2_with fail
    refine (HW.out _).mono ?_
    rintro e w' ⟨rfl, rfl⟩
    go_wp2_with fail
    exact bodyPost_ret (v := .tuple #[.agg #[.int .u64 0, .int .u64 0, .int .u64 0], .int .i64 2]) (results_cell_row_tmp Try.results84 _ _ _ _ _ _ rfl HKF.out.1 Try.underlying36 rfl (by kernel_rfl)) rfl ⟨rfl, HKF.out.2⟩

set_option maxRecDepth 100000 in
set_option maxHeartbeats 4000000 in
theorem compare_ok : CompareOk := by
  intro N x M y w hN hx hM hy
  obtain ⟨h, l, e, hh, hl⟩ := halves N hN
  obtain ⟨g, j, e', hg, hj⟩ := halves M hM
  unfold cmpR
  rw [show fq N x = fr h l x by rw [e]; exact fq_of hl x, show rightN N x = rightB h x by rw [e]; exact rightN_of hl, show fq M y = fr g j y by rw [e']; exact fq_of hj y, show rightN M y = rightB g y by rw [e']; exact rightN_of hj]
  obtain ⟨b1, b2, b3, bb⟩ := blks3 w 36 36 36 (fr h l x) (fr g j y) #[.int .u64 (h : Int), .int .u64 (l : Int), .int .u64 (x : Int), .int .u64 (g : Int), .int .u64 (j : Int), .int .u64 (y : Int)]
  have HC := Lib.hid (check2 h l x g j y _ _ _ b3)
  have HB := Lib.hid (And.intro b1 (And.intro b2 bb))
  by_cases hr : (rightB h x && rightB g y) = true
  · rw [if_pos hr]
    rw [show chk2 h x g y = 0 from if_pos hr] at HC
    obtain ⟨r1, r2⟩ := Bool.and_eq_true_iff.1 hr
    have q1 := right_parts r1
    have q2 := right_parts r2
    have HV := Lib.hid (fun u => vcompare_any h l x g j y u hh hl q1.2.1 hg hj q2.2.1 (by omega) (by omega))
    rw [← e, ← e'] at HV
    generalize cmpW (N * y) (M * x) = r at *
    clear e e' hh hl hg hj hx hy hN hM hr r1 r2 q1 q2 b1 b2 b3 bb
    unfold fr at *
    go_enter Try.func23, Try.ntmps23
    go_wp2_with fail
    refine HC.out.mono ?_
    rintro e w1 ⟨rfl, h1⟩
    have K1 := HB.out.1.below h1 HB.out.1.lt
    have K2 := HB.out.2.1.below h1 HB.out.2.1.lt
    have B := HB.out.2.2.trans (h1.mono HB.out.2.2.size)
    clear HB h1
    have c0 := K1.cell 0
    have c1 := K1.cell 1
    have c2 := K1.cell 2
    have d0 := K2.cell 0
    have d1 := K2.cell 1
    have d2 := K2.cell 2
    clear K1 K2
    go_wp2_with fail
    refine (HV.out _).mono ?_
    rintro e w2 ⟨rfl, h2⟩
    replace B := B.trans (h2.mono B.size)
    clear h2 c0 c1 c2 d0 d1 d2
    go_wp2
    go_ret
    exact ⟨rfl, B⟩
  · rw [if_neg hr]
    rw [show chk2 h x g y = 150 from if_neg hr] at HC
    clear e e' hh hl hg hj hx hy hN hM hr b1 b2 b3 bb
    unfold fr at *
    go_enter Try.func23, Try.ntmps23
    go_wp2_with fail
    refine HC.out.mono ?_
    rintro e w1 ⟨rfl, h1⟩
    have B := HB.out.2.2.trans (h1.mono HB.out.2.2.size)
    clear HB h1
    go_wp2
    go_ret
    exact ⟨rfl, B⟩

set_option maxRecDepth 100000 in
set_option maxHeartbeats 4000000 in
theorem over_ok : OverOk := by
  intro N x m w hN hx hm
  obtain ⟨h, l, e, hh, hl⟩ := halves N hN
  unfold overR
  rw [show fq N x = fr h l x by rw [e]; exact fq_of hl x, show rightN N x = rightB h x by rw [e]; exact rightN_of hl]
  obtain ⟨b1, b2, b3, bb⟩ := blks3 w 36 36 36 (fr h l x) #[.int .u64 0, .int .u64 0, .int .u64 0] (fr h l x)
  have HC := Lib.hid (check1 h l x _ _ _ b3)
  have HB := Lib.hid (And.intro b1 (And.intro b2 bb))
  by_cases hr : rightB h x = true
  · rw [if_pos hr]
    rw [show chk h x = 0 from if_pos hr] at HC
    have q1 := right_parts hr
    have HW := Lib.hid (fun u => weight_any m u)
    by_cases hw : weightB m = true
    · rw [if_pos hw]
      rw [hw] at HW
      have q2 := weightB_true hw
      obtain ⟨zh, zl, e1, e2, e3⟩ := words (overW N m x) (by
        have hp := prod_small (a := N) (m := m) (by omega) q2.2
        have : N * m / x ≤ N * m := Nat.div_le_self _ _
        unfold overW
        split <;> omega)
      have HL := Lib.hid (fun u => lifted_any h l x m zh zl u hh hl q1.1 q1.2.1 q2.2 (by rw [← e]; exact e1) e2 e3)
      obtain ⟨sh, sl, sx, c, ev, hbd⟩ := bnd (overW N m x) m zh zl e1 e3
      rw [ev]
      have HD := Lib.hid hbd
      clear e hh hl hx hm hN hr hw q1 q2 e1 e2 e3 ev hbd b1 b2 b3 bb
      unfold fr at *
      go_enter Try.func85, Try.ntmps85
      go_wp2_with fail
      refine HC.out.mono ?_
      rintro e w1 ⟨rfl, h1⟩
      have K1 := HB.out.1.below h1 HB.out.1.lt
      have K := HB.out.2.1.below h1 HB.out.2.1.lt
      have B := HB.out.2.2.trans (h1.mono HB.out.2.2.size)
      clear HB h1
      have c0 := K1.cell 0
      have c1 := K1.cell 1
      have c2 := K1.cell 2
      clear K1
      go_wp2_with fail
      refine (HW.out _).mono ?_
      rintro e w' ⟨rfl, rfl⟩
      go_wp2_with fail
      refine (HL.out _).mono ?_
      rintro e w2 ⟨rfl, h2⟩
      replace K := K.below h2 K.lt
      replace B := B.trans (h2.mono B.size)
      clear h2 c0 c1 c2
      go_wp2_with fail
      refine (HD.out _).mono ?_
      rintro e w3 ⟨rfl, h3⟩
      replace K := K.below h3 K.lt
      replace B := B.trans (h3.mono B.size)
      clear h3
      have d0 := K.cell 0
      have d1 := K.cell 1
      have d2 := K.cell 2
      have f0 := K.frozen 0
      have f1 := K.frozen 1
      have f2 := K.frozen 2
      have HKF := Lib.hid (put3 (x := .int .u64 (sh : Int)) (y := .int .u64 (sl : Int)) (z := .int .u64 (sx : Int)) K B (by omega))
      clear K B
      go_wp2_with fail
      exact bodyPost_ret (v := .tuple #[.agg #[.int .u64 (sh : Int), .int .u64 (sl : Int), .int .u64 (sx : Int)], .int .i64 c]) (results_cell_row_tmp Try.results85 _ _ _ _ _ _ rfl HKF.out.1 Try.underlying36 rfl (by kernel_rfl)) rfl ⟨rfl, HKF.out.2⟩
    · rw [if_neg hw, fe_none]
      rw [show weightB m = false by simpa using hw] at HW
      clear e hh hl hx hm hN hr hw q1 b1 b2 b3 bb
      unfold fr at HC HB ⊢
      go_enter Try.func85, Try.ntmps85
      go_wp2_with fail
      refine HC.out.mono ?_
      rintro e w1 ⟨rfl, h1⟩
      have K := HB.out.2.1.below h1 HB.out.2.1.lt
      have B := HB.out.2.2.trans (h1.mono HB.out.2.2.size)
      clear HB h1
      go_wp2_with fail
      refine (HW.out _).mono ?_
      rintro e w' ⟨rfl, rfl⟩
      have d0 := K.cell 0
      have d1 := K.cell 1
      have d2 := K.cell 2
      have f0 := K.frozen 0
      have f1 := K.frozen 1
      have f2 := K.frozen 2
      have HKF := Lib.hid (put3 (x := .int .u64 0) (y := .int .u64 0) (z := .int .u64 0) K B (by omega))
      clear K B
      go_wp2_with fail
      exact bodyPost_ret (v := .tuple #[.agg #[.int .u64 0, .int .u64 0, .int .u64 0], .int .i64 2]) (results_cell_row_tmp Try.results85 _ _ _ _ _ _ rfl HKF.out.1 Try.underlying36 rfl (by kernel_rfl)) rfl ⟨rfl, HKF.out.2⟩
  · rw [if_neg hr, fe_none]
    rw [show chk h x = 150 from if_neg hr] at HC
    clear e hh hl hx hm hN hr b1 b2 b3 bb
    unfold fr at HC HB ⊢
    go_enter Try.func85, Try.ntmps85
    go_wp2_with fail
    refine HC.out.mono ?_
    rintro e w1 ⟨rfl, h1⟩
    have K := HB.out.2.1.below h1 HB.out.2.1.lt
    have B := HB.out.2.2.trans (h1.mono HB.out.2.2.size)
    clear HB h1
    have d0 := K.cell 0
    have d1 := K.cell 1
    have d2 := K.cell 2
    have f0 := K.frozen 0
    have f1 := K.frozen 1
    have f2 := K.frozen 2
    have HKF := Lib.hid (put3 (x := .int .u64 0) (y := .int .u64 0) (z := .int .u64 0) K B (by omega))
    clear K B
    go_wp2_with fail
    exact bodyPost_ret (v := .tuple #[.agg #[.int .u64 0, .int .u64 0, .int .u64 0], .int .i64 150]) (results_cell_row_tmp Try.results85 _ _ _ _ _ _ rfl HKF.out.1 Try.underlying36 rfl (by kernel_rfl)) rfl ⟨rfl, HKF.out.2⟩

end Go.Proofs.Ytfgabmelmopgdaa
