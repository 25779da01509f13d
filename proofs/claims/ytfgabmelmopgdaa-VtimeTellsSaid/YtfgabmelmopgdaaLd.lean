/-
  The landed frac: more, Add, Less. No statement is proved here.
-/
import Derived.Test.YtfgabmelmopgdaaLc
import Derived.Deep.RegionHeld3
import Derived.Deep.CutBlock
namespace Go.Proofs.Ytfgabmelmopgdaa
open Go.RowKit

set_option maxRecDepth 100000 in
set_option maxHeartbeats 4000000 in
theorem vmore_any (h l x n rh rl : Nat) (w : World) (hl : l < 2 ^ 64) (hx : x ≤ 65535) (hn : n < 2 ^ 64) (e1 : h * 2 ^ 64 + l + n * x = rh * 18446744073709551616 + rl) (e2 : rh < 18446744073709551616) (e3 : rl < 18446744073709551616) :
    Calls Try.prog 57 #[.agg (fr h l x), .int .u64 (n : Int)] w (Said (.agg (fr rh rl x)) w) := by
  obtain ⟨mh, ml, f1, f2, f3⟩ := words (n * x) (Nat.lt_of_le_of_lt (Nat.mul_le_mul (Nat.le_of_lt hn) hx) (by decide))
  have HM := Lib.hid (fun u => mul_any n x mh ml hn (by omega) f3 f1 u)
  have HA := Lib.hid (fun u => add_fits h l mh ml rh rl hl f3 e3 e2 (by rw [← f1]; exact e1) u)
  obtain ⟨b1, b2, bb⟩ := blks2 w 88 88 (fr h l x) #[.int .u64 0, .int .u64 0, .int .u64 0]
  have HB := Lib.hid (And.intro b1 (And.intro b2 bb))
  clear hl hx hn e1 e2 e3 f1 f2 f3 b1 b2 bb
  unfold fr at *
  go_enter Try.func57, Try.ntmps57
  go_upto_region 1 with fail
  have FA := HB.out.1
  have FO := HB.out.2.1
  have GB := HB.out.2.2
  clear HB
  generalize (w.alloc (.cells #[.int .u64 (h : Int), .int .u64 (l : Int), .int .u64 (x : Int)] 88)).alloc (.cells #[.int .u64 0, .int .u64 0, .int .u64 0] 88) = V0 at FA FO GB ⊢
  replace FA : Blk V0.drew _ _ _ := FA
  replace FO : Blk V0.drew _ _ _ := FO
  replace GB := GB.drew
  refine wp_region_held_drew (S := fun W => W.cell? ⟨w.heap.size, 2, none⟩ = some (.int .u64 (x : Int))) (by kernel_rfl) (FA.cell 2) (fun hS => ?_)
  generalize V0.drew = V at FA FO GB hS ⊢
  refine wpAnyH_take (i := 0) (v := .pointer (some ⟨w.heap.size, 0, none⟩)) rfl (by kernel_rfl) (by kernel_rfl) (by kernel_rfl) (fun _ _ _ h => h) (Or.inl ⟨by rfl, fun u hSw => (by go_simp)⟩) hS ?_
  refine wpAnyH_take (i := 2) (v := .int .u64 (n : Int)) rfl (by kernel_rfl) (by kernel_rfl) (by kernel_rfl) (fun _ _ _ h => h) (Or.inl ⟨by rfl, fun u hSw => (by go_simp)⟩) hS ?_
  refine wpAnyH_take (i := 3) (v := .pointer (some ⟨w.heap.size, 2, none⟩)) rfl (by kernel_rfl) (by kernel_rfl) (by kernel_rfl) (fun _ _ _ h => h) (Or.inl ⟨by rfl, fun u hSw => (by go_simp)⟩) hS ?_
  refine wpAnyH_take (i := 4) (v := .int .u64 (x : Int)) rfl (by kernel_rfl) (by kernel_rfl) (by kernel_rfl) (fun _ _ _ h => h) (Or.inl ⟨by rfl, fun u hSw => (by have c := hSw; go_simp)⟩) hS ?_
  refine wpAnyH_ready (rs := [1, 5]) (by kernel_rfl) (by simp) ?_
  refine AllReadyH.cons rfl (fun K hK => ?_) (AllReadyH.cons rfl (fun K hK => ?_) (AllReadyH.nil))
  · skip
    have c0 := FA.cell 0
    have c1 := FA.cell 1
    go_simp
    refine hK.out _ _ (FA.cell 2) (fun hS => ?_)
    clear hK K c0 c1
    refine wpAnyH_ready (rs := [5]) (by kernel_rfl) (by simp) ?_
    refine AllReadyH.cons rfl (fun K hK => ?_) (AllReadyH.nil)
    go_simp
    refine (HM.out _).mono ?_
    rintro e w2 ⟨rfl, h2⟩
    replace FA := FA.below h2 FA.lt
    replace FO := FO.below h2 FO.lt
    replace GB := GB.trans (h2.mono GB.size)
    clear h2
    refine hK.out _ _ (FA.cell 2) (fun hS => ?_)
    clear hK K
    refine wpAnyH_ready (rs := [6]) (by kernel_rfl) (by simp) ?_
    refine AllReadyH.cons rfl (fun K hK => ?_) (AllReadyH.nil)
    go_simp
    refine (HA.out _).mono ?_
    rintro e w3 ⟨rfl, h3⟩
    replace FA := FA.below h3 FA.lt
    replace FO := FO.below h3 FO.lt
    replace GB := GB.trans (h3.mono GB.size)
    clear h3
    refine hK.out _ _ (FA.cell 2) (fun hS => ?_)
    clear hK K
    refine wpAnyH_take (i := 7) (v := .tuple #[.agg #[.int .u64 (rh : Int), .int .u64 (rl : Int)], .int .i64 0]) rfl (by kernel_rfl) (by kernel_rfl) (by kernel_rfl) (fun _ _ _ h => h) (Or.inl ⟨by rfl, fun u hSw => (by go_simp)⟩) hS ?_
    refine wpAnyH_take (i := 8) (v := .agg #[.int .u64 (rh : Int), .int .u64 (rl : Int)]) rfl (by kernel_rfl) (by kernel_rfl) (by kernel_rfl) (fun _ _ _ h => h) (Or.inl ⟨by rfl, fun u hSw => (by go_simp)⟩) hS ?_
    refine wpAnyH_take (i := 9) (v := .int .i64 0) rfl (by kernel_rfl) (by kernel_rfl) (by kernel_rfl) (fun _ _ _ h => h) (Or.inl ⟨by rfl, fun u hSw => (by go_simp)⟩) hS ?_
    refine wpAnyH_take (i := 10) (v := .pointer (some ⟨w.heap.size, 0, none⟩)) rfl (by kernel_rfl) (by kernel_rfl) (by kernel_rfl) (fun _ _ _ h => h) (Or.inl ⟨by rfl, fun u hSw => (by go_simp)⟩) hS ?_
    refine wpAnyH_ready (rs := [11]) (by kernel_rfl) (by simp) ?_
    refine AllReadyH.cons rfl (fun K hK => ?_) (AllReadyH.nil)
    have c0 := FA.cell 0
    have c1 := FA.cell 1
    have f0 := FA.frozen 0
    have f1 := FA.frozen 1
    have l1 := FA.lt
    have FA2 := (FA.set_ 0 (.int .u64 (rh : Int))).set_ 1 (.int .u64 (rl : Int))
    have FO2 := (FO.far (p := ⟨w.heap.size, 0, none⟩) (by simp) (.int .u64 (rh : Int))).far (p := ⟨w.heap.size, 1, none⟩) (by simp) (.int .u64 (rl : Int))
    have GB2 := (GB.setCell (p := ⟨w.heap.size, 0, none⟩) (Nat.le_refl _) (.int .u64 (rh : Int))).setCell (p := ⟨w.heap.size, 1, none⟩) (Nat.le_refl _) (.int .u64 (rl : Int))
    clear FA FO GB
    have e2 := FA2.cell 2
    go_simp
    refine hK.out _ _ e2 (fun hS => ?_)
    clear hK K c0 c1 f0 f1 e2 hS
    generalize (w3.setCell ⟨w.heap.size, 0, none⟩ (.int .u64 (rh : Int))).setCell ⟨w.heap.size, 1, none⟩ (.int .u64 (rl : Int)) = Z at FA2 FO2 GB2 ⊢
    refine wpAnyH_done (by kernel_rfl) ?_ _
    replace FA2 : Blk Z w.heap.size 88 #[.int .u64 (rh : Int), .int .u64 (rl : Int), .int .u64 (x : Int)] := FA2
    have c0 := FA2.cell 0
    have c1 := FA2.cell 1
    have c2 := FA2.cell 2
    have d0 := FO2.cell 0
    have d1 := FO2.cell 1
    have d2 := FO2.cell 2
    have f0 := FO2.frozen 0
    have f1 := FO2.frozen 1
    have f2 := FO2.frozen 2
    have HKF := Lib.hid (put3 (x := .int .u64 (rh : Int)) (y := .int .u64 (rl : Int)) (z := .int .u64 (x : Int)) FO2 GB2 (by omega))
    clear FA2 FO2 GB2
    go_wp2_with fail
    exact bodyPost_ret (v := .agg #[.int .u64 (rh : Int), .int .u64 (rl : Int), .int .u64 (x : Int)]) (results_cell_row Try.results57 _ _ _ _ _ _ _ rfl HKF.out.1 Try.underlying88 rfl (by kernel_rfl)) rfl ⟨rfl, HKF.out.2⟩
  · skip
    go_simp
    refine (HM.out _).mono ?_
    rintro e w5 ⟨rfl, h5⟩
    replace FA := FA.below h5 FA.lt
    replace FO := FO.below h5 FO.lt
    replace GB := GB.trans (h5.mono GB.size)
    clear h5
    refine hK.out _ _ (FA.cell 2) (fun hS => ?_)
    clear hK K
    refine wpAnyH_ready (rs := [1]) (by kernel_rfl) (by simp) ?_
    refine AllReadyH.cons rfl (fun K hK => ?_) (AllReadyH.nil)
    have c0 := FA.cell 0
    have c1 := FA.cell 1
    go_simp
    refine hK.out _ _ (FA.cell 2) (fun hS => ?_)
    clear hK K c0 c1
    refine wpAnyH_ready (rs := [6]) (by kernel_rfl) (by simp) ?_
    refine AllReadyH.cons rfl (fun K hK => ?_) (AllReadyH.nil)
    go_simp
    refine (HA.out _).mono ?_
    rintro e w7 ⟨rfl, h7⟩
    replace FA := FA.below h7 FA.lt
    replace FO := FO.below h7 FO.lt
    replace GB := GB.trans (h7.mono GB.size)
    clear h7
    refine hK.out _ _ (FA.cell 2) (fun hS => ?_)
    clear hK K
    refine wpAnyH_take (i := 7) (v := .tuple #[.agg #[.int .u64 (rh : Int), .int .u64 (rl : Int)], .int .i64 0]) rfl (by kernel_rfl) (by kernel_rfl) (by kernel_rfl) (fun _ _ _ h => h) (Or.inl ⟨by rfl, fun u hSw => (by go_simp)⟩) hS ?_
    refine wpAnyH_take (i := 8) (v := .agg #[.int .u64 (rh : Int), .int .u64 (rl : Int)]) rfl (by kernel_rfl) (by kernel_rfl) (by kernel_rfl) (fun _ _ _ h => h) (Or.inl ⟨by rfl, fun u hSw => (by go_simp)⟩) hS ?_
    refine wpAnyH_take (i := 9) (v := .int .i64 0) rfl (by kernel_rfl) (by kernel_rfl) (by kernel_rfl) (fun _ _ _ h => h) (Or.inl ⟨by rfl, fun u hSw => (by go_simp)⟩) hS ?_
    refine wpAnyH_take (i := 10) (v := .pointer (some ⟨w.heap.size, 0, none⟩)) rfl (by kernel_rfl) (by kernel_rfl) (by kernel_rfl) (fun _ _ _ h => h) (Or.inl ⟨by rfl, fun u hSw => (by go_simp)⟩) hS ?_
    refine wpAnyH_ready (rs := [11]) (by kernel_rfl) (by simp) ?_
    refine AllReadyH.cons rfl (fun K hK => ?_) (AllReadyH.nil)
    have c0 := FA.cell 0
    have c1 := FA.cell 1
    have f0 := FA.frozen 0
    have f1 := FA.frozen 1
    have l1 := FA.lt
    have FA2 := (FA.set_ 0 (.int .u64 (rh : Int))).set_ 1 (.int .u64 (rl : Int))
    have FO2 := (FO.far (p := ⟨w.heap.size, 0, none⟩) (by simp) (.int .u64 (rh : Int))).far (p := ⟨w.heap.size, 1, none⟩) (by simp) (.int .u64 (rl : Int))
    have GB2 := (GB.setCell (p := ⟨w.heap.size, 0, none⟩) (Nat.le_refl _) (.int .u64 (rh : Int))).setCell (p := ⟨w.heap.size, 1, none⟩) (Nat.le_refl _) (.int .u64 (rl : Int))
    clear FA FO GB
    have e2 := FA2.cell 2
    go_simp
    refine hK.out _ _ e2 (fun hS => ?_)
    clear hK K c0 c1 f0 f1 e2 hS
    generalize (w7.setCell ⟨w.heap.size, 0, none⟩ (.int .u64 (rh : Int))).setCell ⟨w.heap.size, 1, none⟩ (.int .u64 (rl : Int)) = Z at FA2 FO2 GB2 ⊢
    refine wpAnyH_done (by kernel_rfl) ?_ _
    replace FA2 : Blk Z w.heap.size 88 #[.int .u64 (rh : Int), .int .u64 (rl : Int), .int .u64 (x : Int)] := FA2
    have c0 := FA2.cell 0
    have c1 := FA2.cell 1
    have c2 := FA2.cell 2
    have d0 := FO2.cell 0
    have d1 := FO2.cell 1
    have d2 := FO2.cell 2
    have f0 := FO2.frozen 0
    have f1 := FO2.frozen 1
    have f2 := FO2.frozen 2
    have HKF := Lib.hid (put3 (x := .int .u64 (rh : Int)) (y := .int .u64 (rl : Int)) (z := .int .u64 (x : Int)) FO2 GB2 (by omega))
    clear FA2 FO2 GB2
    go_wp2_with fail
    exact bodyPost_ret (v := .agg #[.int .u64 (rh : Int), .int .u64 (rl : Int), .int .u64 (x : Int)]) (results_cell_row Try.results57 _ _ _ _ _ _ _ rfl HKF.out.1 Try.underlying88 rfl (by kernel_rfl)) rfl ⟨rfl, HKF.out.2⟩

set_option maxRecDepth 100000 in
set_option maxHeartbeats 4000000 in
theorem add_ok : AddOk := by
  intro N x n w hN hx hn
  obtain ⟨h, l, e, hh, hl⟩ := halves N hN
  unfold addR
  rw [show fq N x = fr h l x by rw [e]; exact fq_of hl x, show rightN N x = rightB h x by rw [e]; exact rightN_of hl]
  obtain ⟨b1, b2, b3, bb⟩ := blks3 w 36 36 36 (fr h l x) #[.int .u64 0, .int .u64 0, .int .u64 0] (fr h l x)
  have HC := Lib.hid (check1 h l x _ _ _ b3)
  have HB := Lib.hid (And.intro b1 (And.intro b2 bb))
  by_cases hr : rightB h x = true
  · rw [if_pos hr]
    rw [show chk h x = 0 from if_pos hr] at HC
    have q1 := right_parts hr
    obtain ⟨rh, rl, e1, e2, e3⟩ := words (N + n) (by omega)
    have HO := Lib.hid (fun u => of_wide n u)
    have HA : Hid (∀ u, Calls Try.prog 62 #[.agg #[.int .u64 (h : Int), .int .u64 (l : Int)], .agg #[.int .u64 0, .int .u64 (n : Int)]] u (Ans (.tuple #[.agg #[.int .u64 (rh : Int), .int .u64 (rl : Int)], .int .i64 0]) u)) := Lib.hid (fun u => add_fits h l 0 n rh rl hl hn e3 e2 (by omega) u)
    obtain ⟨sh, sl, sx, c, ev, hbd⟩ := bnd (N + n) x rh rl e1 e3
    rw [ev]
    have HD := Lib.hid hbd
    clear e hh hl hx hn hN hr q1 e1 e2 e3 ev hbd b1 b2 b3 bb
    unfold fr at *
    go_enter Try.func29, Try.ntmps29
    go_wp2_with fail
    refine HC.out.mono ?_
    rintro e w1 ⟨rfl, h1⟩
    have FA := HB.out.1.below h1 HB.out.1.lt
    have FO := HB.out.2.1.below h1 HB.out.2.1.lt
    have GB := HB.out.2.2.trans (h1.mono HB.out.2.2.size)
    clear HB h1
    go_upto_region 4 with fail
    replace FA : Blk (World.drew _) _ _ _ := FA
    replace FO : Blk (World.drew _) _ _ _ := FO
    replace GB := GB.drew
    go_cut [7] (fun s7 wx => ∃ g7 : Nat, s7 = .pointer (some ⟨g7, 0, none⟩) ∧ w.heap.size + 1 < g7 ∧ Blk wx g7 34 #[.int .u64 (rh : Int), .int .u64 (rl : Int)] ∧ Blk wx w.heap.size 36 #[.int .u64 (h : Int), .int .u64 (l : Int), .int .u64 (x : Int)] ∧ Blk wx (w.heap.size + 1) 36 #[.int .u64 0, .int .u64 0, .int .u64 0] ∧ Below w.heap.size w wx)
    case first =>
      refine wp_region_held_drew (S := fun W => Blk W w.heap.size 36 #[.int .u64 (h : Int), .int .u64 (l : Int), .int .u64 (x : Int)]) (by kernel_rfl) FA (fun hS => ?_)
      generalize World.drew _ = V at FA FO GB hS ⊢
      refine wpAnyH_take (i := 0) (v := .pointer (some ⟨w.heap.size, 0, none⟩)) rfl (by kernel_rfl) (by kernel_rfl) (by kernel_rfl) (fun _ _ _ h => h) (Or.inl ⟨by rfl, fun u hSw => (by go_simp)⟩) hS ?_
      refine wpAnyH_take (i := 1) (v := .agg #[.int .u64 (h : Int), .int .u64 (l : Int)]) rfl (by kernel_rfl) (by kernel_rfl) (by kernel_rfl) (fun _ _ _ h => h) (Or.inl ⟨by rfl, fun u hSw => (by have c0 : u.cell? ⟨w.heap.size, 0, none⟩ = some (.int .u64 (h : Int)) := (hSw).cell 0; have c1 : u.cell? ⟨w.heap.size, 1, none⟩ = some (.int .u64 (l : Int)) := (hSw).cell 1; go_simp)⟩) hS ?_
      refine wpAnyH_take (i := 2) (v := .int .u64 (n : Int)) rfl (by kernel_rfl) (by kernel_rfl) (by kernel_rfl) (fun _ _ _ h => h) (Or.inl ⟨by rfl, fun u hSw => (by go_simp)⟩) hS ?_
      refine wpAnyH_ready (rs := [3, 8]) (by kernel_rfl) (by simp) ?_
      refine AllReadyH.cons rfl (fun K hK => ?_) (AllReadyH.cons rfl (fun K hK => ?_) (AllReadyH.nil))
      · skip
        go_simp
        refine (HO.out _).mono ?_
        rintro e w1 ⟨rfl, h1⟩
        replace FA := FA.below h1 FA.lt
        replace FO := FO.below h1 FO.lt
        replace GB := GB.trans (h1.mono GB.size)
        clear h1
        refine hK.out _ _ FA (fun hS => ?_)
        clear hK K
        refine wpAnyH_ready (rs := [4, 8]) (by kernel_rfl) (by simp) ?_
        refine AllReadyH.cons rfl (fun K hK => ?_) (AllReadyH.cons rfl (fun K hK => ?_) (AllReadyH.nil))
        · skip
          go_simp
          refine (HA.out _).mono ?_
          rintro e w2 ⟨rfl, h2⟩
          replace FA := FA.below h2 FA.lt
          replace FO := FO.below h2 FO.lt
          replace GB := GB.trans (h2.mono GB.size)
          clear h2
          refine hK.out _ _ FA (fun hS => ?_)
          clear hK K
          refine wpAnyH_take (i := 5) (v := .tuple #[.agg #[.int .u64 (rh : Int), .int .u64 (rl : Int)], .int .i64 0]) rfl (by kernel_rfl) (by kernel_rfl) (by kernel_rfl) (fun _ _ _ h => h) (Or.inl ⟨by rfl, fun u hSw => (by go_simp)⟩) hS ?_
          refine wpAnyH_take (i := 6) (v := .agg #[.int .u64 (rh : Int), .int .u64 (rl : Int)]) rfl (by kernel_rfl) (by kernel_rfl) (by kernel_rfl) (fun _ _ _ h => h) (Or.inl ⟨by rfl, fun u hSw => (by go_simp)⟩) hS ?_
          refine wpAnyH_take (i := 7) (v := .int .i64 0) rfl (by kernel_rfl) (by kernel_rfl) (by kernel_rfl) (fun _ _ _ h => h) (Or.inl ⟨by rfl, fun u hSw => (by go_simp)⟩) hS ?_
          refine wpAnyH_ready (rs := [8]) (by kernel_rfl) (by simp) ?_
          refine AllReadyH.cons rfl (fun K hK => ?_) (AllReadyH.nil)
          go_simp
          have F7 := Blk.new w2 34 (#[.int .u64 0, .int .u64 0])
          have l7A : w.heap.size < w2.heap.size := FA.lt
          replace FA := FA.alloc (.cells (#[.int .u64 0, .int .u64 0]) 34)
          have l7O : w.heap.size + 1 < w2.heap.size := FO.lt
          replace FO := FO.alloc (.cells (#[.int .u64 0, .int .u64 0]) 34)
          have L7 := GB.size
          replace GB := GB.alloc GB.size (.cells (#[.int .u64 0, .int .u64 0]) 34)
          refine hK.out _ _ FA (fun hS => ?_)
          clear hK K
          generalize w2.alloc (.cells (#[.int .u64 0, .int .u64 0]) 34) = U3 at F7 FA FO GB hS ⊢
          generalize w2.heap.size = g7 at F7 l7A l7O L7 ⊢
          refine wpAnyH_ready (rs := [9]) (by kernel_rfl) (by simp) ?_
          refine AllReadyH.cons rfl (fun K hK => ?_) (AllReadyH.nil)
          have O4 := F7
          replace FA := FA.other (g' := g7) (cs' := #[.int .u64 (rh : Int), .int .u64 (rl : Int)]) (by omega)
          replace FO := FO.other (g' := g7) (cs' := #[.int .u64 (rh : Int), .int .u64 (rl : Int)]) (by omega)
          replace F7 := F7.row (cs' := #[.int .u64 (rh : Int), .int .u64 (rl : Int)])
          replace GB := below_row (g' := g7) (cs' := #[.int .u64 (rh : Int), .int .u64 (rl : Int)]) GB (by omega)
          refine keep_row rfl 34 (.tmp 7) (.tmp 22) rfl _ _ rfl rfl _ _ O4 (by kernel_rfl) rfl (by simp [Value.oneCell']) (hK.out _ _ FA (fun hS => ?_))
          clear hK K O4
          generalize U3.setRow (g7) (#[.int .u64 (rh : Int), .int .u64 (rl : Int)]) = U4 at FA FO F7 GB hS ⊢
          refine wpAnyH_ready (rs := [10]) (by kernel_rfl) (by simp) ?_
          refine AllReadyH.cons rfl (fun K hK => ?_) (AllReadyH.nil)
          go_simp
          refine hK.out _ _ FA (fun hS => ?_)
          clear hK K
          refine wpAnyH_done (by kernel_rfl) ?_ _
          go_wp2_with fail
          go_meet
          exact ⟨g7, rfl, by omega, F7, FA, FO, GB⟩
        · skip
          go_simp
          have F7 := Blk.new w1 34 (#[.int .u64 0, .int .u64 0])
          have l7A : w.heap.size < w1.heap.size := FA.lt
          replace FA := FA.alloc (.cells (#[.int .u64 0, .int .u64 0]) 34)
          have l7O : w.heap.size + 1 < w1.heap.size := FO.lt
          replace FO := FO.alloc (.cells (#[.int .u64 0, .int .u64 0]) 34)
          have L7 := GB.size
          replace GB := GB.alloc GB.size (.cells (#[.int .u64 0, .int .u64 0]) 34)
          refine hK.out _ _ FA (fun hS => ?_)
          clear hK K
          generalize w1.alloc (.cells (#[.int .u64 0, .int .u64 0]) 34) = U6 at F7 FA FO GB hS ⊢
          generalize w1.heap.size = g7 at F7 l7A l7O L7 ⊢
          refine wpAnyH_ready (rs := [4]) (by kernel_rfl) (by simp) ?_
          refine AllReadyH.cons rfl (fun K hK => ?_) (AllReadyH.nil)
          go_simp
          refine (HA.out _).mono ?_
          rintro e w7 ⟨rfl, h7⟩
          replace FA := FA.below h7 FA.lt
          replace FO := FO.below h7 FO.lt
          replace F7 := F7.below h7 F7.lt
          replace GB := GB.trans (h7.mono GB.size)
          clear h7
          refine hK.out _ _ FA (fun hS => ?_)
          clear hK K
          refine wpAnyH_take (i := 5) (v := .tuple #[.agg #[.int .u64 (rh : Int), .int .u64 (rl : Int)], .int .i64 0]) rfl (by kernel_rfl) (by kernel_rfl) (by kernel_rfl) (fun _ _ _ h => h) (Or.inl ⟨by rfl, fun u hSw => (by go_simp)⟩) hS ?_
          refine wpAnyH_take (i := 6) (v := .agg #[.int .u64 (rh : Int), .int .u64 (rl : Int)]) rfl (by kernel_rfl) (by kernel_rfl) (by kernel_rfl) (fun _ _ _ h => h) (Or.inl ⟨by rfl, fun u hSw => (by go_simp)⟩) hS ?_
          refine wpAnyH_take (i := 7) (v := .int .i64 0) rfl (by kernel_rfl) (by kernel_rfl) (by kernel_rfl) (fun _ _ _ h => h) (Or.inl ⟨by rfl, fun u hSw => (by go_simp)⟩) hS ?_
          refine wpAnyH_ready (rs := [9]) (by kernel_rfl) (by simp) ?_
          refine AllReadyH.cons rfl (fun K hK => ?_) (AllReadyH.nil)
          have O8 := F7
          replace FA := FA.other (g' := g7) (cs' := #[.int .u64 (rh : Int), .int .u64 (rl : Int)]) (by omega)
          replace FO := FO.other (g' := g7) (cs' := #[.int .u64 (rh : Int), .int .u64 (rl : Int)]) (by omega)
          replace F7 := F7.row (cs' := #[.int .u64 (rh : Int), .int .u64 (rl : Int)])
          replace GB := below_row (g' := g7) (cs' := #[.int .u64 (rh : Int), .int .u64 (rl : Int)]) GB (by omega)
          refine keep_row rfl 34 (.tmp 7) (.tmp 22) rfl _ _ rfl rfl _ _ O8 (by kernel_rfl) rfl (by simp [Value.oneCell']) (hK.out _ _ FA (fun hS => ?_))
          clear hK K O8
          generalize w7.setRow (g7) (#[.int .u64 (rh : Int), .int .u64 (rl : Int)]) = U8 at FA FO F7 GB hS ⊢
          refine wpAnyH_ready (rs := [10]) (by kernel_rfl) (by simp) ?_
          refine AllReadyH.cons rfl (fun K hK => ?_) (AllReadyH.nil)
          go_simp
          refine hK.out _ _ FA (fun hS => ?_)
          clear hK K
          refine wpAnyH_done (by kernel_rfl) ?_ _
          go_wp2_with fail
          go_meet
          exact ⟨g7, rfl, by omega, F7, FA, FO, GB⟩
      · skip
        go_simp
        have F7 := Blk.new V 34 (#[.int .u64 0, .int .u64 0])
        have l7A : w.heap.size < V.heap.size := FA.lt
        replace FA := FA.alloc (.cells (#[.int .u64 0, .int .u64 0]) 34)
        have l7O : w.heap.size + 1 < V.heap.size := FO.lt
        replace FO := FO.alloc (.cells (#[.int .u64 0, .int .u64 0]) 34)
        have L7 := GB.size
        replace GB := GB.alloc GB.size (.cells (#[.int .u64 0, .int .u64 0]) 34)
        refine hK.out _ _ FA (fun hS => ?_)
        clear hK K
        generalize V.alloc (.cells (#[.int .u64 0, .int .u64 0]) 34) = U10 at F7 FA FO GB hS ⊢
        generalize V.heap.size = g7 at F7 l7A l7O L7 ⊢
        refine wpAnyH_ready (rs := [3]) (by kernel_rfl) (by simp) ?_
        refine AllReadyH.cons rfl (fun K hK => ?_) (AllReadyH.nil)
        go_simp
        refine (HO.out _).mono ?_
        rintro e w11 ⟨rfl, h11⟩
        replace FA := FA.below h11 FA.lt
        replace FO := FO.below h11 FO.lt
        replace F7 := F7.below h11 F7.lt
        replace GB := GB.trans (h11.mono GB.size)
        clear h11
        refine hK.out _ _ FA (fun hS => ?_)
        clear hK K
        refine wpAnyH_ready (rs := [4]) (by kernel_rfl) (by simp) ?_
        refine AllReadyH.cons rfl (fun K hK => ?_) (AllReadyH.nil)
        go_simp
        refine (HA.out _).mono ?_
        rintro e w12 ⟨rfl, h12⟩
        replace FA := FA.below h12 FA.lt
        replace FO := FO.below h12 FO.lt
        replace F7 := F7.below h12 F7.lt
        replace GB := GB.trans (h12.mono GB.size)
        clear h12
        refine hK.out _ _ FA (fun hS => ?_)
        clear hK K
        refine wpAnyH_take (i := 5) (v := .tuple #[.agg #[.int .u64 (rh : Int), .int .u64 (rl : Int)], .int .i64 0]) rfl (by kernel_rfl) (by kernel_rfl) (by kernel_rfl) (fun _ _ _ h => h) (Or.inl ⟨by rfl, fun u hSw => (by go_simp)⟩) hS ?_
        refine wpAnyH_take (i := 6) (v := .agg #[.int .u64 (rh : Int), .int .u64 (rl : Int)]) rfl (by kernel_rfl) (by kernel_rfl) (by kernel_rfl) (fun _ _ _ h => h) (Or.inl ⟨by rfl, fun u hSw => (by go_simp)⟩) hS ?_
        refine wpAnyH_take (i := 7) (v := .int .i64 0) rfl (by kernel_rfl) (by kernel_rfl) (by kernel_rfl) (fun _ _ _ h => h) (Or.inl ⟨by rfl, fun u hSw => (by go_simp)⟩) hS ?_
        refine wpAnyH_ready (rs := [9]) (by kernel_rfl) (by simp) ?_
        refine AllReadyH.cons rfl (fun K hK => ?_) (AllReadyH.nil)
        have O13 := F7
        replace FA := FA.other (g' := g7) (cs' := #[.int .u64 (rh : Int), .int .u64 (rl : Int)]) (by omega)
        replace FO := FO.other (g' := g7) (cs' := #[.int .u64 (rh : Int), .int .u64 (rl : Int)]) (by omega)
        replace F7 := F7.row (cs' := #[.int .u64 (rh : Int), .int .u64 (rl : Int)])
        replace GB := below_row (g' := g7) (cs' := #[.int .u64 (rh : Int), .int .u64 (rl : Int)]) GB (by omega)
        refine keep_row rfl 34 (.tmp 7) (.tmp 22) rfl _ _ rfl rfl _ _ O13 (by kernel_rfl) rfl (by simp [Value.oneCell']) (hK.out _ _ FA (fun hS => ?_))
        clear hK K O13
        generalize w12.setRow (g7) (#[.int .u64 (rh : Int), .int .u64 (rl : Int)]) = U13 at FA FO F7 GB hS ⊢
        refine wpAnyH_ready (rs := [10]) (by kernel_rfl) (by simp) ?_
        refine AllReadyH.cons rfl (fun K hK => ?_) (AllReadyH.nil)
        go_simp
        refine hK.out _ _ FA (fun hS => ?_)
        clear hK K
        refine wpAnyH_done (by kernel_rfl) ?_ _
        go_wp2_with fail
        go_meet
        exact ⟨g7, rfl, by omega, F7, FA, FO, GB⟩
    case rest =>
      clear FA FO GB HO HA
      obtain ⟨g7, rfl, l7, F7, FA, K, B⟩ := hcut
      have c0 := F7.cell 0
      have c1 := F7.cell 1
      have c2 := FA.cell 2
      go_wp2_with fail
      refine (HD.out _).mono ?_
      rintro e w3 ⟨rfl, h3⟩
      replace K := K.below h3 K.lt
      replace B := B.trans (h3.mono B.size)
      clear h3 c0 c1 c2 F7 FA
      have d0 := K.cell 0
      have d1 := K.cell 1
      have d2 := K.cell 2
      have f0 := K.frozen 0
      have f1 := K.frozen 1
      have f2 := K.frozen 2
      have HKF := Lib.hid (put3 (x := .int .u64 (sh : Int)) (y := .int .u64 (sl : Int)) (z := .int .u64 (sx : Int)) K B (by omega))
      clear K B
      go_wp2_with fail
      exact bodyPost_ret (v := .tuple #[.agg #[.int .u64 (sh : Int), .int .u64 (sl : Int), .int .u64 (sx : Int)], .int .i64 c]) (results_cell_row_tmp Try.results29 _ _ _ _ _ _ rfl HKF.out.1 Try.underlying36 rfl (by kernel_rfl)) rfl ⟨rfl, HKF.out.2⟩
  · rw [if_neg hr, fe_none]
    rw [show chk h x = 150 from if_neg hr] at HC
    clear e hh hl hx hn hN hr b1 b2 b3 bb
    unfold fr at HC HB ⊢
    go_enter Try.func29, Try.ntmps29
    go_wp2_with fail
    refine HC.out.mono ?_
    rintro e w1 ⟨rfl, h1⟩
    have K := HB.out.2.1.below h1 HB.out.2.1.lt
    have B := HB.out.2.2.trans (h1.mono HB.out.2.2.size)
    clear HB h1
    have d0 := K.cell 0
    have d1 := K.cell 1
    have d2 := K.cell 2
    have f0 := K.frozen 0
    have f1 := K.frozen 1
    have f2 := K.frozen 2
    have HKF := Lib.hid (put3 (x := .int .u64 0) (y := .int .u64 0) (z := .int .u64 0) K B (by omega))
    clear K B
    go_wp2_with fail
    exact bodyPost_ret (v := .tuple #[.agg #[.int .u64 0, .int .u64 0, .int .u64 0], .int .i64 150]) (results_cell_row_tmp Try.results29 _ _ _ _ _ _ rfl HKF.out.1 Try.underlying36 rfl (by kernel_rfl)) rfl ⟨rfl, HKF.out.2⟩

set_option maxRecDepth 100000 in
set_option maxHeartbeats 4000000 in
theorem less_ok : LessOk := by
  intro N x n w hN hx hn
  obtain ⟨h, l, e, hh, hl⟩ := halves N hN
  unfold lessR
  rw [show fq N x = fr h l x by rw [e]; exact fq_of hl x, show rightN N x = rightB h x by rw [e]; exact rightN_of hl]
  obtain ⟨b1, b2, b3, bb⟩ := blks3 w 36 36 36 (fr h l x) #[.int .u64 0, .int .u64 0, .int .u64 0] (fr h l x)
  have HC := Lib.hid (check1 h l x _ _ _ b3)
  have HB := Lib.hid (And.intro b1 (And.intro b2 bb))
  by_cases hr : rightB h x = true
  · rw [if_pos hr]
    rw [show chk h x = 0 from if_pos hr] at HC
    have q1 := right_parts hr
    have HO := Lib.hid (fun u => of_wide n u)
    obtain ⟨rh, rl, cu, e1, e3, ha⟩ : ∃ rh rl : Nat, ∃ cu : Int, N - n = rh * 2 ^ 64 + rl ∧ rl < 2 ^ 64 ∧ ∀ u, Calls Try.prog 67 #[.agg #[.int .u64 (h : Int), .int .u64 (l : Int)], .agg #[.int .u64 0, .int .u64 (n : Int)]] u (Ans (.tuple #[.agg #[.int .u64 (rh : Int), .int .u64 (rl : Int)], .int .i64 cu]) u) := by
      by_cases hnn : n ≤ N
      · obtain ⟨rh, rl, e1, e2, e3⟩ := halves (N - n) (by omega)
        exact ⟨rh, rl, 0, e1, e3, fun u => sub_fits h l 0 n rh rl hl hn e3 hh (by omega) u⟩
      · exact ⟨0, 0, 131, by omega, by omega, fun u => sub_under h l 0 n hl hn (by omega) u⟩
    rw [e1, fe_some e3]
    have HA := Lib.hid ha
    clear e hh hl hx hn hN hr q1 e1 e3 ha b1 b2 b3 bb
    unfold fr at *
    go_enter Try.func31, Try.ntmps31
    go_wp2_with fail
    refine HC.out.mono ?_
    rintro e w1 ⟨rfl, h1⟩
    have FA := HB.out.1.below h1 HB.out.1.lt
    have FO := HB.out.2.1.below h1 HB.out.2.1.lt
    have GB := HB.out.2.2.trans (h1.mono HB.out.2.2.size)
    clear HB h1
    go_upto_region 4 with fail
    replace FA : Blk (World.drew _) _ _ _ := FA
    replace FO : Blk (World.drew _) _ _ _ := FO
    replace GB := GB.drew
    go_cut [7] (fun s7 wx => ∃ g7 : Nat, s7 = .pointer (some ⟨g7, 0, none⟩) ∧ w.heap.size + 1 < g7 ∧ Blk wx g7 34 #[.int .u64 (rh : Int), .int .u64 (rl : Int)] ∧ Blk wx w.heap.size 36 #[.int .u64 (h : Int), .int .u64 (l : Int), .int .u64 (x : Int)] ∧ Blk wx (w.heap.size + 1) 36 #[.int .u64 0, .int .u64 0, .int .u64 0] ∧ Below w.heap.size w wx)
    case first =>
      refine wp_region_held_drew (S := fun W => Blk W w.heap.size 36 #[.int .u64 (h : Int), .int .u64 (l : Int), .int .u64 (x : Int)]) (by kernel_rfl) FA (fun hS => ?_)
      generalize World.drew _ = V at FA FO GB hS ⊢
      refine wpAnyH_take (i := 0) (v := .pointer (some ⟨w.heap.size, 0, none⟩)) rfl (by kernel_rfl) (by kernel_rfl) (by kernel_rfl) (fun _ _ _ h => h) (Or.inl ⟨by rfl, fun u hSw => (by go_simp)⟩) hS ?_
      refine wpAnyH_take (i := 1) (v := .agg #[.int .u64 (h : Int), .int .u64 (l : Int)]) rfl (by kernel_rfl) (by kernel_rfl) (by kernel_rfl) (fun _ _ _ h => h) (Or.inl ⟨by rfl, fun u hSw => (by have c0 : u.cell? ⟨w.heap.size, 0, none⟩ = some (.int .u64 (h : Int)) := (hSw).cell 0; have c1 : u.cell? ⟨w.heap.size, 1, none⟩ = some (.int .u64 (l : Int)) := (hSw).cell 1; go_simp)⟩) hS ?_
      refine wpAnyH_take (i := 2) (v := .int .u64 (n : Int)) rfl (by kernel_rfl) (by kernel_rfl) (by kernel_rfl) (fun _ _ _ h => h) (Or.inl ⟨by rfl, fun u hSw => (by go_simp)⟩) hS ?_
      refine wpAnyH_ready (rs := [3, 8]) (by kernel_rfl) (by simp) ?_
      refine AllReadyH.cons rfl (fun K hK => ?_) (AllReadyH.cons rfl (fun K hK => ?_) (AllReadyH.nil))
      · skip
        go_simp
        refine (HO.out _).mono ?_
        rintro e w1 ⟨rfl, h1⟩
        replace FA := FA.below h1 FA.lt
        replace FO := FO.below h1 FO.lt
        replace GB := GB.trans (h1.mono GB.size)
        clear h1
        refine hK.out _ _ FA (fun hS => ?_)
        clear hK K
        refine wpAnyH_ready (rs := [4, 8]) (by kernel_rfl) (by simp) ?_
        refine AllReadyH.cons rfl (fun K hK => ?_) (AllReadyH.cons rfl (fun K hK => ?_) (AllReadyH.nil))
        · skip
          go_simp
          refine (HA.out _).mono ?_
          rintro e w2 ⟨rfl, h2⟩
          replace FA := FA.below h2 FA.lt
          replace FO := FO.below h2 FO.lt
          replace GB := GB.trans (h2.mono GB.size)
          clear h2
          refine hK.out _ _ FA (fun hS => ?_)
          clear hK K
          refine wpAnyH_take (i := 5) (v := .tuple #[.agg #[.int .u64 (rh : Int), .int .u64 (rl : Int)], .int .i64 cu]) rfl (by kernel_rfl) (by kernel_rfl) (by kernel_rfl) (fun _ _ _ h => h) (Or.inl ⟨by rfl, fun u hSw => (by go_simp)⟩) hS ?_
          refine wpAnyH_take (i := 6) (v := .agg #[.int .u64 (rh : Int), .int .u64 (rl : Int)]) rfl (by kernel_rfl) (by kernel_rfl) (by kernel_rfl) (fun _ _ _ h => h) (Or.inl ⟨by rfl, fun u hSw => (by go_simp)⟩) hS ?_
          refine wpAnyH_take (i := 7) (v := .int .i64 cu) rfl (by kernel_rfl) (by kernel_rfl) (by kernel_rfl) (fun _ _ _ h => h) (Or.inl ⟨by rfl, fun u hSw => (by go_simp)⟩) hS ?_
          refine wpAnyH_ready (rs := [8]) (by kernel_rfl) (by simp) ?_
          refine AllReadyH.cons rfl (fun K hK => ?_) (AllReadyH.nil)
          go_simp
          have F7 := Blk.new w2 34 (#[.int .u64 0, .int .u64 0])
          have l7A : w.heap.size < w2.heap.size := FA.lt
          replace FA := FA.alloc (.cells (#[.int .u64 0, .int .u64 0]) 34)
          have l7O : w.heap.size + 1 < w2.heap.size := FO.lt
          replace FO := FO.alloc (.cells (#[.int .u64 0, .int .u64 0]) 34)
          have L7 := GB.size
          replace GB := GB.alloc GB.size (.cells (#[.int .u64 0, .int .u64 0]) 34)
          refine hK.out _ _ FA (fun hS => ?_)
          clear hK K
          generalize w2.alloc (.cells (#[.int .u64 0, .int .u64 0]) 34) = U3 at F7 FA FO GB hS ⊢
          generalize w2.heap.size = g7 at F7 l7A l7O L7 ⊢
          refine wpAnyH_ready (rs := [9]) (by kernel_rfl) (by simp) ?_
          refine AllReadyH.cons rfl (fun K hK => ?_) (AllReadyH.nil)
          have O4 := F7
          replace FA := FA.other (g' := g7) (cs' := #[.int .u64 (rh : Int), .int .u64 (rl : Int)]) (by omega)
          replace FO := FO.other (g' := g7) (cs' := #[.int .u64 (rh : Int), .int .u64 (rl : Int)]) (by omega)
          replace F7 := F7.row (cs' := #[.int .u64 (rh : Int), .int .u64 (rl : Int)])
          replace GB := below_row (g' := g7) (cs' := #[.int .u64 (rh : Int), .int .u64 (rl : Int)]) GB (by omega)
          refine keep_row rfl 34 (.tmp 7) (.tmp 22) rfl _ _ rfl rfl _ _ O4 (by kernel_rfl) rfl (by simp [Value.oneCell']) (hK.out _ _ FA (fun hS => ?_))
          clear hK K O4
          generalize U3.setRow (g7) (#[.int .u64 (rh : Int), .int .u64 (rl : Int)]) = U4 at FA FO F7 GB hS ⊢
          refine wpAnyH_ready (rs := [10]) (by kernel_rfl) (by simp) ?_
          refine AllReadyH.cons rfl (fun K hK => ?_) (AllReadyH.nil)
          go_simp
          refine hK.out _ _ FA (fun hS => ?_)
          clear hK K
          refine wpAnyH_done (by kernel_rfl) ?_ _
          go_wp2_with fail
          go_meet
          exact ⟨g7, rfl, by omega, F7, FA, FO, GB⟩
        · skip
          go_simp
          have F7 := Blk.new w1 34 (#[.int .u64 0, .int .u64 0])
          have l7A : w.heap.size < w1.heap.size := FA.lt
          replace FA := FA.alloc (.cells (#[.int .u64 0, .int .u64 0]) 34)
          have l7O : w.heap.size + 1 < w1.heap.size := FO.lt
          replace FO := FO.alloc (.cells (#[.int .u64 0, .int .u64 0]) 34)
          have L7 := GB.size
          replace GB := GB.alloc GB.size (.cells (#[.int .u64 0, .int .u64 0]) 34)
          refine hK.out _ _ FA (fun hS => ?_)
          clear hK K
          generalize w1.alloc (.cells (#[.int .u64 0, .int .u64 0]) 34) = U6 at F7 FA FO GB hS ⊢
          generalize w1.heap.size = g7 at F7 l7A l7O L7 ⊢
          refine wpAnyH_ready (rs := [4]) (by kernel_rfl) (by simp) ?_
          refine AllReadyH.cons rfl (fun K hK => ?_) (AllReadyH.nil)
          go_simp
          refine (HA.out _).mono ?_
          rintro e w7 ⟨rfl, h7⟩
          replace FA := FA.below h7 FA.lt
          replace FO := FO.below h7 FO.lt
          replace F7 := F7.below h7 F7.lt
          replace GB := GB.trans (h7.mono GB.size)
          clear h7
          refine hK.out _ _ FA (fun hS => ?_)
          clear hK K
          refine wpAnyH_take (i := 5) (v := .tuple #[.agg #[.int .u64 (rh : Int), .int .u64 (rl : Int)], .int .i64 cu]) rfl (by kernel_rfl) (by kernel_rfl) (by kernel_rfl) (fun _ _ _ h => h) (Or.inl ⟨by rfl, fun u hSw => (by go_simp)⟩) hS ?_
          refine wpAnyH_take (i := 6) (v := .agg #[.int .u64 (rh : Int), .int .u64 (rl : Int)]) rfl (by kernel_rfl) (by kernel_rfl) (by kernel_rfl) (fun _ _ _ h => h) (Or.inl ⟨by rfl, fun u hSw => (by go_simp)⟩) hS ?_
          refine wpAnyH_take (i := 7) (v := .int .i64 cu) rfl (by kernel_rfl) (by kernel_rfl) (by kernel_rfl) (fun _ _ _ h => h) (Or.inl ⟨by rfl, fun u hSw => (by go_simp)⟩) hS ?_
          refine wpAnyH_ready (rs := [9]) (by kernel_rfl) (by simp) ?_
          refine AllReadyH.cons rfl (fun K hK => ?_) (AllReadyH.nil)
          have O8 := F7
          replace FA := FA.other (g' := g7) (cs' := #[.int .u64 (rh : Int), .int .u64 (rl : Int)]) (by omega)
          replace FO := FO.other (g' := g7) (cs' := #[.int .u64 (rh : Int), .int .u64 (rl : Int)]) (by omega)
          replace F7 := F7.row (cs' := #[.int .u64 (rh : Int), .int .u64 (rl : Int)])
          replace GB := below_row (g' := g7) (cs' := #[.int .u64 (rh : Int), .int .u64 (rl : Int)]) GB (by omega)
          refine keep_row rfl 34 (.tmp 7) (.tmp 22) rfl _ _ rfl rfl _ _ O8 (by kernel_rfl) rfl (by simp [Value.oneCell']) (hK.out _ _ FA (fun hS => ?_))
          clear hK K O8
          generalize w7.setRow (g7) (#[.int .u64 (rh : Int), .int .u64 (rl : Int)]) = U8 at FA FO F7 GB hS ⊢
          refine wpAnyH_ready (rs := [10]) (by kernel_rfl) (by simp) ?_
          refine AllReadyH.cons rfl (fun K hK => ?_) (AllReadyH.nil)
          go_simp
          refine hK.out _ _ FA (fun hS => ?_)
          clear hK K
          refine wpAnyH_done (by kernel_rfl) ?_ _
          go_wp2_with fail
          go_meet
          exact ⟨g7, rfl, by omega, F7, FA, FO, GB⟩
      · skip
        go_simp
        have F7 := Blk.new V 34 (#[.int .u64 0, .int .u64 0])
        have l7A : w.heap.size < V.heap.size := FA.lt
        replace FA := FA.alloc (.cells (#[.int .u64 0, .int .u64 0]) 34)
        have l7O : w.heap.size + 1 < V.heap.size := FO.lt
        replace FO := FO.alloc (.cells (#[.int .u64 0, .int .u64 0]) 34)
        have L7 := GB.size
        replace GB := GB.alloc GB.size (.cells (#[.int .u64 0, .int .u64 0]) 34)
        refine hK.out _ _ FA (fun hS => ?_)
        clear hK K
        generalize V.alloc (.cells (#[.int .u64 0, .int .u64 0]) 34) = U10 at F7 FA FO GB hS ⊢
        generalize V.heap.size = g7 at F7 l7A l7O L7 ⊢
        refine wpAnyH_ready (rs := [3]) (by kernel_rfl) (by simp) ?_
        refine AllReadyH.cons rfl (fun K hK => ?_) (AllReadyH.nil)
        go_simp
        refine (HO.out _).mono ?_
        rintro e w11 ⟨rfl, h11⟩
        replace FA := FA.below h11 FA.lt
        replace FO := FO.below h11 FO.lt
        replace F7 := F7.below h11 F7.lt
        replace GB := GB.trans (h11.mono GB.size)
        clear h11
        refine hK.out _ _ FA (fun hS => ?_)
        clear hK K
        refine wpAnyH_ready (rs := [4]) (by kernel_rfl) (by simp) ?_
        refine AllReadyH.cons rfl (fun K hK => ?_) (AllReadyH.nil)
        go_simp
        refine (HA.out _).mono ?_
        rintro e w12 ⟨rfl, h12⟩
        replace FA := FA.below h12 FA.lt
        replace FO := FO.below h12 FO.lt
        replace F7 := F7.below h12 F7.lt
        replace GB := GB.trans (h12.mono GB.size)
        clear h12
        refine hK.out _ _ FA (fun hS => ?_)
        clear hK K
        refine wpAnyH_take (i := 5) (v := .tuple #[.agg #[.int .u64 (rh : Int), .int .u64 (rl : Int)], .int .i64 cu]) rfl (by kernel_rfl) (by kernel_rfl) (by kernel_rfl) (fun _ _ _ h => h) (Or.inl ⟨by rfl, fun u hSw => (by go_simp)⟩) hS ?_
        refine wpAnyH_take (i := 6) (v := .agg #[.int .u64 (rh : Int), .int .u64 (rl : Int)]) rfl (by kernel_rfl) (by kernel_rfl) (by kernel_rfl) (fun _ _ _ h => h) (Or.inl ⟨by rfl, fun u hSw => (by go_simp)⟩) hS ?_
        refine wpAnyH_take (i := 7) (v := .int .i64 cu) rfl (by kernel_rfl) (by kernel_rfl) (by kernel_rfl) (fun _ _ _ h => h) (Or.inl ⟨by rfl, fun u hSw => (by go_simp)⟩) hS ?_
        refine wpAnyH_ready (rs := [9]) (by kernel_rfl) (by simp) ?_
        refine AllReadyH.cons rfl (fun K hK => ?_) (AllReadyH.nil)
        have O13 := F7
        replace FA := FA.other (g' := g7) (cs' := #[.int .u64 (rh : Int), .int .u64 (rl : Int)]) (by omega)
        replace FO := FO.other (g' := g7) (cs' := #[.int .u64 (rh : Int), .int .u64 (rl : Int)]) (by omega)
        replace F7 := F7.row (cs' := #[.int .u64 (rh : Int), .int .u64 (rl : Int)])
        replace GB := below_row (g' := g7) (cs' := #[.int .u64 (rh : Int), .int .u64 (rl : Int)]) GB (by omega)
        refine keep_row rfl 34 (.tmp 7) (.tmp 22) rfl _ _ rfl rfl _ _ O13 (by kernel_rfl) rfl (by simp [Value.oneCell']) (hK.out _ _ FA (fun hS => ?_))
        clear hK K O13
        generalize w12.setRow (g7) (#[.int .u64 (rh : Int), .int .u64 (rl : Int)]) = U13 at FA FO F7 GB hS ⊢
        refine wpAnyH_ready (rs := [10]) (by kernel_rfl) (by simp) ?_
        refine AllReadyH.cons rfl (fun K hK => ?_) (AllReadyH.nil)
        go_simp
        refine hK.out _ _ FA (fun hS => ?_)
        clear hK K
        refine wpAnyH_done (by kernel_rfl) ?_ _
        go_wp2_with fail
        go_meet
        exact ⟨g7, rfl, by omega, F7, FA, FO, GB⟩
    case rest =>
      clear FA FO GB HO HA
      obtain ⟨g7, rfl, l7, F7, FA, K, B⟩ := hcut
      have c0 := F7.cell 0
      have c1 := F7.cell 1
      have c2 := FA.cell 2
      have d0 := K.cell 0
      have d1 := K.cell 1
      have d2 := K.cell 2
      have f0 := K.frozen 0
      have f1 := K.frozen 1
      have f2 := K.frozen 2
      have HKF := Lib.hid (put3 (x := .int .u64 (rh : Int)) (y := .int .u64 (rl : Int)) (z := .int .u64 (x : Int)) K B (by omega))
      clear K B F7 FA
      go_wp2_with fail
      exact bodyPost_ret (v := .tuple #[.agg #[.int .u64 (rh : Int), .int .u64 (rl : Int), .int .u64 (x : Int)], .int .i64 0]) (results_cell_row_tmp Try.results31 _ _ _ _ _ _ rfl HKF.out.1 Try.underlying36 rfl (by kernel_rfl)) rfl ⟨rfl, HKF.out.2⟩
  · rw [if_neg hr, fe_none]
    rw [show chk h x = 150 from if_neg hr] at HC
    clear e hh hl hx hn hN hr b1 b2 b3 bb
    unfold fr at HC HB ⊢
    go_enter Try.func31, Try.ntmps31
    go_wp2_with fail
    refine HC.out.mono ?_
    rintro e w1 ⟨rfl, h1⟩
    have K := HB.out.2.1.below h1 HB.out.2.1.lt
    have B := HB.out.2.2.trans (h1.mono HB.out.2.2.size)
    clear HB h1
    have d0 := K.cell 0
    have d1 := K.cell 1
    have d2 := K.cell 2
    have f0 := K.frozen 0
    have f1 := K.frozen 1
    have f2 := K.frozen 2
    have HKF := Lib.hid (put3 (x := .int .u64 0) (y := .int .u64 0) (z := .int .u64 0) K B (by omega))
    clear K B
    go_wp2_with fail
    exact bodyPost_ret (v := .tuple #[.agg #[.int .u64 0, .int .u64 0, .int .u64 0], .int .i64 150]) (results_cell_row_tmp Try.results31 _ _ _ _ _ _ rfl HKF.out.1 Try.underlying36 rfl (by kernel_rfl)) rfl ⟨rfl, HKF.out.2⟩

end Go.Proofs.Ytfgabmelmopgdaa
