/-
  OrderEntities' walk. No statement is proved here.
-/
import Derived.Test.YtngbamoffjlodaaZUd
import Derived.Test.YtngbamoffjlodaaZUe
import Derived.Test.YtngbamoffjlodaaZUg
import Derived.Test.YtngbamoffjlodaaZSb
import Derived.Test.YtngbamoffjlodaaZRd
import Derived.Test.YtngbamoffjlodaaZTc
namespace Go.Proofs.Ytngbamoffjlodaa
open Go.RowKit Go.Maps
set_option linter.unusedSimpArgs false

set_option maxRecDepth 100000 in
set_option maxHeartbeats 64000000 in
theorem entities_walk (A : Option Addr) (n c : Nat) (rows : List Rw) (w : World) (hR : RR w A n rows) (hb : n ≤ maxLen) : Calls Try.prog 3 #[.slice A n c] w (Said (.bool true) w) := by
  have HRR := Lib.hid hR
  have HL := Lib.hid hR.len
  have HWk := Lib.hid (fun (u : World) => wakes_any u)
  have hn : n ≤ 9223372036854775807 := by unfold maxLen at hb; omega
  clear hR hb
  go_enter Try.func3, Try.ntmps3
  go_wp2_with fail
  refine (HWk.out _).mono ?_
  rintro e u1 ⟨rfl, h9⟩
  have HB0 := Lib.hid h9
  clear h9
  go_wp2_with fail
  go_loopw [16] (fun iv wr => ∃ k : Nat, k ≤ n ∧ k ≤ 6 ∧ iv = .int .i64 (k : Int) ∧ Hid (Below w.heap.size w wr)) (fun iv _ => n - (intOf iv).toNat)
  case atStart => exact ⟨0, by omega, by omega, rfl, HB0⟩
  case round =>
    clear HB0
    obtain ⟨k, hk, hk6, rfl, HB⟩ := hrel
    by_cases hlt : k < n
    · obtain ⟨⟨⟨A1, n1, c1, qs⟩, ⟨A2, n2, c2, ws⟩, A3, n3, c3, gs⟩, hx⟩ := elem_at (l := rows) (k := k) (by rw [HL.out]; exact hlt)
      have hr := HRR.out.each _ (List.mem_of_getElem? hx)
      obtain ⟨ad, rfl, HC⟩ := HRR.out.at_ hx
      obtain ⟨d0, d1, d2⟩ := HC.out wr HB.out
      have i1 : (0 : Int) ≤ (k : Int) := by omega
      have i2 : (k : Int) < (n : Int) := by omega
      have l1 : decide ((k : Int) < (n : Int)) = true := decide_eq_true i2
      by_cases h6 : k = 6
      · have g6 : ((k : Int) == 6) = true := by simp; omega
        have HB2 := HB.out.alloc HB.out.size (.cells #[.slice A1 n1 c1, .slice A2 n2 c2, .slice A3 n3 c3] 30)
        clear h6 hk6 hr hx HC
        go_wp2_with fail
        go_ret
        exact ⟨rfl, HB2⟩
      · have g6 : ((k : Int) == 6) = false := by simp; omega
        have HJ := Lib.hid (show k + 1 ≤ n ∧ k + 1 ≤ 6 by omega)
        have j9 : k < 100 := by omega
        have HSh := Lib.hid (fun (u : World) (h : Below w.heap.size w u) => short_any A1 n1 c1 qs A2 n2 c2 ws A3 n3 c3 gs u ((hr.q.below h).more h.size) hr.qc ((hr.w.below h).more h.size) hr.wc (hr.g.below h))
        have HUQ := Lib.hid (And.intro hr.qu hr.wu)
        have KB := Blk.new wr 30 #[.slice A1 n1 c1, .slice A2 n2 c2, .slice A3 n3 c3]
        have GB := HB.out.alloc HB.out.size (.cells #[.slice A1 n1 c1, .slice A2 n2 c2, .slice A3 n3 c3] 30)
        clear h6 hk6 hr hx HC
        go_upto_region 7 with fail
        clear d0 d1 d2
        generalize wr.alloc (.cells #[.slice A1 n1 c1, .slice A2 n2 c2, .slice A3 n3 c3] 30) = W0 at KB GB ⊢
        generalize wr.heap.size = g4 at KB ⊢
        replace KB : Blk W0.drew _ _ _ := KB
        replace GB := GB.drew
        clear HB
        go_cut [5, 6] (fun s5 s6 X => ∃ (g5 g6 : Nat) (B1 : Option Addr) (m1 d1 : Nat) (B2 : Option Addr) (m2 d2 : Nat) (B3 : Option Addr) (m3 d3 : Nat) (GX : List Gg) (D1 : Option Addr) (k1 e1 : Nat) (D2 : Option Addr) (k2 e2 : Nat) (D3 : Option Addr) (k3 e3 : Nat) (GY : List Gg),
          s5 = .pointer (some ⟨g5, 0, none⟩) ∧ s6 = .pointer (some ⟨g6, 0, none⟩) ∧ Blk X g5 30 #[.slice B1 m1 d1, .slice B2 m2 d2, .slice B3 m3 d3] ∧ Blk X g6 30 #[.slice D1 k1 e1, .slice D2 k2 e2, .slice D3 k3 e3] ∧ SH qs ws gs X B1 m1 d1 B2 m2 d2 B3 m3 d3 GX ∧ SH qs ws gs X D1 k1 e1 D2 k2 e2 D3 k3 e3 GY ∧ Below w.heap.size w X)
        case first =>
          as_aux_lemma =>
            refine wp_region_held_drew (S := fun W => Blk W g4 30 #[.slice A1 n1 c1, .slice A2 n2 c2, .slice A3 n3 c3] ∧ Below w.heap.size w W) (by kernel_rfl) ⟨KB, GB⟩ (fun hS => ?_)
            generalize W0.drew = V at KB GB hS ⊢
            refine wpAnyH_take (i := 0) (v := .agg #[.slice A1 n1 c1, .slice A2 n2 c2, .slice A3 n3 c3]) rfl (by kernel_rfl) (by kernel_rfl) (by kernel_rfl) (fun _ _ _ h => h) (Or.inl ⟨by rfl, fun u hSw => (by have c0 := hSw.1.cell 0; have c1 := hSw.1.cell 1; have c2 := hSw.1.cell 2; go_simp)⟩) hS ?_
            change wpAnyH _ _ _ _ _ _ _ (Act.put _ (some 23) _) _
            simp only [Act.put]
            refine wpAnyH_take (i := 2) (v := .agg #[.slice A1 n1 c1, .slice A2 n2 c2, .slice A3 n3 c3]) rfl (by kernel_rfl) (by kernel_rfl) (by kernel_rfl) (fun _ _ _ h => h) (Or.inl ⟨by rfl, fun u hSw => (by have c0 := hSw.1.cell 0; have c1 := hSw.1.cell 1; have c2 := hSw.1.cell 2; go_simp)⟩) hS ?_
            change wpAnyH _ _ _ _ _ _ _ (Act.put _ (some 25) _) _
            simp only [Act.put]
            refine wpAnyH_ready (rs := [1, 4, 5]) (by kernel_rfl) (by simp) ?_
            refine AllReadyH.cons rfl (fun K hK => ?_) (AllReadyH.cons rfl (fun K hK => ?_) (AllReadyH.cons rfl (fun K hK => ?_) (AllReadyH.nil)))
            · skip
              go_simp
              refine (HSh.out _ GB).mono ?_
              rintro e w1 ⟨B1, m1, d1, B2, m2, d2, B3, m3, d3, GX, rfl, q1, p1, r1, y1, y2, y3, y4, y5, h1⟩
              replace KB := KB.below h1 KB.lt
              have hA1 := SH.of q1 p1 r1 ⟨y1, y2, y3, y4, y5⟩
              replace GB := GB.trans (h1.mono GB.size)
              clear h1 q1 p1 r1 y1 y2 y3 y4 y5
              refine hK.out _ _ ⟨KB, GB⟩ (fun hS => ?_)
              clear hK K
              refine wpAnyH_ready (rs := [3, 4, 5]) (by kernel_rfl) (by simp) ?_
              refine AllReadyH.cons rfl (fun K hK => ?_) (AllReadyH.cons rfl (fun K hK => ?_) (AllReadyH.cons rfl (fun K hK => ?_) (AllReadyH.nil)))
              · skip
                go_simp
                refine (HSh.out _ GB).mono ?_
                rintro e w2 ⟨D1, k1, e1, D2, k2, e2, D3, k3, e3, GY, rfl, q2, p2, r2, y1, y2, y3, y4, y5, h2⟩
                replace KB := KB.below h2 KB.lt
                replace hA1 := hA1.below h2
                have hA2 := SH.of q2 p2 r2 ⟨y1, y2, y3, y4, y5⟩
                replace GB := GB.trans (h2.mono GB.size)
                clear h2 q2 p2 r2 y1 y2 y3 y4 y5
                refine hK.out _ _ ⟨KB, GB⟩ (fun hS => ?_)
                clear hK K
                refine wpAnyH_ready (rs := [4, 5]) (by kernel_rfl) (by simp) ?_
                refine AllReadyH.cons rfl (fun K hK => ?_) (AllReadyH.cons rfl (fun K hK => ?_) (AllReadyH.nil))
                · skip
                  go_simp
                  have F5 := Blk.new w2 30 #[.slice none 0 0, .slice none 0 0, .slice none 0 0]
                  have lk5 := KB.lt
                  have lb5 := GB.size
                  have x1_5 := SO.new hA1
                  have x2_5 := SO.new hA2
                  replace KB := KB.alloc (.cells #[.slice none 0 0, .slice none 0 0, .slice none 0 0] 30)
                  replace hA1 := hA1.below ((Below.refl _ _).alloc (Nat.le_refl _) (.cells #[.slice none 0 0, .slice none 0 0, .slice none 0 0] 30))
                  replace hA2 := hA2.below ((Below.refl _ _).alloc (Nat.le_refl _) (.cells #[.slice none 0 0, .slice none 0 0, .slice none 0 0] 30))
                  replace GB := GB.alloc GB.size (.cells #[.slice none 0 0, .slice none 0 0, .slice none 0 0] 30)
                  refine hK.out _ _ ⟨KB, GB⟩ (fun hS => ?_)
                  clear hK K
                  generalize w2.alloc (.cells #[.slice none 0 0, .slice none 0 0, .slice none 0 0] 30) = U3 at KB GB hS F5 hA1 hA2 ⊢
                  generalize w2.heap.size = g5 at F5 lk5 lb5 x1_5 x2_5 ⊢
                  refine wpAnyH_ready (rs := [5]) (by kernel_rfl) (by simp) ?_
                  refine AllReadyH.cons rfl (fun K hK => ?_) (AllReadyH.nil)
                  go_simp
                  have F6 := Blk.new U3 30 #[.slice none 0 0, .slice none 0 0, .slice none 0 0]
                  have lk6 := KB.lt
                  have lb6 := GB.size
                  have l56 := F5.lt
                  have x1_6 := SO.new hA1
                  have x2_6 := SO.new hA2
                  replace KB := KB.alloc (.cells #[.slice none 0 0, .slice none 0 0, .slice none 0 0] 30)
                  replace F5 := F5.alloc (.cells #[.slice none 0 0, .slice none 0 0, .slice none 0 0] 30)
                  replace hA1 := hA1.below ((Below.refl _ _).alloc (Nat.le_refl _) (.cells #[.slice none 0 0, .slice none 0 0, .slice none 0 0] 30))
                  replace hA2 := hA2.below ((Below.refl _ _).alloc (Nat.le_refl _) (.cells #[.slice none 0 0, .slice none 0 0, .slice none 0 0] 30))
                  replace GB := GB.alloc GB.size (.cells #[.slice none 0 0, .slice none 0 0, .slice none 0 0] 30)
                  refine hK.out _ _ ⟨KB, GB⟩ (fun hS => ?_)
                  clear hK K
                  generalize U3.alloc (.cells #[.slice none 0 0, .slice none 0 0, .slice none 0 0] 30) = U4 at KB GB hS F6 F5 hA1 hA2 ⊢
                  generalize U3.heap.size = g6 at F6 lk6 lb6 l56 x1_6 x2_6 ⊢
                  refine wpAnyH_ready (rs := [6]) (by kernel_rfl) (by simp) ?_
                  refine AllReadyH.cons rfl (fun K hK => ?_) (AllReadyH.nil)
                  have d0 := F5.cell 0
                  have d1' := F5.cell 1
                  have d2' := F5.cell 2
                  have f0 := F5.frozen 0
                  have f1 := F5.frozen 1
                  have f2 := F5.frozen 2
                  have KB2 := far3 (g := g5) KB (by omega) (.slice B1 m1 d1) (.slice B2 m2 d2) (.slice B3 m3 d3)
                  have HP := put3b (x := (.slice B1 m1 d1)) (y := (.slice B2 m2 d2)) (z := (.slice B3 m3 d3)) F5 GB (by omega)
                  have GB2 := HP.2
                  have G5 := HP.1
                  have G6 := far3 (g := g5) F6 (by omega) (.slice B1 m1 d1) (.slice B2 m2 d2) (.slice B3 m3 d3)
                  have hB1 := hA1.set3 x1_5 (.slice B1 m1 d1) (.slice B2 m2 d2) (.slice B3 m3 d3)
                  have hB2 := hA2.set3 x2_5 (.slice B1 m1 d1) (.slice B2 m2 d2) (.slice B3 m3 d3)
                  clear KB GB F5 F6 hA1 hA2 hS HP
                  go_simp
                  refine hK.out _ _ ⟨KB2, GB2⟩ (fun hS => ?_)
                  clear hK K d0 d1' d2' f0 f1 f2
                  generalize (((U4.setCell ⟨g5, 0, none⟩ (.slice B1 m1 d1)).setCell ⟨g5, 1, none⟩ (.slice B2 m2 d2)).setCell ⟨g5, 2, none⟩ (.slice B3 m3 d3)) = U5 at KB2 GB2 hS G5 G6 hB1 hB2 ⊢
                  have KB := KB2
                  have GB := GB2
                  have F5 := G5
                  have F6 := G6
                  have hA1 := hB1
                  have hA2 := hB2
                  clear KB2 GB2 G5 G6 hB1 hB2
                  refine wpAnyH_ready (rs := [7]) (by kernel_rfl) (by simp) ?_
                  refine AllReadyH.cons rfl (fun K hK => ?_) (AllReadyH.nil)
                  have d0 := F6.cell 0
                  have d1' := F6.cell 1
                  have d2' := F6.cell 2
                  have f0 := F6.frozen 0
                  have f1 := F6.frozen 1
                  have f2 := F6.frozen 2
                  have KB2 := far3 (g := g6) KB (by omega) (.slice D1 k1 e1) (.slice D2 k2 e2) (.slice D3 k3 e3)
                  have HP := put3b (x := (.slice D1 k1 e1)) (y := (.slice D2 k2 e2)) (z := (.slice D3 k3 e3)) F6 GB (by omega)
                  have GB2 := HP.2
                  have G6 := HP.1
                  have G5 := far3 (g := g6) F5 (by omega) (.slice D1 k1 e1) (.slice D2 k2 e2) (.slice D3 k3 e3)
                  have hB1 := hA1.set3 x1_6 (.slice D1 k1 e1) (.slice D2 k2 e2) (.slice D3 k3 e3)
                  have hB2 := hA2.set3 x2_6 (.slice D1 k1 e1) (.slice D2 k2 e2) (.slice D3 k3 e3)
                  clear KB GB F6 F5 hA1 hA2 hS HP
                  go_simp
                  refine hK.out _ _ ⟨KB2, GB2⟩ (fun hS => ?_)
                  clear hK K d0 d1' d2' f0 f1 f2
                  generalize (((U5.setCell ⟨g6, 0, none⟩ (.slice D1 k1 e1)).setCell ⟨g6, 1, none⟩ (.slice D2 k2 e2)).setCell ⟨g6, 2, none⟩ (.slice D3 k3 e3)) = U6 at KB2 GB2 hS G5 G6 hB1 hB2 ⊢
                  have KB := KB2
                  have GB := GB2
                  have F5 := G5
                  have F6 := G6
                  have hA1 := hB1
                  have hA2 := hB2
                  clear KB2 GB2 G5 G6 hB1 hB2
                  refine wpAnyH_done (by kernel_rfl) ?_ _
                  go_wp2_with fail
                  go_meet
                  exact ⟨g5, g6, B1, m1, d1, B2, m2, d2, B3, m3, d3, GX, D1, k1, e1, D2, k2, e2, D3, k3, e3, GY, rfl, rfl, F5, F6, hA1, hA2, GB⟩
                · skip
                  go_simp
                  have F6 := Blk.new w2 30 #[.slice none 0 0, .slice none 0 0, .slice none 0 0]
                  have lk6 := KB.lt
                  have lb6 := GB.size
                  have x1_6 := SO.new hA1
                  have x2_6 := SO.new hA2
                  replace KB := KB.alloc (.cells #[.slice none 0 0, .slice none 0 0, .slice none 0 0] 30)
                  replace hA1 := hA1.below ((Below.refl _ _).alloc (Nat.le_refl _) (.cells #[.slice none 0 0, .slice none 0 0, .slice none 0 0] 30))
                  replace hA2 := hA2.below ((Below.refl _ _).alloc (Nat.le_refl _) (.cells #[.slice none 0 0, .slice none 0 0, .slice none 0 0] 30))
                  replace GB := GB.alloc GB.size (.cells #[.slice none 0 0, .slice none 0 0, .slice none 0 0] 30)
                  refine hK.out _ _ ⟨KB, GB⟩ (fun hS => ?_)
                  clear hK K
                  generalize w2.alloc (.cells #[.slice none 0 0, .slice none 0 0, .slice none 0 0] 30) = U7 at KB GB hS F6 hA1 hA2 ⊢
                  generalize w2.heap.size = g6 at F6 lk6 lb6 x1_6 x2_6 ⊢
                  refine wpAnyH_ready (rs := [4]) (by kernel_rfl) (by simp) ?_
                  refine AllReadyH.cons rfl (fun K hK => ?_) (AllReadyH.nil)
                  go_simp
                  have F5 := Blk.new U7 30 #[.slice none 0 0, .slice none 0 0, .slice none 0 0]
                  have lk5 := KB.lt
                  have lb5 := GB.size
                  have l65 := F6.lt
                  have x1_5 := SO.new hA1
                  have x2_5 := SO.new hA2
                  replace KB := KB.alloc (.cells #[.slice none 0 0, .slice none 0 0, .slice none 0 0] 30)
                  replace F6 := F6.alloc (.cells #[.slice none 0 0, .slice none 0 0, .slice none 0 0] 30)
                  replace hA1 := hA1.below ((Below.refl _ _).alloc (Nat.le_refl _) (.cells #[.slice none 0 0, .slice none 0 0, .slice none 0 0] 30))
                  replace hA2 := hA2.below ((Below.refl _ _).alloc (Nat.le_refl _) (.cells #[.slice none 0 0, .slice none 0 0, .slice none 0 0] 30))
                  replace GB := GB.alloc GB.size (.cells #[.slice none 0 0, .slice none 0 0, .slice none 0 0] 30)
                  refine hK.out _ _ ⟨KB, GB⟩ (fun hS => ?_)
                  clear hK K
                  generalize U7.alloc (.cells #[.slice none 0 0, .slice none 0 0, .slice none 0 0] 30) = U8 at KB GB hS F5 F6 hA1 hA2 ⊢
                  generalize U7.heap.size = g5 at F5 lk5 lb5 l65 x1_5 x2_5 ⊢
                  refine wpAnyH_ready (rs := [6]) (by kernel_rfl) (by simp) ?_
                  refine AllReadyH.cons rfl (fun K hK => ?_) (AllReadyH.nil)
                  have d0 := F5.cell 0
                  have d1' := F5.cell 1
                  have d2' := F5.cell 2
                  have f0 := F5.frozen 0
                  have f1 := F5.frozen 1
                  have f2 := F5.frozen 2
                  have KB2 := far3 (g := g5) KB (by omega) (.slice B1 m1 d1) (.slice B2 m2 d2) (.slice B3 m3 d3)
                  have HP := put3b (x := (.slice B1 m1 d1)) (y := (.slice B2 m2 d2)) (z := (.slice B3 m3 d3)) F5 GB (by omega)
                  have GB2 := HP.2
                  have G5 := HP.1
                  have G6 := far3 (g := g5) F6 (by omega) (.slice B1 m1 d1) (.slice B2 m2 d2) (.slice B3 m3 d3)
                  have hB1 := hA1.set3 x1_5 (.slice B1 m1 d1) (.slice B2 m2 d2) (.slice B3 m3 d3)
                  have hB2 := hA2.set3 x2_5 (.slice B1 m1 d1) (.slice B2 m2 d2) (.slice B3 m3 d3)
                  clear KB GB F5 F6 hA1 hA2 hS HP
                  go_simp
                  refine hK.out _ _ ⟨KB2, GB2⟩ (fun hS => ?_)
                  clear hK K d0 d1' d2' f0 f1 f2
                  generalize (((U8.setCell ⟨g5, 0, none⟩ (.slice B1 m1 d1)).setCell ⟨g5, 1, none⟩ (.slice B2 m2 d2)).setCell ⟨g5, 2, none⟩ (.slice B3 m3 d3)) = U9 at KB2 GB2 hS G5 G6 hB1 hB2 ⊢
                  have KB := KB2
                  have GB := GB2
                  have F5 := G5
                  have F6 := G6
                  have hA1 := hB1
                  have hA2 := hB2
                  clear KB2 GB2 G5 G6 hB1 hB2
                  refine wpAnyH_ready (rs := [7]) (by kernel_rfl) (by simp) ?_
                  refine AllReadyH.cons rfl (fun K hK => ?_) (AllReadyH.nil)
                  have d0 := F6.cell 0
                  have d1' := F6.cell 1
                  have d2' := F6.cell 2
                  have f0 := F6.frozen 0
                  have f1 := F6.frozen 1
                  have f2 := F6.frozen 2
                  have KB2 := far3 (g := g6) KB (by omega) (.slice D1 k1 e1) (.slice D2 k2 e2) (.slice D3 k3 e3)
                  have HP := put3b (x := (.slice D1 k1 e1)) (y := (.slice D2 k2 e2)) (z := (.slice D3 k3 e3)) F6 GB (by omega)
                  have GB2 := HP.2
                  have G6 := HP.1
                  have G5 := far3 (g := g6) F5 (by omega) (.slice D1 k1 e1) (.slice D2 k2 e2) (.slice D3 k3 e3)
                  have hB1 := hA1.set3 x1_6 (.slice D1 k1 e1) (.slice D2 k2 e2) (.slice D3 k3 e3)
                  have hB2 := hA2.set3 x2_6 (.slice D1 k1 e1) (.slice D2 k2 e2) (.slice D3 k3 e3)
                  clear KB GB F6 F5 hA1 hA2 hS HP
                  go_simp
                  refine hK.out _ _ ⟨KB2, GB2⟩ (fun hS => ?_)
                  clear hK K d0 d1' d2' f0 f1 f2
                  generalize (((U9.setCell ⟨g6, 0, none⟩ (.slice D1 k1 e1)).setCell ⟨g6, 1, none⟩ (.slice D2 k2 e2)).setCell ⟨g6, 2, none⟩ (.slice D3 k3 e3)) = U10 at KB2 GB2 hS G5 G6 hB1 hB2 ⊢
                  have KB := KB2
                  have GB := GB2
                  have F5 := G5
                  have F6 := G6
                  have hA1 := hB1
                  have hA2 := hB2
                  clear KB2 GB2 G5 G6 hB1 hB2
                  refine wpAnyH_done (by kernel_rfl) ?_ _
                  go_wp2_with fail
                  go_meet
                  exact ⟨g5, g6, B1, m1, d1, B2, m2, d2, B3, m3, d3, GX, D1, k1, e1, D2, k2, e2, D3, k3, e3, GY, rfl, rfl, F5, F6, hA1, hA2, GB⟩
              · skip
                go_simp
                have F5 := Blk.new w1 30 #[.slice none 0 0, .slice none 0 0, .slice none 0 0]
                have lk5 := KB.lt
                have lb5 := GB.size
                have x1_5 := SO.new hA1
                replace KB := KB.alloc (.cells #[.slice none 0 0, .slice none 0 0, .slice none 0 0] 30)
                replace hA1 := hA1.below ((Below.refl _ _).alloc (Nat.le_refl _) (.cells #[.slice none 0 0, .slice none 0 0, .slice none 0 0] 30))
                replace GB := GB.alloc GB.size (.cells #[.slice none 0 0, .slice none 0 0, .slice none 0 0] 30)
                refine hK.out _ _ ⟨KB, GB⟩ (fun hS => ?_)
                clear hK K
                generalize w1.alloc (.cells #[.slice none 0 0, .slice none 0 0, .slice none 0 0] 30) = U11 at KB GB hS F5 hA1 ⊢
                generalize w1.heap.size = g5 at F5 lk5 lb5 x1_5 ⊢
                refine wpAnyH_ready (rs := [3, 5]) (by kernel_rfl) (by simp) ?_
                refine AllReadyH.cons rfl (fun K hK => ?_) (AllReadyH.cons rfl (fun K hK => ?_) (AllReadyH.nil))
                · skip
                  go_simp
                  refine (HSh.out _ GB).mono ?_
                  rintro e w12 ⟨D1, k1, e1, D2, k2, e2, D3, k3, e3, GY, rfl, q12, p12, r12, y1, y2, y3, y4, y5, h12⟩
                  have x2_5 := SO.old q12 p12 r12 F5.lt
                  replace KB := KB.below h12 KB.lt
                  replace F5 := F5.below h12 F5.lt
                  replace hA1 := hA1.below h12
                  have hA2 := SH.of q12 p12 r12 ⟨y1, y2, y3, y4, y5⟩
                  replace GB := GB.trans (h12.mono GB.size)
                  clear h12 q12 p12 r12 y1 y2 y3 y4 y5
                  refine hK.out _ _ ⟨KB, GB⟩ (fun hS => ?_)
                  clear hK K
                  refine wpAnyH_ready (rs := [5]) (by kernel_rfl) (by simp) ?_
                  refine AllReadyH.cons rfl (fun K hK => ?_) (AllReadyH.nil)
                  go_simp
                  have F6 := Blk.new w12 30 #[.slice none 0 0, .slice none 0 0, .slice none 0 0]
                  have lk6 := KB.lt
                  have lb6 := GB.size
                  have l56 := F5.lt
                  have x1_6 := SO.new hA1
                  have x2_6 := SO.new hA2
                  replace KB := KB.alloc (.cells #[.slice none 0 0, .slice none 0 0, .slice none 0 0] 30)
                  replace F5 := F5.alloc (.cells #[.slice none 0 0, .slice none 0 0, .slice none 0 0] 30)
                  replace hA1 := hA1.below ((Below.refl _ _).alloc (Nat.le_refl _) (.cells #[.slice none 0 0, .slice none 0 0, .slice none 0 0] 30))
                  replace hA2 := hA2.below ((Below.refl _ _).alloc (Nat.le_refl _) (.cells #[.slice none 0 0, .slice none 0 0, .slice none 0 0] 30))
                  replace GB := GB.alloc GB.size (.cells #[.slice none 0 0, .slice none 0 0, .slice none 0 0] 30)
                  refine hK.out _ _ ⟨KB, GB⟩ (fun hS => ?_)
                  clear hK K
                  generalize w12.alloc (.cells #[.slice none 0 0, .slice none 0 0, .slice none 0 0] 30) = U13 at KB GB hS F6 F5 hA1 hA2 ⊢
                  generalize w12.heap.size = g6 at F6 lk6 lb6 l56 x1_6 x2_6 ⊢
                  refine wpAnyH_ready (rs := [6]) (by kernel_rfl) (by simp) ?_
                  refine AllReadyH.cons rfl (fun K hK => ?_) (AllReadyH.nil)
                  have d0 := F5.cell 0
                  have d1' := F5.cell 1
                  have d2' := F5.cell 2
                  have f0 := F5.frozen 0
                  have f1 := F5.frozen 1
                  have f2 := F5.frozen 2
                  have KB2 := far3 (g := g5) KB (by omega) (.slice B1 m1 d1) (.slice B2 m2 d2) (.slice B3 m3 d3)
                  have HP := put3b (x := (.slice B1 m1 d1)) (y := (.slice B2 m2 d2)) (z := (.slice B3 m3 d3)) F5 GB (by omega)
                  have GB2 := HP.2
                  have G5 := HP.1
                  have G6 := far3 (g := g5) F6 (by omega) (.slice B1 m1 d1) (.slice B2 m2 d2) (.slice B3 m3 d3)
                  have hB1 := hA1.set3 x1_5 (.slice B1 m1 d1) (.slice B2 m2 d2) (.slice B3 m3 d3)
                  have hB2 := hA2.set3 x2_5 (.slice B1 m1 d1) (.slice B2 m2 d2) (.slice B3 m3 d3)
                  clear KB GB F5 F6 hA1 hA2 hS HP
                  go_simp
                  refine hK.out _ _ ⟨KB2, GB2⟩ (fun hS => ?_)
                  clear hK K d0 d1' d2' f0 f1 f2
                  generalize (((U13.setCell ⟨g5, 0, none⟩ (.slice B1 m1 d1)).setCell ⟨g5, 1, none⟩ (.slice B2 m2 d2)).setCell ⟨g5, 2, none⟩ (.slice B3 m3 d3)) = U14 at KB2 GB2 hS G5 G6 hB1 hB2 ⊢
                  have KB := KB2
                  have GB := GB2
                  have F5 := G5
                  have F6 := G6
                  have hA1 := hB1
                  have hA2 := hB2
                  clear KB2 GB2 G5 G6 hB1 hB2
                  refine wpAnyH_ready (rs := [7]) (by kernel_rfl) (by simp) ?_
                  refine AllReadyH.cons rfl (fun K hK => ?_) (AllReadyH.nil)
                  have d0 := F6.cell 0
                  have d1' := F6.cell 1
                  have d2' := F6.cell 2
                  have f0 := F6.frozen 0
                  have f1 := F6.frozen 1
                  have f2 := F6.frozen 2
                  have KB2 := far3 (g := g6) KB (by omega) (.slice D1 k1 e1) (.slice D2 k2 e2) (.slice D3 k3 e3)
                  have HP := put3b (x := (.slice D1 k1 e1)) (y := (.slice D2 k2 e2)) (z := (.slice D3 k3 e3)) F6 GB (by omega)
                  have GB2 := HP.2
                  have G6 := HP.1
                  have G5 := far3 (g := g6) F5 (by omega) (.slice D1 k1 e1) (.slice D2 k2 e2) (.slice D3 k3 e3)
                  have hB1 := hA1.set3 x1_6 (.slice D1 k1 e1) (.slice D2 k2 e2) (.slice D3 k3 e3)
                  have hB2 := hA2.set3 x2_6 (.slice D1 k1 e1) (.slice D2 k2 e2) (.slice D3 k3 e3)
                  clear KB GB F6 F5 hA1 hA2 hS HP
                  go_simp
                  refine hK.out _ _ ⟨KB2, GB2⟩ (fun hS => ?_)
                  clear hK K d0 d1' d2' f0 f1 f2
                  generalize (((U14.setCell ⟨g6, 0, none⟩ (.slice D1 k1 e1)).setCell ⟨g6, 1, none⟩ (.slice D2 k2 e2)).setCell ⟨g6, 2, none⟩ (.slice D3 k3 e3)) = U15 at KB2 GB2 hS G5 G6 hB1 hB2 ⊢
                  have KB := KB2
                  have GB := GB2
                  have F5 := G5
                  have F6 := G6
                  have hA1 := hB1
                  have hA2 := hB2
                  clear KB2 GB2 G5 G6 hB1 hB2
                  refine wpAnyH_done (by kernel_rfl) ?_ _
                  go_wp2_with fail
                  go_meet
                  exact ⟨g5, g6, B1, m1, d1, B2, m2, d2, B3, m3, d3, GX, D1, k1, e1, D2, k2, e2, D3, k3, e3, GY, rfl, rfl, F5, F6, hA1, hA2, GB⟩
                · skip
                  go_simp
                  have F6 := Blk.new U11 30 #[.slice none 0 0, .slice none 0 0, .slice none 0 0]
                  have lk6 := KB.lt
                  have lb6 := GB.size
                  have l56 := F5.lt
                  have x1_6 := SO.new hA1
                  replace KB := KB.alloc (.cells #[.slice none 0 0, .slice none 0 0, .slice none 0 0] 30)
                  replace F5 := F5.alloc (.cells #[.slice none 0 0, .slice none 0 0, .slice none 0 0] 30)
                  replace hA1 := hA1.below ((Below.refl _ _).alloc (Nat.le_refl _) (.cells #[.slice none 0 0, .slice none 0 0, .slice none 0 0] 30))
                  replace GB := GB.alloc GB.size (.cells #[.slice none 0 0, .slice none 0 0, .slice none 0 0] 30)
                  refine hK.out _ _ ⟨KB, GB⟩ (fun hS => ?_)
                  clear hK K
                  generalize U11.alloc (.cells #[.slice none 0 0, .slice none 0 0, .slice none 0 0] 30) = U16 at KB GB hS F6 F5 hA1 ⊢
                  generalize U11.heap.size = g6 at F6 lk6 lb6 l56 x1_6 ⊢
                  refine wpAnyH_ready (rs := [3]) (by kernel_rfl) (by simp) ?_
                  refine AllReadyH.cons rfl (fun K hK => ?_) (AllReadyH.nil)
                  go_simp
                  refine (HSh.out _ GB).mono ?_
                  rintro e w17 ⟨D1, k1, e1, D2, k2, e2, D3, k3, e3, GY, rfl, q17, p17, r17, y1, y2, y3, y4, y5, h17⟩
                  have x2_5 := SO.old q17 p17 r17 F5.lt
                  have x2_6 := SO.old q17 p17 r17 F6.lt
                  replace KB := KB.below h17 KB.lt
                  replace F5 := F5.below h17 F5.lt
                  replace F6 := F6.below h17 F6.lt
                  replace hA1 := hA1.below h17
                  have hA2 := SH.of q17 p17 r17 ⟨y1, y2, y3, y4, y5⟩
                  replace GB := GB.trans (h17.mono GB.size)
                  clear h17 q17 p17 r17 y1 y2 y3 y4 y5
                  refine hK.out _ _ ⟨KB, GB⟩ (fun hS => ?_)
                  clear hK K
                  refine wpAnyH_ready (rs := [6]) (by kernel_rfl) (by simp) ?_
                  refine AllReadyH.cons rfl (fun K hK => ?_) (AllReadyH.nil)
                  have d0 := F5.cell 0
                  have d1' := F5.cell 1
                  have d2' := F5.cell 2
                  have f0 := F5.frozen 0
                  have f1 := F5.frozen 1
                  have f2 := F5.frozen 2
                  have KB2 := far3 (g := g5) KB (by omega) (.slice B1 m1 d1) (.slice B2 m2 d2) (.slice B3 m3 d3)
                  have HP := put3b (x := (.slice B1 m1 d1)) (y := (.slice B2 m2 d2)) (z := (.slice B3 m3 d3)) F5 GB (by omega)
                  have GB2 := HP.2
                  have G5 := HP.1
                  have G6 := far3 (g := g5) F6 (by omega) (.slice B1 m1 d1) (.slice B2 m2 d2) (.slice B3 m3 d3)
                  have hB1 := hA1.set3 x1_5 (.slice B1 m1 d1) (.slice B2 m2 d2) (.slice B3 m3 d3)
                  have hB2 := hA2.set3 x2_5 (.slice B1 m1 d1) (.slice B2 m2 d2) (.slice B3 m3 d3)
                  clear KB GB F5 F6 hA1 hA2 hS HP
                  go_simp
                  refine hK.out _ _ ⟨KB2, GB2⟩ (fun hS => ?_)
                  clear hK K d0 d1' d2' f0 f1 f2
                  generalize (((w17.setCell ⟨g5, 0, none⟩ (.slice B1 m1 d1)).setCell ⟨g5, 1, none⟩ (.slice B2 m2 d2)).setCell ⟨g5, 2, none⟩ (.slice B3 m3 d3)) = U18 at KB2 GB2 hS G5 G6 hB1 hB2 ⊢
                  have KB := KB2
                  have GB := GB2
                  have F5 := G5
                  have F6 := G6
                  have hA1 := hB1
                  have hA2 := hB2
                  clear KB2 GB2 G5 G6 hB1 hB2
                  refine wpAnyH_ready (rs := [7]) (by kernel_rfl) (by simp) ?_
                  refine AllReadyH.cons rfl (fun K hK => ?_) (AllReadyH.nil)
                  have d0 := F6.cell 0
                  have d1' := F6.cell 1
                  have d2' := F6.cell 2
                  have f0 := F6.frozen 0
                  have f1 := F6.frozen 1
                  have f2 := F6.frozen 2
                  have KB2 := far3 (g := g6) KB (by omega) (.slice D1 k1 e1) (.slice D2 k2 e2) (.slice D3 k3 e3)
                  have HP := put3b (x := (.slice D1 k1 e1)) (y := (.slice D2 k2 e2)) (z := (.slice D3 k3 e3)) F6 GB (by omega)
                  have GB2 := HP.2
                  have G6 := HP.1
                  have G5 := far3 (g := g6) F5 (by omega) (.slice D1 k1 e1) (.slice D2 k2 e2) (.slice D3 k3 e3)
                  have hB1 := hA1.set3 x1_6 (.slice D1 k1 e1) (.slice D2 k2 e2) (.slice D3 k3 e3)
                  have hB2 := hA2.set3 x2_6 (.slice D1 k1 e1) (.slice D2 k2 e2) (.slice D3 k3 e3)
                  clear KB GB F6 F5 hA1 hA2 hS HP
                  go_simp
                  refine hK.out _ _ ⟨KB2, GB2⟩ (fun hS => ?_)
                  clear hK K d0 d1' d2' f0 f1 f2
                  generalize (((U18.setCell ⟨g6, 0, none⟩ (.slice D1 k1 e1)).setCell ⟨g6, 1, none⟩ (.slice D2 k2 e2)).setCell ⟨g6, 2, none⟩ (.slice D3 k3 e3)) = U19 at KB2 GB2 hS G5 G6 hB1 hB2 ⊢
                  have KB := KB2
                  have GB := GB2
                  have F5 := G5
                  have F6 := G6
                  have hA1 := hB1
                  have hA2 := hB2
                  clear KB2 GB2 G5 G6 hB1 hB2
                  refine wpAnyH_done (by kernel_rfl) ?_ _
                  go_wp2_with fail
                  go_meet
                  exact ⟨g5, g6, B1, m1, d1, B2, m2, d2, B3, m3, d3, GX, D1, k1, e1, D2, k2, e2, D3, k3, e3, GY, rfl, rfl, F5, F6, hA1, hA2, GB⟩
              · skip
                go_simp
                have F6 := Blk.new w1 30 #[.slice none 0 0, .slice none 0 0, .slice none 0 0]
                have lk6 := KB.lt
                have lb6 := GB.size
                have x1_6 := SO.new hA1
                replace KB := KB.alloc (.cells #[.slice none 0 0, .slice none 0 0, .slice none 0 0] 30)
                replace hA1 := hA1.below ((Below.refl _ _).alloc (Nat.le_refl _) (.cells #[.slice none 0 0, .slice none 0 0, .slice none 0 0] 30))
                replace GB := GB.alloc GB.size (.cells #[.slice none 0 0, .slice none 0 0, .slice none 0 0] 30)
                refine hK.out _ _ ⟨KB, GB⟩ (fun hS => ?_)
                clear hK K
                generalize w1.alloc (.cells #[.slice none 0 0, .slice none 0 0, .slice none 0 0] 30) = U20 at KB GB hS F6 hA1 ⊢
                generalize w1.heap.size = g6 at F6 lk6 lb6 x1_6 ⊢
                refine wpAnyH_ready (rs := [3, 4]) (by kernel_rfl) (by simp) ?_
                refine AllReadyH.cons rfl (fun K hK => ?_) (AllReadyH.cons rfl (fun K hK => ?_) (AllReadyH.nil))
                · skip
                  go_simp
                  refine (HSh.out _ GB).mono ?_
                  rintro e w21 ⟨D1, k1, e1, D2, k2, e2, D3, k3, e3, GY, rfl, q21, p21, r21, y1, y2, y3, y4, y5, h21⟩
                  have x2_6 := SO.old q21 p21 r21 F6.lt
                  replace KB := KB.below h21 KB.lt
                  replace F6 := F6.below h21 F6.lt
                  replace hA1 := hA1.below h21
                  have hA2 := SH.of q21 p21 r21 ⟨y1, y2, y3, y4, y5⟩
                  replace GB := GB.trans (h21.mono GB.size)
                  clear h21 q21 p21 r21 y1 y2 y3 y4 y5
                  refine hK.out _ _ ⟨KB, GB⟩ (fun hS => ?_)
                  clear hK K
                  refine wpAnyH_ready (rs := [4]) (by kernel_rfl) (by simp) ?_
                  refine AllReadyH.cons rfl (fun K hK => ?_) (AllReadyH.nil)
                  go_simp
                  have F5 := Blk.new w21 30 #[.slice none 0 0, .slice none 0 0, .slice none 0 0]
                  have lk5 := KB.lt
                  have lb5 := GB.size
                  have l65 := F6.lt
                  have x1_5 := SO.new hA1
                  have x2_5 := SO.new hA2
                  replace KB := KB.alloc (.cells #[.slice none 0 0, .slice none 0 0, .slice none 0 0] 30)
                  replace F6 := F6.alloc (.cells #[.slice none 0 0, .slice none 0 0, .slice none 0 0] 30)
                  replace hA1 := hA1.below ((Below.refl _ _).alloc (Nat.le_refl _) (.cells #[.slice none 0 0, .slice none 0 0, .slice none 0 0] 30))
                  replace hA2 := hA2.below ((Below.refl _ _).alloc (Nat.le_refl _) (.cells #[.slice none 0 0, .slice none 0 0, .slice none 0 0] 30))
                  replace GB := GB.alloc GB.size (.cells #[.slice none 0 0, .slice none 0 0, .slice none 0 0] 30)
                  refine hK.out _ _ ⟨KB, GB⟩ (fun hS => ?_)
                  clear hK K
                  generalize w21.alloc (.cells #[.slice none 0 0, .slice none 0 0, .slice none 0 0] 30) = U22 at KB GB hS F5 F6 hA1 hA2 ⊢
                  generalize w21.heap.size = g5 at F5 lk5 lb5 l65 x1_5 x2_5 ⊢
                  refine wpAnyH_ready (rs := [6]) (by kernel_rfl) (by simp) ?_
                  refine AllReadyH.cons rfl (fun K hK => ?_) (AllReadyH.nil)
                  have d0 := F5.cell 0
                  have d1' := F5.cell 1
                  have d2' := F5.cell 2
                  have f0 := F5.frozen 0
                  have f1 := F5.frozen 1
                  have f2 := F5.frozen 2
                  have KB2 := far3 (g := g5) KB (by omega) (.slice B1 m1 d1) (.slice B2 m2 d2) (.slice B3 m3 d3)
                  have HP := put3b (x := (.slice B1 m1 d1)) (y := (.slice B2 m2 d2)) (z := (.slice B3 m3 d3)) F5 GB (by omega)
                  have GB2 := HP.2
                  have G5 := HP.1
                  have G6 := far3 (g := g5) F6 (by omega) (.slice B1 m1 d1) (.slice B2 m2 d2) (.slice B3 m3 d3)
                  have hB1 := hA1.set3 x1_5 (.slice B1 m1 d1) (.slice B2 m2 d2) (.slice B3 m3 d3)
                  have hB2 := hA2.set3 x2_5 (.slice B1 m1 d1) (.slice B2 m2 d2) (.slice B3 m3 d3)
                  clear KB GB F5 F6 hA1 hA2 hS HP
                  go_simp
                  refine hK.out _ _ ⟨KB2, GB2⟩ (fun hS => ?_)
                  clear hK K d0 d1' d2' f0 f1 f2
                  generalize (((U22.setCell ⟨g5, 0, none⟩ (.slice B1 m1 d1)).setCell ⟨g5, 1, none⟩ (.slice B2 m2 d2)).setCell ⟨g5, 2, none⟩ (.slice B3 m3 d3)) = U23 at KB2 GB2 hS G5 G6 hB1 hB2 ⊢
                  have KB := KB2
                  have GB := GB2
                  have F5 := G5
                  have F6 := G6
                  have hA1 := hB1
                  have hA2 := hB2
                  clear KB2 GB2 G5 G6 hB1 hB2
                  refine wpAnyH_ready (rs := [7]) (by kernel_rfl) (by simp) ?_
                  refine AllReadyH.cons rfl (fun K hK => ?_) (AllReadyH.nil)
                  have d0 := F6.cell 0
                  have d1' := F6.cell 1
                  have d2' := F6.cell 2
                  have f0 := F6.frozen 0
                  have f1 := F6.frozen 1
                  have f2 := F6.frozen 2
                  have KB2 := far3 (g := g6) KB (by omega) (.slice D1 k1 e1) (.slice D2 k2 e2) (.slice D3 k3 e3)
                  have HP := put3b (x := (.slice D1 k1 e1)) (y := (.slice D2 k2 e2)) (z := (.slice D3 k3 e3)) F6 GB (by omega)
                  have GB2 := HP.2
                  have G6 := HP.1
                  have G5 := far3 (g := g6) F5 (by omega) (.slice D1 k1 e1) (.slice D2 k2 e2) (.slice D3 k3 e3)
                  have hB1 := hA1.set3 x1_6 (.slice D1 k1 e1) (.slice D2 k2 e2) (.slice D3 k3 e3)
                  have hB2 := hA2.set3 x2_6 (.slice D1 k1 e1) (.slice D2 k2 e2) (.slice D3 k3 e3)
                  clear KB GB F6 F5 hA1 hA2 hS HP
                  go_simp
                  refine hK.out _ _ ⟨KB2, GB2⟩ (fun hS => ?_)
                  clear hK K d0 d1' d2' f0 f1 f2
                  generalize (((U23.setCell ⟨g6, 0, none⟩ (.slice D1 k1 e1)).setCell ⟨g6, 1, none⟩ (.slice D2 k2 e2)).setCell ⟨g6, 2, none⟩ (.slice D3 k3 e3)) = U24 at KB2 GB2 hS G5 G6 hB1 hB2 ⊢
                  have KB := KB2
                  have GB := GB2
                  have F5 := G5
                  have F6 := G6
                  have hA1 := hB1
                  have hA2 := hB2
                  clear KB2 GB2 G5 G6 hB1 hB2
                  refine wpAnyH_done (by kernel_rfl) ?_ _
                  go_wp2_with fail
                  go_meet
                  exact ⟨g5, g6, B1, m1, d1, B2, m2, d2, B3, m3, d3, GX, D1, k1, e1, D2, k2, e2, D3, k3, e3, GY, rfl, rfl, F5, F6, hA1, hA2, GB⟩
                · skip
                  go_simp
                  have F5 := Blk.new U20 30 #[.slice none 0 0, .slice none 0 0, .slice none 0 0]
                  have lk5 := KB.lt
                  have lb5 := GB.size
                  have l65 := F6.lt
                  have x1_5 := SO.new hA1
                  replace KB := KB.alloc (.cells #[.slice none 0 0, .slice none 0 0, .slice none 0 0] 30)
                  replace F6 := F6.alloc (.cells #[.slice none 0 0, .slice none 0 0, .slice none 0 0] 30)
                  replace hA1 := hA1.below ((Below.refl _ _).alloc (Nat.le_refl _) (.cells #[.slice none 0 0, .slice none 0 0, .slice none 0 0] 30))
                  replace GB := GB.alloc GB.size (.cells #[.slice none 0 0, .slice none 0 0, .slice none 0 0] 30)
                  refine hK.out _ _ ⟨KB, GB⟩ (fun hS => ?_)
                  clear hK K
                  generalize U20.alloc (.cells #[.slice none 0 0, .slice none 0 0, .slice none 0 0] 30) = U25 at KB GB hS F5 F6 hA1 ⊢
                  generalize U20.heap.size = g5 at F5 lk5 lb5 l65 x1_5 ⊢
                  refine wpAnyH_ready (rs := [3]) (by kernel_rfl) (by simp) ?_
                  refine AllReadyH.cons rfl (fun K hK => ?_) (AllReadyH.nil)
                  go_simp
                  refine (HSh.out _ GB).mono ?_
                  rintro e w26 ⟨D1, k1, e1, D2, k2, e2, D3, k3, e3, GY, rfl, q26, p26, r26, y1, y2, y3, y4, y5, h26⟩
                  have x2_5 := SO.old q26 p26 r26 F5.lt
                  have x2_6 := SO.old q26 p26 r26 F6.lt
                  replace KB := KB.below h26 KB.lt
                  replace F5 := F5.below h26 F5.lt
                  replace F6 := F6.below h26 F6.lt
                  replace hA1 := hA1.below h26
                  have hA2 := SH.of q26 p26 r26 ⟨y1, y2, y3, y4, y5⟩
                  replace GB := GB.trans (h26.mono GB.size)
                  clear h26 q26 p26 r26 y1 y2 y3 y4 y5
                  refine hK.out _ _ ⟨KB, GB⟩ (fun hS => ?_)
                  clear hK K
                  refine wpAnyH_ready (rs := [6]) (by kernel_rfl) (by simp) ?_
                  refine AllReadyH.cons rfl (fun K hK => ?_) (AllReadyH.nil)
                  have d0 := F5.cell 0
                  have d1' := F5.cell 1
                  have d2' := F5.cell 2
                  have f0 := F5.frozen 0
                  have f1 := F5.frozen 1
                  have f2 := F5.frozen 2
                  have KB2 := far3 (g := g5) KB (by omega) (.slice B1 m1 d1) (.slice B2 m2 d2) (.slice B3 m3 d3)
                  have HP := put3b (x := (.slice B1 m1 d1)) (y := (.slice B2 m2 d2)) (z := (.slice B3 m3 d3)) F5 GB (by omega)
                  have GB2 := HP.2
                  have G5 := HP.1
                  have G6 := far3 (g := g5) F6 (by omega) (.slice B1 m1 d1) (.slice B2 m2 d2) (.slice B3 m3 d3)
                  have hB1 := hA1.set3 x1_5 (.slice B1 m1 d1) (.slice B2 m2 d2) (.slice B3 m3 d3)
                  have hB2 := hA2.set3 x2_5 (.slice B1 m1 d1) (.slice B2 m2 d2) (.slice B3 m3 d3)
                  clear KB GB F5 F6 hA1 hA2 hS HP
                  go_simp
                  refine hK.out _ _ ⟨KB2, GB2⟩ (fun hS => ?_)
                  clear hK K d0 d1' d2' f0 f1 f2
                  generalize (((w26.setCell ⟨g5, 0, none⟩ (.slice B1 m1 d1)).setCell ⟨g5, 1, none⟩ (.slice B2 m2 d2)).setCell ⟨g5, 2, none⟩ (.slice B3 m3 d3)) = U27 at KB2 GB2 hS G5 G6 hB1 hB2 ⊢
                  have KB := KB2
                  have GB := GB2
                  have F5 := G5
                  have F6 := G6
                  have hA1 := hB1
                  have hA2 := hB2
                  clear KB2 GB2 G5 G6 hB1 hB2
                  refine wpAnyH_ready (rs := [7]) (by kernel_rfl) (by simp) ?_
                  refine AllReadyH.cons rfl (fun K hK => ?_) (AllReadyH.nil)
                  have d0 := F6.cell 0
                  have d1' := F6.cell 1
                  have d2' := F6.cell 2
                  have f0 := F6.frozen 0
                  have f1 := F6.frozen 1
                  have f2 := F6.frozen 2
                  have KB2 := far3 (g := g6) KB (by omega) (.slice D1 k1 e1) (.slice D2 k2 e2) (.slice D3 k3 e3)
                  have HP := put3b (x := (.slice D1 k1 e1)) (y := (.slice D2 k2 e2)) (z := (.slice D3 k3 e3)) F6 GB (by omega)
                  have GB2 := HP.2
                  have G6 := HP.1
                  have G5 := far3 (g := g6) F5 (by omega) (.slice D1 k1 e1) (.slice D2 k2 e2) (.slice D3 k3 e3)
                  have hB1 := hA1.set3 x1_6 (.slice D1 k1 e1) (.slice D2 k2 e2) (.slice D3 k3 e3)
                  have hB2 := hA2.set3 x2_6 (.slice D1 k1 e1) (.slice D2 k2 e2) (.slice D3 k3 e3)
                  clear KB GB F6 F5 hA1 hA2 hS HP
                  go_simp
                  refine hK.out _ _ ⟨KB2, GB2⟩ (fun hS => ?_)
                  clear hK K d0 d1' d2' f0 f1 f2
                  generalize (((U27.setCell ⟨g6, 0, none⟩ (.slice D1 k1 e1)).setCell ⟨g6, 1, none⟩ (.slice D2 k2 e2)).setCell ⟨g6, 2, none⟩ (.slice D3 k3 e3)) = U28 at KB2 GB2 hS G5 G6 hB1 hB2 ⊢
                  have KB := KB2
                  have GB := GB2
                  have F5 := G5
                  have F6 := G6
                  have hA1 := hB1
                  have hA2 := hB2
                  clear KB2 GB2 G5 G6 hB1 hB2
                  refine wpAnyH_done (by kernel_rfl) ?_ _
                  go_wp2_with fail
                  go_meet
                  exact ⟨g5, g6, B1, m1, d1, B2, m2, d2, B3, m3, d3, GX, D1, k1, e1, D2, k2, e2, D3, k3, e3, GY, rfl, rfl, F5, F6, hA1, hA2, GB⟩
            · skip
              go_simp
              have F5 := Blk.new V 30 #[.slice none 0 0, .slice none 0 0, .slice none 0 0]
              have lk5 := KB.lt
              have lb5 := GB.size
              replace KB := KB.alloc (.cells #[.slice none 0 0, .slice none 0 0, .slice none 0 0] 30)
              replace GB := GB.alloc GB.size (.cells #[.slice none 0 0, .slice none 0 0, .slice none 0 0] 30)
              refine hK.out _ _ ⟨KB, GB⟩ (fun hS => ?_)
              clear hK K
              generalize V.alloc (.cells #[.slice none 0 0, .slice none 0 0, .slice none 0 0] 30) = U29 at KB GB hS F5 ⊢
              generalize V.heap.size = g5 at F5 lk5 lb5  ⊢
              refine wpAnyH_ready (rs := [1, 5]) (by kernel_rfl) (by simp) ?_
              refine AllReadyH.cons rfl (fun K hK => ?_) (AllReadyH.cons rfl (fun K hK => ?_) (AllReadyH.nil))
              · skip
                go_simp
                refine (HSh.out _ GB).mono ?_
                rintro e w30 ⟨B1, m1, d1, B2, m2, d2, B3, m3, d3, GX, rfl, q30, p30, r30, y1, y2, y3, y4, y5, h30⟩
                have x1_5 := SO.old q30 p30 r30 F5.lt
                replace KB := KB.below h30 KB.lt
                replace F5 := F5.below h30 F5.lt
                have hA1 := SH.of q30 p30 r30 ⟨y1, y2, y3, y4, y5⟩
                replace GB := GB.trans (h30.mono GB.size)
                clear h30 q30 p30 r30 y1 y2 y3 y4 y5
                refine hK.out _ _ ⟨KB, GB⟩ (fun hS => ?_)
                clear hK K
                refine wpAnyH_ready (rs := [3, 5]) (by kernel_rfl) (by simp) ?_
                refine AllReadyH.cons rfl (fun K hK => ?_) (AllReadyH.cons rfl (fun K hK => ?_) (AllReadyH.nil))
                · skip
                  go_simp
                  refine (HSh.out _ GB).mono ?_
                  rintro e w31 ⟨D1, k1, e1, D2, k2, e2, D3, k3, e3, GY, rfl, q31, p31, r31, y1, y2, y3, y4, y5, h31⟩
                  have x2_5 := SO.old q31 p31 r31 F5.lt
                  replace KB := KB.below h31 KB.lt
                  replace F5 := F5.below h31 F5.lt
                  replace hA1 := hA1.below h31
                  have hA2 := SH.of q31 p31 r31 ⟨y1, y2, y3, y4, y5⟩
                  replace GB := GB.trans (h31.mono GB.size)
                  clear h31 q31 p31 r31 y1 y2 y3 y4 y5
                  refine hK.out _ _ ⟨KB, GB⟩ (fun hS => ?_)
                  clear hK K
                  refine wpAnyH_ready (rs := [5]) (by kernel_rfl) (by simp) ?_
                  refine AllReadyH.cons rfl (fun K hK => ?_) (AllReadyH.nil)
                  go_simp
                  have F6 := Blk.new w31 30 #[.slice none 0 0, .slice none 0 0, .slice none 0 0]
                  have lk6 := KB.lt
                  have lb6 := GB.size
                  have l56 := F5.lt
                  have x1_6 := SO.new hA1
                  have x2_6 := SO.new hA2
                  replace KB := KB.alloc (.cells #[.slice none 0 0, .slice none 0 0, .slice none 0 0] 30)
                  replace F5 := F5.alloc (.cells #[.slice none 0 0, .slice none 0 0, .slice none 0 0] 30)
                  replace hA1 := hA1.below ((Below.refl _ _).alloc (Nat.le_refl _) (.cells #[.slice none 0 0, .slice none 0 0, .slice none 0 0] 30))
                  replace hA2 := hA2.below ((Below.refl _ _).alloc (Nat.le_refl _) (.cells #[.slice none 0 0, .slice none 0 0, .slice none 0 0] 30))
                  replace GB := GB.alloc GB.size (.cells #[.slice none 0 0, .slice none 0 0, .slice none 0 0] 30)
                  refine hK.out _ _ ⟨KB, GB⟩ (fun hS => ?_)
                  clear hK K
                  generalize w31.alloc (.cells #[.slice none 0 0, .slice none 0 0, .slice none 0 0] 30) = U32 at KB GB hS F6 F5 hA1 hA2 ⊢
                  generalize w31.heap.size = g6 at F6 lk6 lb6 l56 x1_6 x2_6 ⊢
                  refine wpAnyH_ready (rs := [6]) (by kernel_rfl) (by simp) ?_
                  refine AllReadyH.cons rfl (fun K hK => ?_) (AllReadyH.nil)
                  have d0 := F5.cell 0
                  have d1' := F5.cell 1
                  have d2' := F5.cell 2
                  have f0 := F5.frozen 0
                  have f1 := F5.frozen 1
                  have f2 := F5.frozen 2
                  have KB2 := far3 (g := g5) KB (by omega) (.slice B1 m1 d1) (.slice B2 m2 d2) (.slice B3 m3 d3)
                  have HP := put3b (x := (.slice B1 m1 d1)) (y := (.slice B2 m2 d2)) (z := (.slice B3 m3 d3)) F5 GB (by omega)
                  have GB2 := HP.2
                  have G5 := HP.1
                  have G6 := far3 (g := g5) F6 (by omega) (.slice B1 m1 d1) (.slice B2 m2 d2) (.slice B3 m3 d3)
                  have hB1 := hA1.set3 x1_5 (.slice B1 m1 d1) (.slice B2 m2 d2) (.slice B3 m3 d3)
                  have hB2 := hA2.set3 x2_5 (.slice B1 m1 d1) (.slice B2 m2 d2) (.slice B3 m3 d3)
                  clear KB GB F5 F6 hA1 hA2 hS HP
                  go_simp
                  refine hK.out _ _ ⟨KB2, GB2⟩ (fun hS => ?_)
                  clear hK K d0 d1' d2' f0 f1 f2
                  generalize (((U32.setCell ⟨g5, 0, none⟩ (.slice B1 m1 d1)).setCell ⟨g5, 1, none⟩ (.slice B2 m2 d2)).setCell ⟨g5, 2, none⟩ (.slice B3 m3 d3)) = U33 at KB2 GB2 hS G5 G6 hB1 hB2 ⊢
                  have KB := KB2
                  have GB := GB2
                  have F5 := G5
                  have F6 := G6
                  have hA1 := hB1
                  have hA2 := hB2
                  clear KB2 GB2 G5 G6 hB1 hB2
                  refine wpAnyH_ready (rs := [7]) (by kernel_rfl) (by simp) ?_
                  refine AllReadyH.cons rfl (fun K hK => ?_) (AllReadyH.nil)
                  have d0 := F6.cell 0
                  have d1' := F6.cell 1
                  have d2' := F6.cell 2
                  have f0 := F6.frozen 0
                  have f1 := F6.frozen 1
                  have f2 := F6.frozen 2
                  have KB2 := far3 (g := g6) KB (by omega) (.slice D1 k1 e1) (.slice D2 k2 e2) (.slice D3 k3 e3)
                  have HP := put3b (x := (.slice D1 k1 e1)) (y := (.slice D2 k2 e2)) (z := (.slice D3 k3 e3)) F6 GB (by omega)
                  have GB2 := HP.2
                  have G6 := HP.1
                  have G5 := far3 (g := g6) F5 (by omega) (.slice D1 k1 e1) (.slice D2 k2 e2) (.slice D3 k3 e3)
                  have hB1 := hA1.set3 x1_6 (.slice D1 k1 e1) (.slice D2 k2 e2) (.slice D3 k3 e3)
                  have hB2 := hA2.set3 x2_6 (.slice D1 k1 e1) (.slice D2 k2 e2) (.slice D3 k3 e3)
                  clear KB GB F6 F5 hA1 hA2 hS HP
                  go_simp
                  refine hK.out _ _ ⟨KB2, GB2⟩ (fun hS => ?_)
                  clear hK K d0 d1' d2' f0 f1 f2
                  generalize (((U33.setCell ⟨g6, 0, none⟩ (.slice D1 k1 e1)).setCell ⟨g6, 1, none⟩ (.slice D2 k2 e2)).setCell ⟨g6, 2, none⟩ (.slice D3 k3 e3)) = U34 at KB2 GB2 hS G5 G6 hB1 hB2 ⊢
                  have KB := KB2
                  have GB := GB2
                  have F5 := G5
                  have F6 := G6
                  have hA1 := hB1
                  have hA2 := hB2
                  clear KB2 GB2 G5 G6 hB1 hB2
                  refine wpAnyH_done (by kernel_rfl) ?_ _
                  go_wp2_with fail
                  go_meet
                  exact ⟨g5, g6, B1, m1, d1, B2, m2, d2, B3, m3, d3, GX, D1, k1, e1, D2, k2, e2, D3, k3, e3, GY, rfl, rfl, F5, F6, hA1, hA2, GB⟩
                · skip
                  go_simp
                  have F6 := Blk.new w30 30 #[.slice none 0 0, .slice none 0 0, .slice none 0 0]
                  have lk6 := KB.lt
                  have lb6 := GB.size
                  have l56 := F5.lt
                  have x1_6 := SO.new hA1
                  replace KB := KB.alloc (.cells #[.slice none 0 0, .slice none 0 0, .slice none 0 0] 30)
                  replace F5 := F5.alloc (.cells #[.slice none 0 0, .slice none 0 0, .slice none 0 0] 30)
                  replace hA1 := hA1.below ((Below.refl _ _).alloc (Nat.le_refl _) (.cells #[.slice none 0 0, .slice none 0 0, .slice none 0 0] 30))
                  replace GB := GB.alloc GB.size (.cells #[.slice none 0 0, .slice none 0 0, .slice none 0 0] 30)
                  refine hK.out _ _ ⟨KB, GB⟩ (fun hS => ?_)
                  clear hK K
                  generalize w30.alloc (.cells #[.slice none 0 0, .slice none 0 0, .slice none 0 0] 30) = U35 at KB GB hS F6 F5 hA1 ⊢
                  generalize w30.heap.size = g6 at F6 lk6 lb6 l56 x1_6 ⊢
                  refine wpAnyH_ready (rs := [3]) (by kernel_rfl) (by simp) ?_
                  refine AllReadyH.cons rfl (fun K hK => ?_) (AllReadyH.nil)
                  go_simp
                  refine (HSh.out _ GB).mono ?_
                  rintro e w36 ⟨D1, k1, e1, D2, k2, e2, D3, k3, e3, GY, rfl, q36, p36, r36, y1, y2, y3, y4, y5, h36⟩
                  have x2_5 := SO.old q36 p36 r36 F5.lt
                  have x2_6 := SO.old q36 p36 r36 F6.lt
                  replace KB := KB.below h36 KB.lt
                  replace F5 := F5.below h36 F5.lt
                  replace F6 := F6.below h36 F6.lt
                  replace hA1 := hA1.below h36
                  have hA2 := SH.of q36 p36 r36 ⟨y1, y2, y3, y4, y5⟩
                  replace GB := GB.trans (h36.mono GB.size)
                  clear h36 q36 p36 r36 y1 y2 y3 y4 y5
                  refine hK.out _ _ ⟨KB, GB⟩ (fun hS => ?_)
                  clear hK K
                  refine wpAnyH_ready (rs := [6]) (by kernel_rfl) (by simp) ?_
                  refine AllReadyH.cons rfl (fun K hK => ?_) (AllReadyH.nil)
                  have d0 := F5.cell 0
                  have d1' := F5.cell 1
                  have d2' := F5.cell 2
                  have f0 := F5.frozen 0
                  have f1 := F5.frozen 1
                  have f2 := F5.frozen 2
                  have KB2 := far3 (g := g5) KB (by omega) (.slice B1 m1 d1) (.slice B2 m2 d2) (.slice B3 m3 d3)
                  have HP := put3b (x := (.slice B1 m1 d1)) (y := (.slice B2 m2 d2)) (z := (.slice B3 m3 d3)) F5 GB (by omega)
                  have GB2 := HP.2
                  have G5 := HP.1
                  have G6 := far3 (g := g5) F6 (by omega) (.slice B1 m1 d1) (.slice B2 m2 d2) (.slice B3 m3 d3)
                  have hB1 := hA1.set3 x1_5 (.slice B1 m1 d1) (.slice B2 m2 d2) (.slice B3 m3 d3)
                  have hB2 := hA2.set3 x2_5 (.slice B1 m1 d1) (.slice B2 m2 d2) (.slice B3 m3 d3)
                  clear KB GB F5 F6 hA1 hA2 hS HP
                  go_simp
                  refine hK.out _ _ ⟨KB2, GB2⟩ (fun hS => ?_)
                  clear hK K d0 d1' d2' f0 f1 f2
                  generalize (((w36.setCell ⟨g5, 0, none⟩ (.slice B1 m1 d1)).setCell ⟨g5, 1, none⟩ (.slice B2 m2 d2)).setCell ⟨g5, 2, none⟩ (.slice B3 m3 d3)) = U37 at KB2 GB2 hS G5 G6 hB1 hB2 ⊢
                  have KB := KB2
                  have GB := GB2
                  have F5 := G5
                  have F6 := G6
                  have hA1 := hB1
                  have hA2 := hB2
                  clear KB2 GB2 G5 G6 hB1 hB2
                  refine wpAnyH_ready (rs := [7]) (by kernel_rfl) (by simp) ?_
                  refine AllReadyH.cons rfl (fun K hK => ?_) (AllReadyH.nil)
                  have d0 := F6.cell 0
                  have d1' := F6.cell 1
                  have d2' := F6.cell 2
                  have f0 := F6.frozen 0
                  have f1 := F6.frozen 1
                  have f2 := F6.frozen 2
                  have KB2 := far3 (g := g6) KB (by omega) (.slice D1 k1 e1) (.slice D2 k2 e2) (.slice D3 k3 e3)
                  have HP := put3b (x := (.slice D1 k1 e1)) (y := (.slice D2 k2 e2)) (z := (.slice D3 k3 e3)) F6 GB (by omega)
                  have GB2 := HP.2
                  have G6 := HP.1
                  have G5 := far3 (g := g6) F5 (by omega) (.slice D1 k1 e1) (.slice D2 k2 e2) (.slice D3 k3 e3)
                  have hB1 := hA1.set3 x1_6 (.slice D1 k1 e1) (.slice D2 k2 e2) (.slice D3 k3 e3)
                  have hB2 := hA2.set3 x2_6 (.slice D1 k1 e1) (.slice D2 k2 e2) (.slice D3 k3 e3)
                  clear KB GB F6 F5 hA1 hA2 hS HP
                  go_simp
                  refine hK.out _ _ ⟨KB2, GB2⟩ (fun hS => ?_)
                  clear hK K d0 d1' d2' f0 f1 f2
                  generalize (((U37.setCell ⟨g6, 0, none⟩ (.slice D1 k1 e1)).setCell ⟨g6, 1, none⟩ (.slice D2 k2 e2)).setCell ⟨g6, 2, none⟩ (.slice D3 k3 e3)) = U38 at KB2 GB2 hS G5 G6 hB1 hB2 ⊢
                  have KB := KB2
                  have GB := GB2
                  have F5 := G5
                  have F6 := G6
                  have hA1 := hB1
                  have hA2 := hB2
                  clear KB2 GB2 G5 G6 hB1 hB2
                  refine wpAnyH_done (by kernel_rfl) ?_ _
                  go_wp2_with fail
                  go_meet
                  exact ⟨g5, g6, B1, m1, d1, B2, m2, d2, B3, m3, d3, GX, D1, k1, e1, D2, k2, e2, D3, k3, e3, GY, rfl, rfl, F5, F6, hA1, hA2, GB⟩
              · skip
                go_simp
                have F6 := Blk.new U29 30 #[.slice none 0 0, .slice none 0 0, .slice none 0 0]
                have lk6 := KB.lt
                have lb6 := GB.size
                have l56 := F5.lt
                replace KB := KB.alloc (.cells #[.slice none 0 0, .slice none 0 0, .slice none 0 0] 30)
                replace F5 := F5.alloc (.cells #[.slice none 0 0, .slice none 0 0, .slice none 0 0] 30)
                replace GB := GB.alloc GB.size (.cells #[.slice none 0 0, .slice none 0 0, .slice none 0 0] 30)
                refine hK.out _ _ ⟨KB, GB⟩ (fun hS => ?_)
                clear hK K
                generalize U29.alloc (.cells #[.slice none 0 0, .slice none 0 0, .slice none 0 0] 30) = U39 at KB GB hS F6 F5 ⊢
                generalize U29.heap.size = g6 at F6 lk6 lb6 l56 ⊢
                refine wpAnyH_ready (rs := [1]) (by kernel_rfl) (by simp) ?_
                refine AllReadyH.cons rfl (fun K hK => ?_) (AllReadyH.nil)
                go_simp
                refine (HSh.out _ GB).mono ?_
                rintro e w40 ⟨B1, m1, d1, B2, m2, d2, B3, m3, d3, GX, rfl, q40, p40, r40, y1, y2, y3, y4, y5, h40⟩
                have x1_5 := SO.old q40 p40 r40 F5.lt
                have x1_6 := SO.old q40 p40 r40 F6.lt
                replace KB := KB.below h40 KB.lt
                replace F5 := F5.below h40 F5.lt
                replace F6 := F6.below h40 F6.lt
                have hA1 := SH.of q40 p40 r40 ⟨y1, y2, y3, y4, y5⟩
                replace GB := GB.trans (h40.mono GB.size)
                clear h40 q40 p40 r40 y1 y2 y3 y4 y5
                refine hK.out _ _ ⟨KB, GB⟩ (fun hS => ?_)
                clear hK K
                refine wpAnyH_ready (rs := [3]) (by kernel_rfl) (by simp) ?_
                refine AllReadyH.cons rfl (fun K hK => ?_) (AllReadyH.nil)
                go_simp
                refine (HSh.out _ GB).mono ?_
                rintro e w41 ⟨D1, k1, e1, D2, k2, e2, D3, k3, e3, GY, rfl, q41, p41, r41, y1, y2, y3, y4, y5, h41⟩
                have x2_5 := SO.old q41 p41 r41 F5.lt
                have x2_6 := SO.old q41 p41 r41 F6.lt
                replace KB := KB.below h41 KB.lt
                replace F5 := F5.below h41 F5.lt
                replace F6 := F6.below h41 F6.lt
                replace hA1 := hA1.below h41
                have hA2 := SH.of q41 p41 r41 ⟨y1, y2, y3, y4, y5⟩
                replace GB := GB.trans (h41.mono GB.size)
                clear h41 q41 p41 r41 y1 y2 y3 y4 y5
                refine hK.out _ _ ⟨KB, GB⟩ (fun hS => ?_)
                clear hK K
                refine wpAnyH_ready (rs := [6]) (by kernel_rfl) (by simp) ?_
                refine AllReadyH.cons rfl (fun K hK => ?_) (AllReadyH.nil)
                have d0 := F5.cell 0
                have d1' := F5.cell 1
                have d2' := F5.cell 2
                have f0 := F5.frozen 0
                have f1 := F5.frozen 1
                have f2 := F5.frozen 2
                have KB2 := far3 (g := g5) KB (by omega) (.slice B1 m1 d1) (.slice B2 m2 d2) (.slice B3 m3 d3)
                have HP := put3b (x := (.slice B1 m1 d1)) (y := (.slice B2 m2 d2)) (z := (.slice B3 m3 d3)) F5 GB (by omega)
                have GB2 := HP.2
                have G5 := HP.1
                have G6 := far3 (g := g5) F6 (by omega) (.slice B1 m1 d1) (.slice B2 m2 d2) (.slice B3 m3 d3)
                have hB1 := hA1.set3 x1_5 (.slice B1 m1 d1) (.slice B2 m2 d2) (.slice B3 m3 d3)
                have hB2 := hA2.set3 x2_5 (.slice B1 m1 d1) (.slice B2 m2 d2) (.slice B3 m3 d3)
                clear KB GB F5 F6 hA1 hA2 hS HP
                go_simp
                refine hK.out _ _ ⟨KB2, GB2⟩ (fun hS => ?_)
                clear hK K d0 d1' d2' f0 f1 f2
                generalize (((w41.setCell ⟨g5, 0, none⟩ (.slice B1 m1 d1)).setCell ⟨g5, 1, none⟩ (.slice B2 m2 d2)).setCell ⟨g5, 2, none⟩ (.slice B3 m3 d3)) = U42 at KB2 GB2 hS G5 G6 hB1 hB2 ⊢
                have KB := KB2
                have GB := GB2
                have F5 := G5
                have F6 := G6
                have hA1 := hB1
                have hA2 := hB2
                clear KB2 GB2 G5 G6 hB1 hB2
                refine wpAnyH_ready (rs := [7]) (by kernel_rfl) (by simp) ?_
                refine AllReadyH.cons rfl (fun K hK => ?_) (AllReadyH.nil)
                have d0 := F6.cell 0
                have d1' := F6.cell 1
                have d2' := F6.cell 2
                have f0 := F6.frozen 0
                have f1 := F6.frozen 1
                have f2 := F6.frozen 2
                have KB2 := far3 (g := g6) KB (by omega) (.slice D1 k1 e1) (.slice D2 k2 e2) (.slice D3 k3 e3)
                have HP := put3b (x := (.slice D1 k1 e1)) (y := (.slice D2 k2 e2)) (z := (.slice D3 k3 e3)) F6 GB (by omega)
                have GB2 := HP.2
                have G6 := HP.1
                have G5 := far3 (g := g6) F5 (by omega) (.slice D1 k1 e1) (.slice D2 k2 e2) (.slice D3 k3 e3)
                have hB1 := hA1.set3 x1_6 (.slice D1 k1 e1) (.slice D2 k2 e2) (.slice D3 k3 e3)
                have hB2 := hA2.set3 x2_6 (.slice D1 k1 e1) (.slice D2 k2 e2) (.slice D3 k3 e3)
                clear KB GB F6 F5 hA1 hA2 hS HP
                go_simp
                refine hK.out _ _ ⟨KB2, GB2⟩ (fun hS => ?_)
                clear hK K d0 d1' d2' f0 f1 f2
                generalize (((U42.setCell ⟨g6, 0, none⟩ (.slice D1 k1 e1)).setCell ⟨g6, 1, none⟩ (.slice D2 k2 e2)).setCell ⟨g6, 2, none⟩ (.slice D3 k3 e3)) = U43 at KB2 GB2 hS G5 G6 hB1 hB2 ⊢
                have KB := KB2
                have GB := GB2
                have F5 := G5
                have F6 := G6
                have hA1 := hB1
                have hA2 := hB2
                clear KB2 GB2 G5 G6 hB1 hB2
                refine wpAnyH_done (by kernel_rfl) ?_ _
                go_wp2_with fail
                go_meet
                exact ⟨g5, g6, B1, m1, d1, B2, m2, d2, B3, m3, d3, GX, D1, k1, e1, D2, k2, e2, D3, k3, e3, GY, rfl, rfl, F5, F6, hA1, hA2, GB⟩
            · skip
              go_simp
              have F6 := Blk.new V 30 #[.slice none 0 0, .slice none 0 0, .slice none 0 0]
              have lk6 := KB.lt
              have lb6 := GB.size
              replace KB := KB.alloc (.cells #[.slice none 0 0, .slice none 0 0, .slice none 0 0] 30)
              replace GB := GB.alloc GB.size (.cells #[.slice none 0 0, .slice none 0 0, .slice none 0 0] 30)
              refine hK.out _ _ ⟨KB, GB⟩ (fun hS => ?_)
              clear hK K
              generalize V.alloc (.cells #[.slice none 0 0, .slice none 0 0, .slice none 0 0] 30) = U44 at KB GB hS F6 ⊢
              generalize V.heap.size = g6 at F6 lk6 lb6  ⊢
              refine wpAnyH_ready (rs := [1, 4]) (by kernel_rfl) (by simp) ?_
              refine AllReadyH.cons rfl (fun K hK => ?_) (AllReadyH.cons rfl (fun K hK => ?_) (AllReadyH.nil))
              · skip
                go_simp
                refine (HSh.out _ GB).mono ?_
                rintro e w45 ⟨B1, m1, d1, B2, m2, d2, B3, m3, d3, GX, rfl, q45, p45, r45, y1, y2, y3, y4, y5, h45⟩
                have x1_6 := SO.old q45 p45 r45 F6.lt
                replace KB := KB.below h45 KB.lt
                replace F6 := F6.below h45 F6.lt
                have hA1 := SH.of q45 p45 r45 ⟨y1, y2, y3, y4, y5⟩
                replace GB := GB.trans (h45.mono GB.size)
                clear h45 q45 p45 r45 y1 y2 y3 y4 y5
                refine hK.out _ _ ⟨KB, GB⟩ (fun hS => ?_)
                clear hK K
                refine wpAnyH_ready (rs := [3, 4]) (by kernel_rfl) (by simp) ?_
                refine AllReadyH.cons rfl (fun K hK => ?_) (AllReadyH.cons rfl (fun K hK => ?_) (AllReadyH.nil))
                · skip
                  go_simp
                  refine (HSh.out _ GB).mono ?_
                  rintro e w46 ⟨D1, k1, e1, D2, k2, e2, D3, k3, e3, GY, rfl, q46, p46, r46, y1, y2, y3, y4, y5, h46⟩
                  have x2_6 := SO.old q46 p46 r46 F6.lt
                  replace KB := KB.below h46 KB.lt
                  replace F6 := F6.below h46 F6.lt
                  replace hA1 := hA1.below h46
                  have hA2 := SH.of q46 p46 r46 ⟨y1, y2, y3, y4, y5⟩
                  replace GB := GB.trans (h46.mono GB.size)
                  clear h46 q46 p46 r46 y1 y2 y3 y4 y5
                  refine hK.out _ _ ⟨KB, GB⟩ (fun hS => ?_)
                  clear hK K
                  refine wpAnyH_ready (rs := [4]) (by kernel_rfl) (by simp) ?_
                  refine AllReadyH.cons rfl (fun K hK => ?_) (AllReadyH.nil)
                  go_simp
                  have F5 := Blk.new w46 30 #[.slice none 0 0, .slice none 0 0, .slice none 0 0]
                  have lk5 := KB.lt
                  have lb5 := GB.size
                  have l65 := F6.lt
                  have x1_5 := SO.new hA1
                  have x2_5 := SO.new hA2
                  replace KB := KB.alloc (.cells #[.slice none 0 0, .slice none 0 0, .slice none 0 0] 30)
                  replace F6 := F6.alloc (.cells #[.slice none 0 0, .slice none 0 0, .slice none 0 0] 30)
                  replace hA1 := hA1.below ((Below.refl _ _).alloc (Nat.le_refl _) (.cells #[.slice none 0 0, .slice none 0 0, .slice none 0 0] 30))
                  replace hA2 := hA2.below ((Below.refl _ _).alloc (Nat.le_refl _) (.cells #[.slice none 0 0, .slice none 0 0, .slice none 0 0] 30))
                  replace GB := GB.alloc GB.size (.cells #[.slice none 0 0, .slice none 0 0, .slice none 0 0] 30)
                  refine hK.out _ _ ⟨KB, GB⟩ (fun hS => ?_)
                  clear hK K
                  generalize w46.alloc (.cells #[.slice none 0 0, .slice none 0 0, .slice none 0 0] 30) = U47 at KB GB hS F5 F6 hA1 hA2 ⊢
                  generalize w46.heap.size = g5 at F5 lk5 lb5 l65 x1_5 x2_5 ⊢
                  refine wpAnyH_ready (rs := [6]) (by kernel_rfl) (by simp) ?_
                  refine AllReadyH.cons rfl (fun K hK => ?_) (AllReadyH.nil)
                  have d0 := F5.cell 0
                  have d1' := F5.cell 1
                  have d2' := F5.cell 2
                  have f0 := F5.frozen 0
                  have f1 := F5.frozen 1
                  have f2 := F5.frozen 2
                  have KB2 := far3 (g := g5) KB (by omega) (.slice B1 m1 d1) (.slice B2 m2 d2) (.slice B3 m3 d3)
                  have HP := put3b (x := (.slice B1 m1 d1)) (y := (.slice B2 m2 d2)) (z := (.slice B3 m3 d3)) F5 GB (by omega)
                  have GB2 := HP.2
                  have G5 := HP.1
                  have G6 := far3 (g := g5) F6 (by omega) (.slice B1 m1 d1) (.slice B2 m2 d2) (.slice B3 m3 d3)
                  have hB1 := hA1.set3 x1_5 (.slice B1 m1 d1) (.slice B2 m2 d2) (.slice B3 m3 d3)
                  have hB2 := hA2.set3 x2_5 (.slice B1 m1 d1) (.slice B2 m2 d2) (.slice B3 m3 d3)
                  clear KB GB F5 F6 hA1 hA2 hS HP
                  go_simp
                  refine hK.out _ _ ⟨KB2, GB2⟩ (fun hS => ?_)
                  clear hK K d0 d1' d2' f0 f1 f2
                  generalize (((U47.setCell ⟨g5, 0, none⟩ (.slice B1 m1 d1)).setCell ⟨g5, 1, none⟩ (.slice B2 m2 d2)).setCell ⟨g5, 2, none⟩ (.slice B3 m3 d3)) = U48 at KB2 GB2 hS G5 G6 hB1 hB2 ⊢
                  have KB := KB2
                  have GB := GB2
                  have F5 := G5
                  have F6 := G6
                  have hA1 := hB1
                  have hA2 := hB2
                  clear KB2 GB2 G5 G6 hB1 hB2
                  refine wpAnyH_ready (rs := [7]) (by kernel_rfl) (by simp) ?_
                  refine AllReadyH.cons rfl (fun K hK => ?_) (AllReadyH.nil)
                  have d0 := F6.cell 0
                  have d1' := F6.cell 1
                  have d2' := F6.cell 2
                  have f0 := F6.frozen 0
                  have f1 := F6.frozen 1
                  have f2 := F6.frozen 2
                  have KB2 := far3 (g := g6) KB (by omega) (.slice D1 k1 e1) (.slice D2 k2 e2) (.slice D3 k3 e3)
                  have HP := put3b (x := (.slice D1 k1 e1)) (y := (.slice D2 k2 e2)) (z := (.slice D3 k3 e3)) F6 GB (by omega)
                  have GB2 := HP.2
                  have G6 := HP.1
                  have G5 := far3 (g := g6) F5 (by omega) (.slice D1 k1 e1) (.slice D2 k2 e2) (.slice D3 k3 e3)
                  have hB1 := hA1.set3 x1_6 (.slice D1 k1 e1) (.slice D2 k2 e2) (.slice D3 k3 e3)
                  have hB2 := hA2.set3 x2_6 (.slice D1 k1 e1) (.slice D2 k2 e2) (.slice D3 k3 e3)
                  clear KB GB F6 F5 hA1 hA2 hS HP
                  go_simp
                  refine hK.out _ _ ⟨KB2, GB2⟩ (fun hS => ?_)
                  clear hK K d0 d1' d2' f0 f1 f2
                  generalize (((U48.setCell ⟨g6, 0, none⟩ (.slice D1 k1 e1)).setCell ⟨g6, 1, none⟩ (.slice D2 k2 e2)).setCell ⟨g6, 2, none⟩ (.slice D3 k3 e3)) = U49 at KB2 GB2 hS G5 G6 hB1 hB2 ⊢
                  have KB := KB2
                  have GB := GB2
                  have F5 := G5
                  have F6 := G6
                  have hA1 := hB1
                  have hA2 := hB2
                  clear KB2 GB2 G5 G6 hB1 hB2
                  refine wpAnyH_done (by kernel_rfl) ?_ _
                  go_wp2_with fail
                  go_meet
                  exact ⟨g5, g6, B1, m1, d1, B2, m2, d2, B3, m3, d3, GX, D1, k1, e1, D2, k2, e2, D3, k3, e3, GY, rfl, rfl, F5, F6, hA1, hA2, GB⟩
                · skip
                  go_simp
                  have F5 := Blk.new w45 30 #[.slice none 0 0, .slice none 0 0, .slice none 0 0]
                  have lk5 := KB.lt
                  have lb5 := GB.size
                  have l65 := F6.lt
                  have x1_5 := SO.new hA1
                  replace KB := KB.alloc (.cells #[.slice none 0 0, .slice none 0 0, .slice none 0 0] 30)
                  replace F6 := F6.alloc (.cells #[.slice none 0 0, .slice none 0 0, .slice none 0 0] 30)
                  replace hA1 := hA1.below ((Below.refl _ _).alloc (Nat.le_refl _) (.cells #[.slice none 0 0, .slice none 0 0, .slice none 0 0] 30))
                  replace GB := GB.alloc GB.size (.cells #[.slice none 0 0, .slice none 0 0, .slice none 0 0] 30)
                  refine hK.out _ _ ⟨KB, GB⟩ (fun hS => ?_)
                  clear hK K
                  generalize w45.alloc (.cells #[.slice none 0 0, .slice none 0 0, .slice none 0 0] 30) = U50 at KB GB hS F5 F6 hA1 ⊢
                  generalize w45.heap.size = g5 at F5 lk5 lb5 l65 x1_5 ⊢
                  refine wpAnyH_ready (rs := [3]) (by kernel_rfl) (by simp) ?_
                  refine AllReadyH.cons rfl (fun K hK => ?_) (AllReadyH.nil)
                  go_simp
                  refine (HSh.out _ GB).mono ?_
                  rintro e w51 ⟨D1, k1, e1, D2, k2, e2, D3, k3, e3, GY, rfl, q51, p51, r51, y1, y2, y3, y4, y5, h51⟩
                  have x2_5 := SO.old q51 p51 r51 F5.lt
                  have x2_6 := SO.old q51 p51 r51 F6.lt
                  replace KB := KB.below h51 KB.lt
                  replace F5 := F5.below h51 F5.lt
                  replace F6 := F6.below h51 F6.lt
                  replace hA1 := hA1.below h51
                  have hA2 := SH.of q51 p51 r51 ⟨y1, y2, y3, y4, y5⟩
                  replace GB := GB.trans (h51.mono GB.size)
                  clear h51 q51 p51 r51 y1 y2 y3 y4 y5
                  refine hK.out _ _ ⟨KB, GB⟩ (fun hS => ?_)
                  clear hK K
                  refine wpAnyH_ready (rs := [6]) (by kernel_rfl) (by simp) ?_
                  refine AllReadyH.cons rfl (fun K hK => ?_) (AllReadyH.nil)
                  have d0 := F5.cell 0
                  have d1' := F5.cell 1
                  have d2' := F5.cell 2
                  have f0 := F5.frozen 0
                  have f1 := F5.frozen 1
                  have f2 := F5.frozen 2
                  have KB2 := far3 (g := g5) KB (by omega) (.slice B1 m1 d1) (.slice B2 m2 d2) (.slice B3 m3 d3)
                  have HP := put3b (x := (.slice B1 m1 d1)) (y := (.slice B2 m2 d2)) (z := (.slice B3 m3 d3)) F5 GB (by omega)
                  have GB2 := HP.2
                  have G5 := HP.1
                  have G6 := far3 (g := g5) F6 (by omega) (.slice B1 m1 d1) (.slice B2 m2 d2) (.slice B3 m3 d3)
                  have hB1 := hA1.set3 x1_5 (.slice B1 m1 d1) (.slice B2 m2 d2) (.slice B3 m3 d3)
                  have hB2 := hA2.set3 x2_5 (.slice B1 m1 d1) (.slice B2 m2 d2) (.slice B3 m3 d3)
                  clear KB GB F5 F6 hA1 hA2 hS HP
                  go_simp
                  refine hK.out _ _ ⟨KB2, GB2⟩ (fun hS => ?_)
                  clear hK K d0 d1' d2' f0 f1 f2
                  generalize (((w51.setCell ⟨g5, 0, none⟩ (.slice B1 m1 d1)).setCell ⟨g5, 1, none⟩ (.slice B2 m2 d2)).setCell ⟨g5, 2, none⟩ (.slice B3 m3 d3)) = U52 at KB2 GB2 hS G5 G6 hB1 hB2 ⊢
                  have KB := KB2
                  have GB := GB2
                  have F5 := G5
                  have F6 := G6
                  have hA1 := hB1
                  have hA2 := hB2
                  clear KB2 GB2 G5 G6 hB1 hB2
                  refine wpAnyH_ready (rs := [7]) (by kernel_rfl) (by simp) ?_
                  refine AllReadyH.cons rfl (fun K hK => ?_) (AllReadyH.nil)
                  have d0 := F6.cell 0
                  have d1' := F6.cell 1
                  have d2' := F6.cell 2
                  have f0 := F6.frozen 0
                  have f1 := F6.frozen 1
                  have f2 := F6.frozen 2
                  have KB2 := far3 (g := g6) KB (by omega) (.slice D1 k1 e1) (.slice D2 k2 e2) (.slice D3 k3 e3)
                  have HP := put3b (x := (.slice D1 k1 e1)) (y := (.slice D2 k2 e2)) (z := (.slice D3 k3 e3)) F6 GB (by omega)
                  have GB2 := HP.2
                  have G6 := HP.1
                  have G5 := far3 (g := g6) F5 (by omega) (.slice D1 k1 e1) (.slice D2 k2 e2) (.slice D3 k3 e3)
                  have hB1 := hA1.set3 x1_6 (.slice D1 k1 e1) (.slice D2 k2 e2) (.slice D3 k3 e3)
                  have hB2 := hA2.set3 x2_6 (.slice D1 k1 e1) (.slice D2 k2 e2) (.slice D3 k3 e3)
                  clear KB GB F6 F5 hA1 hA2 hS HP
                  go_simp
                  refine hK.out _ _ ⟨KB2, GB2⟩ (fun hS => ?_)
                  clear hK K d0 d1' d2' f0 f1 f2
                  generalize (((U52.setCell ⟨g6, 0, none⟩ (.slice D1 k1 e1)).setCell ⟨g6, 1, none⟩ (.slice D2 k2 e2)).setCell ⟨g6, 2, none⟩ (.slice D3 k3 e3)) = U53 at KB2 GB2 hS G5 G6 hB1 hB2 ⊢
                  have KB := KB2
                  have GB := GB2
                  have F5 := G5
                  have F6 := G6
                  have hA1 := hB1
                  have hA2 := hB2
                  clear KB2 GB2 G5 G6 hB1 hB2
                  refine wpAnyH_done (by kernel_rfl) ?_ _
                  go_wp2_with fail
                  go_meet
                  exact ⟨g5, g6, B1, m1, d1, B2, m2, d2, B3, m3, d3, GX, D1, k1, e1, D2, k2, e2, D3, k3, e3, GY, rfl, rfl, F5, F6, hA1, hA2, GB⟩
              · skip
                go_simp
                have F5 := Blk.new U44 30 #[.slice none 0 0, .slice none 0 0, .slice none 0 0]
                have lk5 := KB.lt
                have lb5 := GB.size
                have l65 := F6.lt
                replace KB := KB.alloc (.cells #[.slice none 0 0, .slice none 0 0, .slice none 0 0] 30)
                replace F6 := F6.alloc (.cells #[.slice none 0 0, .slice none 0 0, .slice none 0 0] 30)
                replace GB := GB.alloc GB.size (.cells #[.slice none 0 0, .slice none 0 0, .slice none 0 0] 30)
                refine hK.out _ _ ⟨KB, GB⟩ (fun hS => ?_)
                clear hK K
                generalize U44.alloc (.cells #[.slice none 0 0, .slice none 0 0, .slice none 0 0] 30) = U54 at KB GB hS F5 F6 ⊢
                generalize U44.heap.size = g5 at F5 lk5 lb5 l65 ⊢
                refine wpAnyH_ready (rs := [1]) (by kernel_rfl) (by simp) ?_
                refine AllReadyH.cons rfl (fun K hK => ?_) (AllReadyH.nil)
                go_simp
                refine (HSh.out _ GB).mono ?_
                rintro e w55 ⟨B1, m1, d1, B2, m2, d2, B3, m3, d3, GX, rfl, q55, p55, r55, y1, y2, y3, y4, y5, h55⟩
                have x1_5 := SO.old q55 p55 r55 F5.lt
                have x1_6 := SO.old q55 p55 r55 F6.lt
                replace KB := KB.below h55 KB.lt
                replace F5 := F5.below h55 F5.lt
                replace F6 := F6.below h55 F6.lt
                have hA1 := SH.of q55 p55 r55 ⟨y1, y2, y3, y4, y5⟩
                replace GB := GB.trans (h55.mono GB.size)
                clear h55 q55 p55 r55 y1 y2 y3 y4 y5
                refine hK.out _ _ ⟨KB, GB⟩ (fun hS => ?_)
                clear hK K
                refine wpAnyH_ready (rs := [3]) (by kernel_rfl) (by simp) ?_
                refine AllReadyH.cons rfl (fun K hK => ?_) (AllReadyH.nil)
                go_simp
                refine (HSh.out _ GB).mono ?_
                rintro e w56 ⟨D1, k1, e1, D2, k2, e2, D3, k3, e3, GY, rfl, q56, p56, r56, y1, y2, y3, y4, y5, h56⟩
                have x2_5 := SO.old q56 p56 r56 F5.lt
                have x2_6 := SO.old q56 p56 r56 F6.lt
                replace KB := KB.below h56 KB.lt
                replace F5 := F5.below h56 F5.lt
                replace F6 := F6.below h56 F6.lt
                replace hA1 := hA1.below h56
                have hA2 := SH.of q56 p56 r56 ⟨y1, y2, y3, y4, y5⟩
                replace GB := GB.trans (h56.mono GB.size)
                clear h56 q56 p56 r56 y1 y2 y3 y4 y5
                refine hK.out _ _ ⟨KB, GB⟩ (fun hS => ?_)
                clear hK K
                refine wpAnyH_ready (rs := [6]) (by kernel_rfl) (by simp) ?_
                refine AllReadyH.cons rfl (fun K hK => ?_) (AllReadyH.nil)
                have d0 := F5.cell 0
                have d1' := F5.cell 1
                have d2' := F5.cell 2
                have f0 := F5.frozen 0
                have f1 := F5.frozen 1
                have f2 := F5.frozen 2
                have KB2 := far3 (g := g5) KB (by omega) (.slice B1 m1 d1) (.slice B2 m2 d2) (.slice B3 m3 d3)
                have HP := put3b (x := (.slice B1 m1 d1)) (y := (.slice B2 m2 d2)) (z := (.slice B3 m3 d3)) F5 GB (by omega)
                have GB2 := HP.2
                have G5 := HP.1
                have G6 := far3 (g := g5) F6 (by omega) (.slice B1 m1 d1) (.slice B2 m2 d2) (.slice B3 m3 d3)
                have hB1 := hA1.set3 x1_5 (.slice B1 m1 d1) (.slice B2 m2 d2) (.slice B3 m3 d3)
                have hB2 := hA2.set3 x2_5 (.slice B1 m1 d1) (.slice B2 m2 d2) (.slice B3 m3 d3)
                clear KB GB F5 F6 hA1 hA2 hS HP
                go_simp
                refine hK.out _ _ ⟨KB2, GB2⟩ (fun hS => ?_)
                clear hK K d0 d1' d2' f0 f1 f2
                generalize (((w56.setCell ⟨g5, 0, none⟩ (.slice B1 m1 d1)).setCell ⟨g5, 1, none⟩ (.slice B2 m2 d2)).setCell ⟨g5, 2, none⟩ (.slice B3 m3 d3)) = U57 at KB2 GB2 hS G5 G6 hB1 hB2 ⊢
                have KB := KB2
                have GB := GB2
                have F5 := G5
                have F6 := G6
                have hA1 := hB1
                have hA2 := hB2
                clear KB2 GB2 G5 G6 hB1 hB2
                refine wpAnyH_ready (rs := [7]) (by kernel_rfl) (by simp) ?_
                refine AllReadyH.cons rfl (fun K hK => ?_) (AllReadyH.nil)
                have d0 := F6.cell 0
                have d1' := F6.cell 1
                have d2' := F6.cell 2
                have f0 := F6.frozen 0
                have f1 := F6.frozen 1
                have f2 := F6.frozen 2
                have KB2 := far3 (g := g6) KB (by omega) (.slice D1 k1 e1) (.slice D2 k2 e2) (.slice D3 k3 e3)
                have HP := put3b (x := (.slice D1 k1 e1)) (y := (.slice D2 k2 e2)) (z := (.slice D3 k3 e3)) F6 GB (by omega)
                have GB2 := HP.2
                have G6 := HP.1
                have G5 := far3 (g := g6) F5 (by omega) (.slice D1 k1 e1) (.slice D2 k2 e2) (.slice D3 k3 e3)
                have hB1 := hA1.set3 x1_6 (.slice D1 k1 e1) (.slice D2 k2 e2) (.slice D3 k3 e3)
                have hB2 := hA2.set3 x2_6 (.slice D1 k1 e1) (.slice D2 k2 e2) (.slice D3 k3 e3)
                clear KB GB F6 F5 hA1 hA2 hS HP
                go_simp
                refine hK.out _ _ ⟨KB2, GB2⟩ (fun hS => ?_)
                clear hK K d0 d1' d2' f0 f1 f2
                generalize (((U57.setCell ⟨g6, 0, none⟩ (.slice D1 k1 e1)).setCell ⟨g6, 1, none⟩ (.slice D2 k2 e2)).setCell ⟨g6, 2, none⟩ (.slice D3 k3 e3)) = U58 at KB2 GB2 hS G5 G6 hB1 hB2 ⊢
                have KB := KB2
                have GB := GB2
                have F5 := G5
                have F6 := G6
                have hA1 := hB1
                have hA2 := hB2
                clear KB2 GB2 G5 G6 hB1 hB2
                refine wpAnyH_done (by kernel_rfl) ?_ _
                go_wp2_with fail
                go_meet
                exact ⟨g5, g6, B1, m1, d1, B2, m2, d2, B3, m3, d3, GX, D1, k1, e1, D2, k2, e2, D3, k3, e3, GY, rfl, rfl, F5, F6, hA1, hA2, GB⟩
        case rest =>
          clear KB GB
          obtain ⟨g5, g6, B1, m1, d1, B2, m2, d2, B3, m3, d3, GX, D1, k1, e1, D2, k2, e2, D3, k3, e3, GY, rfl, rfl, F5, F6, hA1, hA2, GB⟩ := hcut
          rename World => X
          have HF5 := Lib.hid (fun (u : World) (h : Below X.heap.size X u) => F5.below h F5.lt)
          have HQ1 := Lib.hid (fun (u : World) (h : Below X.heap.size X u) => (hA1.qr HUQ.out.1).below h)
          have HW1 := Lib.hid (fun (u : World) (h : Below X.heap.size X u) => (hA1.wt HUQ.out.2).below h)
          have HG1 := Lib.hid (fun (u : World) (h : Below X.heap.size X u) => hA1.gw.below h)
          obtain rfl : k1 = m1 := (hA2.qr HUQ.out.1).len.symm.trans (hA1.qr HUQ.out.1).len
          obtain rfl : k2 = m2 := (hA2.wt HUQ.out.2).len.symm.trans (hA1.wt HUQ.out.2).len
          obtain rfl : k3 = m3 := by
            have e := congrArg List.length (hA1.gi.1.trans hA2.gi.1.symm)
            rw [gsI_len, gsI_len, hA1.gw.len, hA2.gw.len] at e
            exact e.symm
          have HF6 := Lib.hid (fun (u : World) (h : Below X.heap.size X u) => F6.below h F6.lt)
          have HQ2 := Lib.hid (fun (u : World) (h : Below X.heap.size X u) => (hA2.qr HUQ.out.1).below h)
          have HW2 := Lib.hid (fun (u : World) (h : Below X.heap.size X u) => (hA2.wt HUQ.out.2).below h)
          have HG2 := Lib.hid (fun (u : World) (h : Below X.heap.size X u) => hA2.gw.below h)
          have HGO := Lib.hid (fun (u : World) (h : Below X.heap.size X u) => And.intro (hA2.g.below h) trivial)
          have HGO2 := Lib.hid (And.intro hA2.gi.2.1 (And.intro hA2.gi.2.2.2.2 hA2.gi.2.2.1))
          have HII := Lib.hid (hA1.gi.1.trans hA2.gi.1.symm)
          have HNC := Lib.hid (own_nc hA2.g.row)
          have HU5 := Lib.hid (take_uq HUQ.out.1 17)
          have GBX := Lib.hid GB
          clear F5 F6 hA1 hA2 HUQ HSh GB
          generalize qs.take 17 = q5 at *
          generalize ws.take 17 = w5 at *
          have HSm := Lib.hid (fun (u : World) (h : Below X.heap.size X u) => lsame_any B1 k1 d1 q5 B2 k2 d2 w5 B3 k3 d3 GX D1 e1 D2 e2 D3 e3 GY u (HQ1.out u h) (HQ2.out u h) (HW1.out u h) (HW2.out u h) (HG1.out u h) (HG2.out u h) HII.out)
          have HCk2 := Lib.hid (fun (u : World) (h : Below X.heap.size X u) => echeck_any D1 k1 e1 q5 D2 k2 e2 w5 D3 k3 e3 GY u (HQ2.out u h) (HW2.out u h) (HG2.out u h) HNC.out)
          have HCk1 := Lib.hid (fun (u : World) (h : Below X.heap.size X u) => ocheck_any B1 k1 d1 q5 B2 k2 d2 w5 B3 k3 d3 GX u (HQ1.out u h) (HW1.out u h) (HG1.out u h))
          have HEn := Lib.hid (fun (u : World) (h : Below X.heap.size X u) => entities_any B1 k1 d1 q5 B2 k2 d2 w5 B3 k3 d3 GX u (HQ1.out u h) (HW1.out u h) (HG1.out u h))
          rw [HII.out] at HCk1 HEn
          unfold EntAny at HEn
          obtain ⟨r, hr⟩ : ∃ r, chkO q5 w5 (gsI GY) = r := ⟨_, rfl⟩
          rw [hr] at HCk1 HCk2 HEn
          have b1 : (r != r) = false := by simp
          have GB := Below.refl X.heap.size X
          have p50 := (HF5.out _ GB).cell 0
          have p51 := (HF5.out _ GB).cell 1
          have p52 := (HF5.out _ GB).cell 2
          have p60 := (HF6.out _ GB).cell 0
          have p61 := (HF6.out _ GB).cell 1
          have p62 := (HF6.out _ GB).cell 2
          go_wp2_with fail
          refine (HCk2.out _ GB).mono ?_
          rintro e w3 ⟨rfl, h2⟩
          replace GB := GB.trans (h2.mono GB.size)
          clear h2 p50 p51 p52 p60 p61 p62
          have p50 := (HF5.out _ GB).cell 0
          have p51 := (HF5.out _ GB).cell 1
          have p52 := (HF5.out _ GB).cell 2
          have p60 := (HF6.out _ GB).cell 0
          have p61 := (HF6.out _ GB).cell 1
          have p62 := (HF6.out _ GB).cell 2
          have GBV := Lib.hid GB
          go_wp2_with fail
          refine (HEn.out w3 GB).mono ?_
          rintro e w4 ⟨A9, n9, c9, E, rfl, hES, hE, hn9, h2⟩
          replace GB := GB.trans (h2.mono GB.size)
          have HQ9 := hES.eqq HU5.out hE hn9
          have HEQ := Lib.hid HQ9
          have HEL := Lib.hid HQ9.len
          have HN9 := Lib.hid hn9
          have HEM := Lib.hid hE
          have HML := Lib.hid (fun (e : En) (he : e ∈ E) => entR_mem_len (qs := q5) (ws := w5) (gs := gsI GY) HU5.out (x := et e) (by rw [← hE]; exact List.mem_map.2 ⟨e, he, rfl⟩))
          have HME : Hid (∀ e ∈ E, e.1.2.1 ≤ 1000) := Lib.hid (fun e he => by have h1 := HQ9.len_mem he; have h2 := HML.out e he; have h3 : (et e).1.length = e.1.2.2.2.length := rfl; omega)
          have HWS0 : Hid (∀ u, Below w4.heap.size w4 u → WS w3 u A9 n9 c9 E) := Lib.hid (fun u hu => (WS.of hES h2).below hu)
          have GB4 := Below.refl w4.heap.size w4
          have HG4 := Lib.hid GB
          clear h2 hES hE hn9 HQ9 p50 p51 p52 p60 p61 p62
          by_cases h0 : r = 0
          · subst h0
            obtain ⟨z1, z2, z3⟩ := chkO_ok hr
            have HX0 := Lib.hid (And.intro z1 (And.intro z2 z3))
            have HR0 : Hid (entR q5 w5 (gsI GY) = sortE (entsP (pts q5 w5) (gsI GY))) := Lib.hid (by unfold entR; rw [if_pos hr])
            clear hr z1 z2 z3
            have GB := GB4
            have p50 := (HF5.out _ (HG4.out.trans (GB.mono HG4.out.size))).cell 0
            have p51 := (HF5.out _ (HG4.out.trans (GB.mono HG4.out.size))).cell 1
            have p52 := (HF5.out _ (HG4.out.trans (GB.mono HG4.out.size))).cell 2
            have p60 := (HF6.out _ (HG4.out.trans (GB.mono HG4.out.size))).cell 0
            have p61 := (HF6.out _ (HG4.out.trans (GB.mono HG4.out.size))).cell 1
            have p62 := (HF6.out _ (HG4.out.trans (GB.mono HG4.out.size))).cell 2
            go_wp2_with fail
            refine (HCk1.out _ (HG4.out.trans (GB.mono HG4.out.size))).mono ?_
            rintro e u5 ⟨rfl, h2⟩
            replace GB := GB.trans (h2.mono GB.size)
            clear h2 p50 p51 p52 p60 p61 p62
            have p50 := (HF5.out _ (HG4.out.trans (GB.mono HG4.out.size))).cell 0
            have p51 := (HF5.out _ (HG4.out.trans (GB.mono HG4.out.size))).cell 1
            have p52 := (HF5.out _ (HG4.out.trans (GB.mono HG4.out.size))).cell 2
            have p60 := (HF6.out _ (HG4.out.trans (GB.mono HG4.out.size))).cell 0
            have p61 := (HF6.out _ (HG4.out.trans (GB.mono HG4.out.size))).cell 1
            have p62 := (HF6.out _ (HG4.out.trans (GB.mono HG4.out.size))).cell 2
            go_wp2_with fail
            refine (HSm.out _ (HG4.out.trans (GB.mono HG4.out.size))).mono ?_
            rintro e u6 ⟨rfl, h2⟩
            replace GB := GB.trans (h2.mono GB.size)
            clear h2 p50 p51 p52 p60 p61 p62
            have p50 := (HF5.out _ (HG4.out.trans (GB.mono HG4.out.size))).cell 0
            have p51 := (HF5.out _ (HG4.out.trans (GB.mono HG4.out.size))).cell 1
            have p52 := (HF5.out _ (HG4.out.trans (GB.mono HG4.out.size))).cell 2
            have p60 := (HF6.out _ (HG4.out.trans (GB.mono HG4.out.size))).cell 0
            have p61 := (HF6.out _ (HG4.out.trans (GB.mono HG4.out.size))).cell 1
            have p62 := (HF6.out _ (HG4.out.trans (GB.mono HG4.out.size))).cell 2
            go_wp2_with fail
            have GX := (HG4.out.trans (GB.mono HG4.out.size))
            refine (eents_any D1 k1 e1 q5 D2 k2 e2 w5 D3 k3 e3 GY u6 (HQ2.out _ GX) (HW2.out _ GX) HX0.out.2.1.len (lg_of HU5.out HX0.out.1 HX0.out.2.1) ((HGO.out _ GX).1) HGO2.out.1 HGO2.out.2.1 HGO2.out.2.2 HX0.out.2.2.rise).mono ?_
            rintro e u7 ⟨A8, n8, c8, E8, rfl, hEQ, hEM, h2⟩
            replace GB := GB.trans (h2.mono GB.size)
            have hee : E.map et = E8.map et := by rw [hEM, HEM.out, HR0.out]
            obtain rfl : n8 = n9 := by
              rw [← hEQ.len, ← HEL.out]
              have := congrArg List.length hee
              rw [List.length_map, List.length_map] at this
              exact this.symm
            have HSE := Lib.hid (esame_any A9 n8 c9 E A8 c8 E8 u7 (HEQ.out.below GB) hEQ HME.out hee)
            clear h2 hEQ hEM hee GX p50 p51 p52 p60 p61 p62
            go_wp2_with fail
            refine HSE.out.mono ?_
            rintro e u8 ⟨rfl, h2⟩
            replace GB := GB.trans (h2.mono GB.size)
            clear h2
            have HWS := Lib.hid (HWS0.out _ GB)
            clear GB HWS0
            go_wp2_with fail
            go_loopw [89] (fun iv wr => ∃ a : Nat, a ≤ n8 ∧ iv = .int .i64 (a : Int) ∧ Hid (WS w3 wr A9 n8 c9 E)) (fun iv _ => n8 - (intOf iv).toNat)
            case atStart => exact ⟨0, by omega, rfl, HWS⟩
            case round =>
              clear HWS
              obtain ⟨a, ha, rfl, HWS⟩ := hrel
              by_cases hat : a < n8
              · obtain ⟨⟨⟨A4, m4, c4, is4⟩, t4, o4, f4⟩, hy⟩ := elem_at (l := E) (k := a) (by rw [HEL.out]; exact hat)
                obtain ⟨ad9, rfl, x0⟩ := HWS.out.at_ hy
                have HY := Lib.hid hy
                have j1 : (0 : Int) ≤ (a : Int) := by omega
                have j2 : (a : Int) < (n8 : Int) := by omega
                have HJ9 := Lib.hid (show a + 1 ≤ n8 by omega)
                have j3 : a < 100 := by have := HN9.out; omega
                have hm4 : m4 ≤ 1000 := HME.out _ (List.mem_of_getElem? hy)
                clear hy
                go_wp2_with fail
                clear x0
                go_loopw [98] (fun iv wr => ∃ b : Nat, b ≤ m4 ∧ iv = .int .i64 (b : Int) ∧ Hid (WS w3 wr (some ad9) n8 c9 E)) (fun iv _ => m4 - (intOf iv).toNat)
                case atStart => exact ⟨0, by omega, rfl, HWS⟩
                case round =>
                  clear HWS
                  obtain ⟨b, hb, rfl, HWS⟩ := hrel
                  by_cases hbt : b < m4
                  · obtain ⟨ad8, e8, x0⟩ := HWS.out.at_ HY.out
                    obtain rfl : ad9 = ad8 := Option.some.inj e8
                    obtain ⟨g3, e3', ⟨y3, x1⟩, x2, HPu⟩ := HWS.out.put HY.out hbt
                    obtain rfl : A4 = some ⟨g3, 0, none⟩ := e3'
                    have q1 : (0 : Int) ≤ (b : Int) := by omega
                    have q2 : (b : Int) < (m4 : Int) := by omega
                    have j8 : b < 1000 := by omega
                    have HJ8 := Lib.hid (show b + 1 ≤ m4 by omega)
                    clear e8
                    go_wp2_with fail
                    go_roundw
                    case rel => exact ⟨b + 1, HJ8.out, by go_num, Lib.hid (HPu.out 99)⟩
                    case measure => simp [intOf] <;> omega
                  · obtain rfl : b = m4 := by omega
                    go_wp2_with fail
                    go_roundw
                    case rel => exact ⟨a + 1, HJ9.out, by go_num, HWS⟩
                    case measure => simp [intOf] <;> omega
              · obtain rfl : a = n8 := by omega
                have GB := GBV.out.trans (HWS.out.bel.mono GBV.out.size)
                clear HWS
                have p50 := (HF5.out _ GB).cell 0
                have p51 := (HF5.out _ GB).cell 1
                have p52 := (HF5.out _ GB).cell 2
                have p60 := (HF6.out _ GB).cell 0
                have p61 := (HF6.out _ GB).cell 1
                have p62 := (HF6.out _ GB).cell 2
                go_wp2_with fail
                refine (HSm.out _ GB).mono ?_
                rintro e w9 ⟨rfl, h2⟩
                have HBF := Lib.hid (GBX.out.trans ((GB.trans (h2.mono GB.size)).mono GBX.out.size))
                clear h2 GB p50 p51 p52 p60 p61 p62
                go_wp2_with fail
                go_roundw
                case rel => exact ⟨k + 1, HJ.out.1, HJ.out.2, by go_num, HBF⟩
                case measure => simp [intOf] <;> omega
          · have b2 : (r != 0) = true := by simpa using h0
            have hE0 : E.length = 0 := by
              have := congrArg List.length HEM.out
              unfold entR at this
              rw [if_neg (by rw [hr]; exact h0), List.length_map] at this
              exact this
            obtain rfl : n9 = 0 := by rw [← HEL.out, hE0]
            have b3 : (r == 0) = false := by simpa using h0
            clear hE0 hr h0
            have GB := GB4
            have p50 := (HF5.out _ (HG4.out.trans (GB.mono HG4.out.size))).cell 0
            have p51 := (HF5.out _ (HG4.out.trans (GB.mono HG4.out.size))).cell 1
            have p52 := (HF5.out _ (HG4.out.trans (GB.mono HG4.out.size))).cell 2
            have p60 := (HF6.out _ (HG4.out.trans (GB.mono HG4.out.size))).cell 0
            have p61 := (HF6.out _ (HG4.out.trans (GB.mono HG4.out.size))).cell 1
            have p62 := (HF6.out _ (HG4.out.trans (GB.mono HG4.out.size))).cell 2
            go_wp2_with fail
            refine (HCk1.out _ (HG4.out.trans (GB.mono HG4.out.size))).mono ?_
            rintro e u5 ⟨rfl, h2⟩
            replace GB := GB.trans (h2.mono GB.size)
            clear h2 p50 p51 p52 p60 p61 p62
            have p50 := (HF5.out _ (HG4.out.trans (GB.mono HG4.out.size))).cell 0
            have p51 := (HF5.out _ (HG4.out.trans (GB.mono HG4.out.size))).cell 1
            have p52 := (HF5.out _ (HG4.out.trans (GB.mono HG4.out.size))).cell 2
            have p60 := (HF6.out _ (HG4.out.trans (GB.mono HG4.out.size))).cell 0
            have p61 := (HF6.out _ (HG4.out.trans (GB.mono HG4.out.size))).cell 1
            have p62 := (HF6.out _ (HG4.out.trans (GB.mono HG4.out.size))).cell 2
            go_wp2_with fail
            refine (HSm.out _ (HG4.out.trans (GB.mono HG4.out.size))).mono ?_
            rintro e u6 ⟨rfl, h2⟩
            replace GB := GB.trans (h2.mono GB.size)
            clear h2 p50 p51 p52 p60 p61 p62
            skip
            have HWS := Lib.hid (HWS0.out _ GB)
            clear GB HWS0
            go_wp2_with fail
            go_loopw [89] (fun iv wr => ∃ a : Nat, a ≤ 0 ∧ iv = .int .i64 (a : Int) ∧ Hid (WS w3 wr A9 0 c9 E)) (fun iv _ => 0 - (intOf iv).toNat)
            case atStart => exact ⟨0, by omega, rfl, HWS⟩
            case round =>
              clear HWS
              obtain ⟨a, ha, rfl, HWS⟩ := hrel
              by_cases hat : a < 0
              · exact absurd hat (Nat.not_lt_zero _)
              · obtain rfl : a = 0 := by omega
                have GB := GBV.out.trans (HWS.out.bel.mono GBV.out.size)
                clear HWS
                have p50 := (HF5.out _ GB).cell 0
                have p51 := (HF5.out _ GB).cell 1
                have p52 := (HF5.out _ GB).cell 2
                have p60 := (HF6.out _ GB).cell 0
                have p61 := (HF6.out _ GB).cell 1
                have p62 := (HF6.out _ GB).cell 2
                go_wp2_with fail
                refine (HSm.out _ GB).mono ?_
                rintro e w9 ⟨rfl, h2⟩
                have HBF := Lib.hid (GBX.out.trans ((GB.trans (h2.mono GB.size)).mono GBX.out.size))
                clear h2 GB p50 p51 p52 p60 p61 p62
                go_wp2_with fail
                go_roundw
                case rel => exact ⟨k + 1, HJ.out.1, HJ.out.2, by go_num, HBF⟩
                case measure => simp [intOf] <;> omega
    · obtain rfl : k = n := by omega
      go_wp2_with fail
      go_ret
      exact ⟨rfl, HB.out⟩

end Go.Proofs.Ytngbamoffjlodaa
