/-
  The contract of the document's Compare of fractions. No statement is proved here.
-/
import Derived.Test.YtngbamoffjlodaaZFs
import Derived.Test.YtngbamoffjlodaaZWe
import Derived.Deep.CutBlock
namespace Go.Proofs.Ytngbamoffjlodaa
open Go.RowKit

/-- which is less -/
def cmpI (x y : Nat) : Int := if x < y then -1 else if y < x then 1 else 0

set_option maxHeartbeats 8000000 in
set_option maxRecDepth 100000 in
theorem rcompare_any (ah al ax bh bl bx : Nat) (w : World) (hah : ah < 2 ^ 64) (hal : al < 2 ^ 64) (hax : ax < 2 ^ 64) (hbh : bh < 2 ^ 64) (hbl : bl < 2 ^ 64) (hbx : bx < 2 ^ 64) :
    Calls Try.prog 50 #[.agg (fr ah al ax), .agg (fr bh bl bx)] w (Said (.int .i64 (cmpI ((ah * 2 ^ 64 + al) * bx) ((bh * 2 ^ 64 + bl) * ax))) w) := by
  have hz := zero_bits
  have HOA := Lib.hid (fun u => of_c ah al u hah hal)
  have HOB := Lib.hid (fun u => of_c bh bl u hbh hbl)
  obtain ⟨NA, hNA⟩ : ∃ NA, ah * 2 ^ 64 + al = NA := ⟨_, rfl⟩
  obtain ⟨NB, hNB⟩ : ∃ NB, bh * 2 ^ 64 + bl = NB := ⟨_, rfl⟩
  have hm1 : NA * bx < 2 ^ 256 := Nat.lt_of_le_of_lt (Nat.mul_le_mul (show NA ≤ 2 ^ 128 by omega) (Nat.le_of_lt hbx)) (by decide)
  have hm2 : NB * ax < 2 ^ 256 := Nat.lt_of_le_of_lt (Nat.mul_le_mul (show NB ≤ 2 ^ 128 by omega) (Nat.le_of_lt hax)) (by decide)
  rw [hNA] at HOA ⊢
  rw [hNB] at HOB ⊢
  have HPA := Lib.hid (fun u => product_c NA bx u hbx)
  have HPB := Lib.hid (fun u => product_c NB ax u hax)
  obtain ⟨M1, hM1⟩ : ∃ M1, NA * bx = M1 := ⟨_, rfl⟩
  obtain ⟨M2, hM2⟩ : ∃ M2, NB * ax = M2 := ⟨_, rfl⟩
  rw [hM1] at HPA hm1 ⊢
  rw [hM2] at HPB hm2 ⊢
  have HL1 := Lib.hid (fun u => less_c M1 M2 u hm1 hm2)
  have HL2 := Lib.hid (fun u => less_c M2 M1 u hm2 hm1)
  obtain ⟨b1, b2, bb⟩ := blks2 w 45 45 (fr ah al ax) (fr bh bl bx)
  have HB := Lib.hid (And.intro b1 (And.intro b2 bb))
  clear hah hal hax hbh hbl hbx hNA hNB hm1 hm2 hM1 hM2 b1 b2 bb
  unfold fr at *
  go_enter Try.func50, Try.ntmps50
  go_upto_region 1 with fail
  have FA := HB.out.1
  have FB := HB.out.2.1
  have GB := HB.out.2.2
  clear HB
  generalize (w.alloc (.cells #[.int .u64 (ah : Int), .int .u64 (al : Int), .int .u64 (ax : Int)] 45)).alloc (.cells #[.int .u64 (bh : Int), .int .u64 (bl : Int), .int .u64 (bx : Int)] 45) = V0 at FA FB GB ⊢
  replace FA : Blk V0.drew _ _ _ := FA
  replace FB : Blk V0.drew _ _ _ := FB
  replace GB := GB.drew
  go_cut [5] (fun s5 wx => ∃ g5 : Nat, s5 = .pointer (some ⟨g5, 0, none⟩) ∧ w.heap.size + 1 < g5 ∧ Blk wx g5 113 (cellsOf M1.testBit) ∧ Blk wx w.heap.size 45 #[.int .u64 (ah : Int), .int .u64 (al : Int), .int .u64 (ax : Int)] ∧ Blk wx (w.heap.size + 1) 45 #[.int .u64 (bh : Int), .int .u64 (bl : Int), .int .u64 (bx : Int)] ∧ Below w.heap.size w wx)
  case first =>
    refine wp_region_held_drew (S := fun W => Blk W w.heap.size 45 #[.int .u64 (ah : Int), .int .u64 (al : Int), .int .u64 (ax : Int)] ∧ Blk W (w.heap.size + 1) 45 #[.int .u64 (bh : Int), .int .u64 (bl : Int), .int .u64 (bx : Int)]) (by kernel_rfl) ⟨FA, FB⟩ (fun hS => ?_)
    generalize V0.drew = V at FA FB GB hS ⊢
    refine wpAnyH_take (i := 0) (v := .pointer (some ⟨w.heap.size, 0, none⟩)) rfl (by kernel_rfl) (by kernel_rfl) (by kernel_rfl) (fun _ _ _ h => h) (Or.inl ⟨by rfl, fun u hSw => (by go_simp)⟩) hS ?_
    refine wpAnyH_take (i := 1) (v := .agg #[.int .u64 (ah : Int), .int .u64 (al : Int)]) rfl (by kernel_rfl) (by kernel_rfl) (by kernel_rfl) (fun _ _ _ h => h) (Or.inl ⟨by rfl, fun u hSw => (by have c0 : u.cell? ⟨w.heap.size, 0, none⟩ = some (.int .u64 (ah : Int)) := (hSw.1).cell 0; have c1 : u.cell? ⟨w.heap.size, 1, none⟩ = some (.int .u64 (al : Int)) := (hSw.1).cell 1; go_simp)⟩) hS ?_
    refine wpAnyH_take (i := 3) (v := .pointer (some ⟨w.heap.size + 1, 2, none⟩)) rfl (by kernel_rfl) (by kernel_rfl) (by kernel_rfl) (fun _ _ _ h => h) (Or.inl ⟨by rfl, fun u hSw => (by go_simp)⟩) hS ?_
    refine wpAnyH_take (i := 4) (v := .int .u64 (bx : Int)) rfl (by kernel_rfl) (by kernel_rfl) (by kernel_rfl) (fun _ _ _ h => h) (Or.inl ⟨by rfl, fun u hSw => (by have c : u.cell? ⟨w.heap.size + 1, 2, none⟩ = some (.int .u64 (bx : Int)) := (hSw.2).cell 2; go_simp)⟩) hS ?_
    refine wpAnyH_ready (rs := [2, 6]) (by kernel_rfl) (by simp) ?_
    refine AllReadyH.cons rfl (fun K hK => ?_) (AllReadyH.cons rfl (fun K hK => ?_) (AllReadyH.nil))
    · skip
      go_simp
      refine (HOA.out _).mono ?_
      rintro e w1 ⟨rfl, h1⟩
      replace FA := FA.below h1 FA.lt
      replace FB := FB.below h1 FB.lt
      replace GB := GB.trans (h1.mono GB.size)
      clear h1
      refine hK.out _ _ ⟨FA, FB⟩ (fun hS => ?_)
      clear hK K
      refine wpAnyH_ready (rs := [5, 6]) (by kernel_rfl) (by simp) ?_
      refine AllReadyH.cons rfl (fun K hK => ?_) (AllReadyH.cons rfl (fun K hK => ?_) (AllReadyH.nil))
      · skip
        go_simp
        refine (HPA.out _).mono ?_
        rintro e w2 ⟨rfl, h2⟩
        replace FA := FA.below h2 FA.lt
        replace FB := FB.below h2 FB.lt
        replace GB := GB.trans (h2.mono GB.size)
        clear h2
        refine hK.out _ _ ⟨FA, FB⟩ (fun hS => ?_)
        clear hK K
        refine wpAnyH_ready (rs := [6]) (by kernel_rfl) (by simp) ?_
        refine AllReadyH.cons rfl (fun K hK => ?_) (AllReadyH.nil)
        go_simp
        have F5 := Blk.new w2 113 (cellsOf none_)
        have l5A : w.heap.size < w2.heap.size := FA.lt
        replace FA := FA.alloc (.cells (cellsOf none_) 113)
        have l5B : w.heap.size + 1 < w2.heap.size := FB.lt
        replace FB := FB.alloc (.cells (cellsOf none_) 113)
        have L5 := GB.size
        replace GB := GB.alloc GB.size (.cells (cellsOf none_) 113)
        refine hK.out _ _ ⟨FA, FB⟩ (fun hS => ?_)
        clear hK K
        generalize w2.alloc (.cells (cellsOf none_) 113) = U3 at F5 FA FB GB hS ⊢
        generalize w2.heap.size = g5 at F5 l5A l5B L5 ⊢
        refine wpAnyH_ready (rs := [7]) (by kernel_rfl) (by simp) ?_
        refine AllReadyH.cons rfl (fun K hK => ?_) (AllReadyH.nil)
        have O4 := F5
        replace FA := FA.other (g' := g5) (cs' := cellsOf M1.testBit) (by omega)
        replace FB := FB.other (g' := g5) (cs' := cellsOf M1.testBit) (by omega)
        replace F5 := F5.row (cs' := cellsOf M1.testBit)
        replace GB := below_row (g' := g5) (cs' := cellsOf M1.testBit) GB (by omega)
        refine keep_row rfl 113 (.tmp 5) (.tmp 12) rfl _ _ rfl rfl _ _ O4 (size_bits _) (by rw [cellsOf_size, cellsOf_size]) (cellsOf_one _) (hK.out _ _ ⟨FA, FB⟩ (fun hS => ?_))
        clear hK K O4
        generalize U3.setRow (g5) (cellsOf M1.testBit) = U4 at FA FB F5 GB hS ⊢
        refine wpAnyH_done (by kernel_rfl) ?_ _
        go_wp2_with fail
        go_meet
        exact ⟨g5, rfl, by omega, F5, FA, FB, GB⟩
      · skip
        go_simp
        have F5 := Blk.new w1 113 (cellsOf none_)
        have l5A : w.heap.size < w1.heap.size := FA.lt
        replace FA := FA.alloc (.cells (cellsOf none_) 113)
        have l5B : w.heap.size + 1 < w1.heap.size := FB.lt
        replace FB := FB.alloc (.cells (cellsOf none_) 113)
        have L5 := GB.size
        replace GB := GB.alloc GB.size (.cells (cellsOf none_) 113)
        refine hK.out _ _ ⟨FA, FB⟩ (fun hS => ?_)
        clear hK K
        generalize w1.alloc (.cells (cellsOf none_) 113) = U5 at F5 FA FB GB hS ⊢
        generalize w1.heap.size = g5 at F5 l5A l5B L5 ⊢
        refine wpAnyH_ready (rs := [5]) (by kernel_rfl) (by simp) ?_
        refine AllReadyH.cons rfl (fun K hK => ?_) (AllReadyH.nil)
        go_simp
        refine (HPA.out _).mono ?_
        rintro e w6 ⟨rfl, h6⟩
        replace FA := FA.below h6 FA.lt
        replace FB := FB.below h6 FB.lt
        replace F5 := F5.below h6 F5.lt
        replace GB := GB.trans (h6.mono GB.size)
        clear h6
        refine hK.out _ _ ⟨FA, FB⟩ (fun hS => ?_)
        clear hK K
        refine wpAnyH_ready (rs := [7]) (by kernel_rfl) (by simp) ?_
        refine AllReadyH.cons rfl (fun K hK => ?_) (AllReadyH.nil)
        have O7 := F5
        replace FA := FA.other (g' := g5) (cs' := cellsOf M1.testBit) (by omega)
        replace FB := FB.other (g' := g5) (cs' := cellsOf M1.testBit) (by omega)
        replace F5 := F5.row (cs' := cellsOf M1.testBit)
        replace GB := below_row (g' := g5) (cs' := cellsOf M1.testBit) GB (by omega)
        refine keep_row rfl 113 (.tmp 5) (.tmp 12) rfl _ _ rfl rfl _ _ O7 (size_bits _) (by rw [cellsOf_size, cellsOf_size]) (cellsOf_one _) (hK.out _ _ ⟨FA, FB⟩ (fun hS => ?_))
        clear hK K O7
        generalize w6.setRow (g5) (cellsOf M1.testBit) = U7 at FA FB F5 GB hS ⊢
        refine wpAnyH_done (by kernel_rfl) ?_ _
        go_wp2_with fail
        go_meet
        exact ⟨g5, rfl, by omega, F5, FA, FB, GB⟩
    · skip
      go_simp
      have F5 := Blk.new V 113 (cellsOf none_)
      have l5A : w.heap.size < V.heap.size := FA.lt
      replace FA := FA.alloc (.cells (cellsOf none_) 113)
      have l5B : w.heap.size + 1 < V.heap.size := FB.lt
      replace FB := FB.alloc (.cells (cellsOf none_) 113)
      have L5 := GB.size
      replace GB := GB.alloc GB.size (.cells (cellsOf none_) 113)
      refine hK.out _ _ ⟨FA, FB⟩ (fun hS => ?_)
      clear hK K
      generalize V.alloc (.cells (cellsOf none_) 113) = U8 at F5 FA FB GB hS ⊢
      generalize V.heap.size = g5 at F5 l5A l5B L5 ⊢
      refine wpAnyH_ready (rs := [2]) (by kernel_rfl) (by simp) ?_
      refine AllReadyH.cons rfl (fun K hK => ?_) (AllReadyH.nil)
      go_simp
      refine (HOA.out _).mono ?_
      rintro e w9 ⟨rfl, h9⟩
      replace FA := FA.below h9 FA.lt
      replace FB := FB.below h9 FB.lt
      replace F5 := F5.below h9 F5.lt
      replace GB := GB.trans (h9.mono GB.size)
      clear h9
      refine hK.out _ _ ⟨FA, FB⟩ (fun hS => ?_)
      clear hK K
      refine wpAnyH_ready (rs := [5]) (by kernel_rfl) (by simp) ?_
      refine AllReadyH.cons rfl (fun K hK => ?_) (AllReadyH.nil)
      go_simp
      refine (HPA.out _).mono ?_
      rintro e w10 ⟨rfl, h10⟩
      replace FA := FA.below h10 FA.lt
      replace FB := FB.below h10 FB.lt
      replace F5 := F5.below h10 F5.lt
      replace GB := GB.trans (h10.mono GB.size)
      clear h10
      refine hK.out _ _ ⟨FA, FB⟩ (fun hS => ?_)
      clear hK K
      refine wpAnyH_ready (rs := [7]) (by kernel_rfl) (by simp) ?_
      refine AllReadyH.cons rfl (fun K hK => ?_) (AllReadyH.nil)
      have O11 := F5
      replace FA := FA.other (g' := g5) (cs' := cellsOf M1.testBit) (by omega)
      replace FB := FB.other (g' := g5) (cs' := cellsOf M1.testBit) (by omega)
      replace F5 := F5.row (cs' := cellsOf M1.testBit)
      replace GB := below_row (g' := g5) (cs' := cellsOf M1.testBit) GB (by omega)
      refine keep_row rfl 113 (.tmp 5) (.tmp 12) rfl _ _ rfl rfl _ _ O11 (size_bits _) (by rw [cellsOf_size, cellsOf_size]) (cellsOf_one _) (hK.out _ _ ⟨FA, FB⟩ (fun hS => ?_))
      clear hK K O11
      generalize w10.setRow (g5) (cellsOf M1.testBit) = U11 at FA FB F5 GB hS ⊢
      refine wpAnyH_done (by kernel_rfl) ?_ _
      go_wp2_with fail
      go_meet
      exact ⟨g5, rfl, by omega, F5, FA, FB, GB⟩
  case rest =>
    clear FA FB GB HOA HPA
    obtain ⟨g5, rfl, hg5, F5, FA, FB, GB⟩ := hcut
    go_upto_region 2 with fail
    go_cut [6] (fun s6 wx => ∃ g6 : Nat, s6 = .pointer (some ⟨g6, 0, none⟩) ∧ Blk wx g6 113 (cellsOf M2.testBit) ∧ Blk wx g5 113 (cellsOf M1.testBit) ∧ Below w.heap.size w wx)
    case first =>
      replace FA : Blk (World.drew _) _ _ _ := FA
      replace FB : Blk (World.drew _) _ _ _ := FB
      replace F5 : Blk (World.drew _) _ _ _ := F5
      replace GB := GB.drew
      refine wp_region_held_drew (S := fun W => Blk W w.heap.size 45 #[.int .u64 (ah : Int), .int .u64 (al : Int), .int .u64 (ax : Int)] ∧ Blk W (w.heap.size + 1) 45 #[.int .u64 (bh : Int), .int .u64 (bl : Int), .int .u64 (bx : Int)]) (by kernel_rfl) ⟨FA, FB⟩ (fun hS => ?_)
      generalize World.drew _ = V at FA FB F5 GB hS ⊢
      refine wpAnyH_take (i := 0) (v := .pointer (some ⟨w.heap.size + 1, 0, none⟩)) rfl (by kernel_rfl) (by kernel_rfl) (by kernel_rfl) (fun _ _ _ h => h) (Or.inl ⟨by rfl, fun u hSw => (by go_simp)⟩) hS ?_
      refine wpAnyH_take (i := 1) (v := .agg #[.int .u64 (bh : Int), .int .u64 (bl : Int)]) rfl (by kernel_rfl) (by kernel_rfl) (by kernel_rfl) (fun _ _ _ h => h) (Or.inl ⟨by rfl, fun u hSw => (by have c0 : u.cell? ⟨w.heap.size + 1, 0, none⟩ = some (.int .u64 (bh : Int)) := (hSw.2).cell 0; have c1 : u.cell? ⟨w.heap.size + 1, 1, none⟩ = some (.int .u64 (bl : Int)) := (hSw.2).cell 1; go_simp)⟩) hS ?_
      refine wpAnyH_take (i := 3) (v := .pointer (some ⟨w.heap.size, 2, none⟩)) rfl (by kernel_rfl) (by kernel_rfl) (by kernel_rfl) (fun _ _ _ h => h) (Or.inl ⟨by rfl, fun u hSw => (by go_simp)⟩) hS ?_
      refine wpAnyH_take (i := 4) (v := .int .u64 (ax : Int)) rfl (by kernel_rfl) (by kernel_rfl) (by kernel_rfl) (fun _ _ _ h => h) (Or.inl ⟨by rfl, fun u hSw => (by have c : u.cell? ⟨w.heap.size, 2, none⟩ = some (.int .u64 (ax : Int)) := (hSw.1).cell 2; go_simp)⟩) hS ?_
      refine wpAnyH_ready (rs := [2, 6]) (by kernel_rfl) (by simp) ?_
      refine AllReadyH.cons rfl (fun K hK => ?_) (AllReadyH.cons rfl (fun K hK => ?_) (AllReadyH.nil))
      · skip
        go_simp
        refine (HOB.out _).mono ?_
        rintro e w1 ⟨rfl, h1⟩
        replace FA := FA.below h1 FA.lt
        replace FB := FB.below h1 FB.lt
        replace F5 := F5.below h1 F5.lt
        replace GB := GB.trans (h1.mono GB.size)
        clear h1
        refine hK.out _ _ ⟨FA, FB⟩ (fun hS => ?_)
        clear hK K
        refine wpAnyH_ready (rs := [5, 6]) (by kernel_rfl) (by simp) ?_
        refine AllReadyH.cons rfl (fun K hK => ?_) (AllReadyH.cons rfl (fun K hK => ?_) (AllReadyH.nil))
        · skip
          go_simp
          refine (HPB.out _).mono ?_
          rintro e w2 ⟨rfl, h2⟩
          replace FA := FA.below h2 FA.lt
          replace FB := FB.below h2 FB.lt
          replace F5 := F5.below h2 F5.lt
          replace GB := GB.trans (h2.mono GB.size)
          clear h2
          refine hK.out _ _ ⟨FA, FB⟩ (fun hS => ?_)
          clear hK K
          refine wpAnyH_ready (rs := [6]) (by kernel_rfl) (by simp) ?_
          refine AllReadyH.cons rfl (fun K hK => ?_) (AllReadyH.nil)
          go_simp
          have F6 := Blk.new w2 113 (cellsOf none_)
          have l6A : w.heap.size < w2.heap.size := FA.lt
          replace FA := FA.alloc (.cells (cellsOf none_) 113)
          have l6B : w.heap.size + 1 < w2.heap.size := FB.lt
          replace FB := FB.alloc (.cells (cellsOf none_) 113)
          have l65 : g5 < w2.heap.size := F5.lt
          replace F5 := F5.alloc (.cells (cellsOf none_) 113)
          have L6 := GB.size
          replace GB := GB.alloc GB.size (.cells (cellsOf none_) 113)
          refine hK.out _ _ ⟨FA, FB⟩ (fun hS => ?_)
          clear hK K
          generalize w2.alloc (.cells (cellsOf none_) 113) = U3 at F6 FA FB F5 GB hS ⊢
          generalize w2.heap.size = g6 at F6 l6A l6B l65 L6 ⊢
          refine wpAnyH_ready (rs := [7]) (by kernel_rfl) (by simp) ?_
          refine AllReadyH.cons rfl (fun K hK => ?_) (AllReadyH.nil)
          have O4 := F6
          replace FA := FA.other (g' := g6) (cs' := cellsOf M2.testBit) (by omega)
          replace FB := FB.other (g' := g6) (cs' := cellsOf M2.testBit) (by omega)
          replace F5 := F5.other (g' := g6) (cs' := cellsOf M2.testBit) (by omega)
          replace F6 := F6.row (cs' := cellsOf M2.testBit)
          replace GB := below_row (g' := g6) (cs' := cellsOf M2.testBit) GB (by omega)
          refine keep_row rfl 113 (.tmp 6) (.tmp 18) rfl _ _ rfl rfl _ _ O4 (size_bits _) (by rw [cellsOf_size, cellsOf_size]) (cellsOf_one _) (hK.out _ _ ⟨FA, FB⟩ (fun hS => ?_))
          clear hK K O4
          generalize U3.setRow (g6) (cellsOf M2.testBit) = U4 at FA FB F5 F6 GB hS ⊢
          refine wpAnyH_done (by kernel_rfl) ?_ _
          go_wp2_with fail
          go_meet
          exact ⟨g6, rfl, F6, F5, GB⟩
        · skip
          go_simp
          have F6 := Blk.new w1 113 (cellsOf none_)
          have l6A : w.heap.size < w1.heap.size := FA.lt
          replace FA := FA.alloc (.cells (cellsOf none_) 113)
          have l6B : w.heap.size + 1 < w1.heap.size := FB.lt
          replace FB := FB.alloc (.cells (cellsOf none_) 113)
          have l65 : g5 < w1.heap.size := F5.lt
          replace F5 := F5.alloc (.cells (cellsOf none_) 113)
          have L6 := GB.size
          replace GB := GB.alloc GB.size (.cells (cellsOf none_) 113)
          refine hK.out _ _ ⟨FA, FB⟩ (fun hS => ?_)
          clear hK K
          generalize w1.alloc (.cells (cellsOf none_) 113) = U5 at F6 FA FB F5 GB hS ⊢
          generalize w1.heap.size = g6 at F6 l6A l6B l65 L6 ⊢
          refine wpAnyH_ready (rs := [5]) (by kernel_rfl) (by simp) ?_
          refine AllReadyH.cons rfl (fun K hK => ?_) (AllReadyH.nil)
          go_simp
          refine (HPB.out _).mono ?_
          rintro e w6 ⟨rfl, h6⟩
          replace FA := FA.below h6 FA.lt
          replace FB := FB.below h6 FB.lt
          replace F5 := F5.below h6 F5.lt
          replace F6 := F6.below h6 F6.lt
          replace GB := GB.trans (h6.mono GB.size)
          clear h6
          refine hK.out _ _ ⟨FA, FB⟩ (fun hS => ?_)
          clear hK K
          refine wpAnyH_ready (rs := [7]) (by kernel_rfl) (by simp) ?_
          refine AllReadyH.cons rfl (fun K hK => ?_) (AllReadyH.nil)
          have O7 := F6
          replace FA := FA.other (g' := g6) (cs' := cellsOf M2.testBit) (by omega)
          replace FB := FB.other (g' := g6) (cs' := cellsOf M2.testBit) (by omega)
          replace F5 := F5.other (g' := g6) (cs' := cellsOf M2.testBit) (by omega)
          replace F6 := F6.row (cs' := cellsOf M2.testBit)
          replace GB := below_row (g' := g6) (cs' := cellsOf M2.testBit) GB (by omega)
          refine keep_row rfl 113 (.tmp 6) (.tmp 18) rfl _ _ rfl rfl _ _ O7 (size_bits _) (by rw [cellsOf_size, cellsOf_size]) (cellsOf_one _) (hK.out _ _ ⟨FA, FB⟩ (fun hS => ?_))
          clear hK K O7
          generalize w6.setRow (g6) (cellsOf M2.testBit) = U7 at FA FB F5 F6 GB hS ⊢
          refine wpAnyH_done (by kernel_rfl) ?_ _
          go_wp2_with fail
          go_meet
          exact ⟨g6, rfl, F6, F5, GB⟩
      · skip
        go_simp
        have F6 := Blk.new V 113 (cellsOf none_)
        have l6A : w.heap.size < V.heap.size := FA.lt
        replace FA := FA.alloc (.cells (cellsOf none_) 113)
        have l6B : w.heap.size + 1 < V.heap.size := FB.lt
        replace FB := FB.alloc (.cells (cellsOf none_) 113)
        have l65 : g5 < V.heap.size := F5.lt
        replace F5 := F5.alloc (.cells (cellsOf none_) 113)
        have L6 := GB.size
        replace GB := GB.alloc GB.size (.cells (cellsOf none_) 113)
        refine hK.out _ _ ⟨FA, FB⟩ (fun hS => ?_)
        clear hK K
        generalize V.alloc (.cells (cellsOf none_) 113) = U8 at F6 FA FB F5 GB hS ⊢
        generalize V.heap.size = g6 at F6 l6A l6B l65 L6 ⊢
        refine wpAnyH_ready (rs := [2]) (by kernel_rfl) (by simp) ?_
        refine AllReadyH.cons rfl (fun K hK => ?_) (AllReadyH.nil)
        go_simp
        refine (HOB.out _).mono ?_
        rintro e w9 ⟨rfl, h9⟩
        replace FA := FA.below h9 FA.lt
        replace FB := FB.below h9 FB.lt
        replace F5 := F5.below h9 F5.lt
        replace F6 := F6.below h9 F6.lt
        replace GB := GB.trans (h9.mono GB.size)
        clear h9
        refine hK.out _ _ ⟨FA, FB⟩ (fun hS => ?_)
        clear hK K
        refine wpAnyH_ready (rs := [5]) (by kernel_rfl) (by simp) ?_
        refine AllReadyH.cons rfl (fun K hK => ?_) (AllReadyH.nil)
        go_simp
        refine (HPB.out _).mono ?_
        rintro e w10 ⟨rfl, h10⟩
        replace FA := FA.below h10 FA.lt
        replace FB := FB.below h10 FB.lt
        replace F5 := F5.below h10 F5.lt
        replace F6 := F6.below h10 F6.lt
        replace GB := GB.trans (h10.mono GB.size)
        clear h10
        refine hK.out _ _ ⟨FA, FB⟩ (fun hS => ?_)
        clear hK K
        refine wpAnyH_ready (rs := [7]) (by kernel_rfl) (by simp) ?_
        refine AllReadyH.cons rfl (fun K hK => ?_) (AllReadyH.nil)
        have O11 := F6
        replace FA := FA.other (g' := g6) (cs' := cellsOf M2.testBit) (by omega)
        replace FB := FB.other (g' := g6) (cs' := cellsOf M2.testBit) (by omega)
        replace F5 := F5.other (g' := g6) (cs' := cellsOf M2.testBit) (by omega)
        replace F6 := F6.row (cs' := cellsOf M2.testBit)
        replace GB := below_row (g' := g6) (cs' := cellsOf M2.testBit) GB (by omega)
        refine keep_row rfl 113 (.tmp 6) (.tmp 18) rfl _ _ rfl rfl _ _ O11 (size_bits _) (by rw [cellsOf_size, cellsOf_size]) (cellsOf_one _) (hK.out _ _ ⟨FA, FB⟩ (fun hS => ?_))
        clear hK K O11
        generalize w10.setRow (g6) (cellsOf M2.testBit) = U11 at FA FB F5 F6 GB hS ⊢
        refine wpAnyH_done (by kernel_rfl) ?_ _
        go_wp2_with fail
        go_meet
        exact ⟨g6, rfl, F6, F5, GB⟩
    case rest =>
      clear F5 FA FB GB HOB HPB hz
      obtain ⟨g6, rfl, F6, F5, GB⟩ := hcut
      by_cases h1 : M1 < M2
      · have HV : Hid (cmpI M1 M2 = -1) := Lib.hid (if_pos h1)
        rw [decide_eq_true h1] at HL1
        clear h1 HL2
        go_wp2_with (first
        | (refine wpList_load_row rfl 113 (.tmp 5) rfl _ rfl _ _ (0, 0) _ F5 Try.underlying113 rfl (size_bits _) ?_)
        | (refine wpList_load_row rfl 113 (.tmp 6) rfl _ rfl _ _ (0, 0) _ F6 Try.underlying113 rfl (size_bits _) ?_))
        refine (HL1.out _).mono ?_
        rintro e w2 ⟨rfl, h2⟩
        have B2 := GB.trans (h2.mono GB.size)
        clear F5 F6 GB h2
        go_wp2
        go_ret
        exact ⟨by rw [HV.out]; rfl, B2⟩
      · rw [decide_eq_false h1] at HL1
        by_cases h2 : M2 < M1
        · have HV : Hid (cmpI M1 M2 = 1) := Lib.hid (by unfold cmpI; rw [if_neg h1, if_pos h2])
          rw [decide_eq_true h2] at HL2
          clear h1 h2
          go_wp2_with (first
        | (refine wpList_load_row rfl 113 (.tmp 5) rfl _ rfl _ _ (0, 0) _ F5 Try.underlying113 rfl (size_bits _) ?_)
        | (refine wpList_load_row rfl 113 (.tmp 6) rfl _ rfl _ _ (0, 0) _ F6 Try.underlying113 rfl (size_bits _) ?_))
          refine (HL1.out _).mono ?_
          rintro e w2 ⟨rfl, h2⟩
          have G5 := F5.below h2 F5.lt
          have G6 := F6.below h2 F6.lt
          have B2 := GB.trans (h2.mono GB.size)
          clear F5 F6 GB h2
          go_wp2_with (first
        | (refine wpList_load_row rfl 113 (.tmp 5) rfl _ rfl _ _ (0, 0) _ G5 Try.underlying113 rfl (size_bits _) ?_)
        | (refine wpList_load_row rfl 113 (.tmp 6) rfl _ rfl _ _ (0, 0) _ G6 Try.underlying113 rfl (size_bits _) ?_))
          refine (HL2.out _).mono ?_
          rintro e w3 ⟨rfl, h3⟩
          have B3 := B2.trans (h3.mono B2.size)
          clear G5 G6 B2 h3
          go_wp2
          go_ret
          exact ⟨by rw [HV.out]; rfl, B3⟩
        · have HV : Hid (cmpI M1 M2 = 0) := Lib.hid (by unfold cmpI; rw [if_neg h1, if_neg h2])
          rw [decide_eq_false h2] at HL2
          clear h1 h2
          go_wp2_with (first
        | (refine wpList_load_row rfl 113 (.tmp 5) rfl _ rfl _ _ (0, 0) _ F5 Try.underlying113 rfl (size_bits _) ?_)
        | (refine wpList_load_row rfl 113 (.tmp 6) rfl _ rfl _ _ (0, 0) _ F6 Try.underlying113 rfl (size_bits _) ?_))
          refine (HL1.out _).mono ?_
          rintro e w2 ⟨rfl, h2⟩
          have G5 := F5.below h2 F5.lt
          have G6 := F6.below h2 F6.lt
          have B2 := GB.trans (h2.mono GB.size)
          clear F5 F6 GB h2
          go_wp2_with (first
        | (refine wpList_load_row rfl 113 (.tmp 5) rfl _ rfl _ _ (0, 0) _ G5 Try.underlying113 rfl (size_bits _) ?_)
        | (refine wpList_load_row rfl 113 (.tmp 6) rfl _ rfl _ _ (0, 0) _ G6 Try.underlying113 rfl (size_bits _) ?_))
          refine (HL2.out _).mono ?_
          rintro e w3 ⟨rfl, h3⟩
          have B3 := B2.trans (h3.mono B2.size)
          clear G5 G6 B2 h3
          go_wp2
          go_ret
          exact ⟨by rw [HV.out]; rfl, B3⟩

end Go.Proofs.Ytngbamoffjlodaa
