/-
  The contract of the landed wide's comparison. No statement is proved here.
-/
import Derived.Test.YtngbamoffjlodaaZDWe
namespace Go.Proofs.Ytngbamoffjlodaa.Dw
open Go.RowKit

set_option maxRecDepth 100000 in
/-- a call that leaves the world alone, behind a region that has drawn -/
theorem quiet_again {f : FuncId} {args : Array Value} {w : World} {a n : Nat} {v : Value} (h : Calls Try.prog f args (w.drewN (a + n)) fun e w' => e = .returned v ∧ w' = w.drewN (a + n)) :
    Calls Try.prog f args (w.drewN (a + n)) fun e w' => e = .returned v ∧ ∃ m, w' = w.drewN (a + m) := h.mono fun _ _ hh => ⟨hh.1, n, hh.2⟩

/-- how two rows of quarters compare -/
def cmpZ (f g : Nat → Nat) : Int :=
  if f 0 < g 0 then -1 else if g 0 < f 0 then 1 else if f 1 < g 1 then -1 else if g 1 < f 1 then 1 else if f 2 < g 2 then -1 else if g 2 < f 2 then 1 else if f 3 < g 3 then -1 else if g 3 < f 3 then 1 else 0
set_option maxRecDepth 100000 in
theorem cmpZ_cases (f g : Nat → Nat) : ((∀ j, j < 4 → f j = g j) ∧ cmpZ f g = 0) ∨ ∃ k0, k0 < 4 ∧ (∀ j, j < k0 → f j = g j) ∧ ((f k0 < g k0 ∧ cmpZ f g = -1) ∨ (g k0 < f k0 ∧ cmpZ f g = 1)) := by
  unfold cmpZ
  by_cases h0 : f 0 = g 0
  · by_cases h1 : f 1 = g 1
    · by_cases h2 : f 2 = g 2
      · by_cases h3 : f 3 = g 3
        · left
          refine ⟨fun j hj => ?_, ?_⟩
          · have : j = 0 ∨ j = 1 ∨ j = 2 ∨ j = 3 := by omega
            rcases this with rfl | rfl | rfl | rfl <;> assumption
          · rw [h0, h1, h2, h3]; simp
        · right
          refine ⟨3, by omega, fun j hj => ?_, ?_⟩
          · have : j = 0 ∨ j = 1 ∨ j = 2 := by omega
            rcases this with rfl | rfl | rfl <;> assumption
          · rw [h0, h1, h2]; simp; omega
      · right
        refine ⟨2, by omega, fun j hj => ?_, ?_⟩
        · have : j = 0 ∨ j = 1 := by omega
          rcases this with rfl | rfl <;> assumption
        · rw [h0, h1]; simp; omega
    · right
      refine ⟨1, by omega, fun j hj => ?_, ?_⟩
      · have : j = 0 := by omega
        subst this; assumption
      · rw [h0]; simp; omega
  · right
    refine ⟨0, by omega, fun j hj => by omega, ?_⟩
    simp; omega

set_option maxRecDepth 100000 in
set_option maxHeartbeats 4000000 in
theorem compare_any (ah al bh bl : Nat) (r : Int) (hr : cmpZ (qf ah al) (qf bh bl) = r) (hah : ah < 18446744073709551616) (hal : al < 18446744073709551616) (hbh : bh < 18446744073709551616) (hbl : bl < 18446744073709551616) (w : World) :
    Calls Try.prog 78 #[.agg #[.int .u64 (ah : Int), .int .u64 (al : Int)], .agg #[.int .u64 (bh : Int), .int .u64 (bl : Int)]] w (Ans (.int .i64 r) w) := by
  have HA := Lib.hid (fun u => split_any ah al hah hal u)
  have HB := Lib.hid (fun u => split_any bh bl hbh hbl u)
  generalize qf ah al = f at HA hr
  generalize qf bh bl = g at HB hr
  have HR := Lib.hid hr
  clear hr
  have b0 := blks2 w 43 43 #[.int .u64 (ah : Int), .int .u64 (al : Int)] #[.int .u64 (bh : Int), .int .u64 (bl : Int)]
  clear hah hal hbh hbl
  go_enter Try.func78, Try.ntmps78
  go_upto_region 1 with fail
  have FA : Blk (World.drew ((w.alloc (.cells #[.int .u64 (ah : Int), .int .u64 (al : Int)] 43)).alloc (.cells #[.int .u64 (bh : Int), .int .u64 (bl : Int)] 43))) _ _ _ := b0.1
  have FB : Blk (World.drew ((w.alloc (.cells #[.int .u64 (ah : Int), .int .u64 (al : Int)] 43)).alloc (.cells #[.int .u64 (bh : Int), .int .u64 (bl : Int)] 43))) _ _ _ := b0.2.1
  have GB : Below w.heap.size w (World.drew ((w.alloc (.cells #[.int .u64 (ah : Int), .int .u64 (al : Int)] 43)).alloc (.cells #[.int .u64 (bh : Int), .int .u64 (bl : Int)] 43))) := b0.2.2.drew
  clear b0
  go_cut [5, 6] (fun s5 s6 wx => ∃ g5 g6 : Nat, s5 = .pointer (some ⟨g5, 0, none⟩) ∧ s6 = .pointer (some ⟨g6, 0, none⟩) ∧ Blk wx g5 149 (qs f) ∧ Blk wx g6 149 (qs g) ∧ Below w.heap.size w wx)
  case first =>
    refine wp_region_held_drew (S := fun W => Blk W w.heap.size 43 #[.int .u64 (ah : Int), .int .u64 (al : Int)] ∧ Blk W (w.heap.size + 1) 43 #[.int .u64 (bh : Int), .int .u64 (bl : Int)]) (by kernel_rfl) ⟨FA, FB⟩ (fun hS => ?_)
    generalize World.drew ((w.alloc (.cells #[.int .u64 (ah : Int), .int .u64 (al : Int)] 43)).alloc (.cells #[.int .u64 (bh : Int), .int .u64 (bl : Int)] 43)) = V at FA FB GB hS ⊢
    refine wpAnyH_take (i := 0) (v := .agg (#[.int .u64 (ah : Int), .int .u64 (al : Int)])) rfl (by kernel_rfl) (by kernel_rfl) (by kernel_rfl) (fun _ _ _ h => h) (yields_row (by rfl) 43 (.tmp 2) rfl (w.heap.size) rfl _ _ _ (fun _ h => h.1) Try.underlying43 rfl (by kernel_rfl)) hS ?_
    refine wpAnyH_take (i := 2) (v := .agg (#[.int .u64 (bh : Int), .int .u64 (bl : Int)])) rfl (by kernel_rfl) (by kernel_rfl) (by kernel_rfl) (fun _ _ _ h => h) (yields_row (by rfl) 43 (.tmp 3) rfl (w.heap.size + 1) rfl _ _ _ (fun _ h => h.2) Try.underlying43 rfl (by kernel_rfl)) hS ?_
    refine wpAnyH_ready (rs := [1, 4, 5]) (by kernel_rfl) (by simp) ?_
    refine AllReadyH.cons rfl (fun K hK => ?_) (AllReadyH.cons rfl (fun K hK => ?_) (AllReadyH.cons rfl (fun K hK => ?_) (AllReadyH.nil)))
    · skip
      go_simp
      refine (HA.out _).mono ?_
      rintro e w1 ⟨rfl, h1⟩
      replace FA := FA.below h1 FA.lt
      replace FB := FB.below h1 FB.lt
      replace GB := GB.trans (h1.mono GB.size)
      clear h1
      refine hK.out _ _ ⟨FA, FB⟩ (fun hS => ?_)
      clear hK K
      refine wpAnyH_ready (rs := [3, 4, 5]) (by kernel_rfl) (by simp) ?_
      refine AllReadyH.cons rfl (fun K hK => ?_) (AllReadyH.cons rfl (fun K hK => ?_) (AllReadyH.cons rfl (fun K hK => ?_) (AllReadyH.nil)))
      · skip
        go_simp
        refine (HB.out _).mono ?_
        rintro e w2 ⟨rfl, h2⟩
        replace FA := FA.below h2 FA.lt
        replace FB := FB.below h2 FB.lt
        replace GB := GB.trans (h2.mono GB.size)
        clear h2
        refine hK.out _ _ ⟨FA, FB⟩ (fun hS => ?_)
        clear hK K
        refine wpAnyH_ready (rs := [4, 5]) (by kernel_rfl) (by simp) ?_
        refine AllReadyH.cons rfl (fun K hK => ?_) (AllReadyH.cons rfl (fun K hK => ?_) (AllReadyH.nil))
        · skip
          go_simp
          have F5 := Blk.new w2 149 (#[.int .u32 0, .int .u32 0, .int .u32 0, .int .u32 0])
          have l5A : w.heap.size < w2.heap.size := FA.lt
          replace FA := FA.alloc (.cells (#[.int .u32 0, .int .u32 0, .int .u32 0, .int .u32 0]) 149)
          have l5B : w.heap.size + 1 < w2.heap.size := FB.lt
          replace FB := FB.alloc (.cells (#[.int .u32 0, .int .u32 0, .int .u32 0, .int .u32 0]) 149)
          have L5 := GB.size
          replace GB := GB.alloc GB.size (.cells (#[.int .u32 0, .int .u32 0, .int .u32 0, .int .u32 0]) 149)
          refine hK.out _ _ ⟨FA, FB⟩ (fun hS => ?_)
          clear hK K
          generalize w2.alloc (.cells (#[.int .u32 0, .int .u32 0, .int .u32 0, .int .u32 0]) 149) = U3 at F5 FA FB GB hS ⊢
          generalize w2.heap.size = g5 at F5 l5A l5B L5 ⊢
          refine wpAnyH_ready (rs := [5]) (by kernel_rfl) (by simp) ?_
          refine AllReadyH.cons rfl (fun K hK => ?_) (AllReadyH.nil)
          go_simp
          have F6 := Blk.new U3 149 (#[.int .u32 0, .int .u32 0, .int .u32 0, .int .u32 0])
          have l6A : w.heap.size < U3.heap.size := FA.lt
          replace FA := FA.alloc (.cells (#[.int .u32 0, .int .u32 0, .int .u32 0, .int .u32 0]) 149)
          have l6B : w.heap.size + 1 < U3.heap.size := FB.lt
          replace FB := FB.alloc (.cells (#[.int .u32 0, .int .u32 0, .int .u32 0, .int .u32 0]) 149)
          have l65 : g5 < U3.heap.size := F5.lt
          replace F5 := F5.alloc (.cells (#[.int .u32 0, .int .u32 0, .int .u32 0, .int .u32 0]) 149)
          have L6 := GB.size
          replace GB := GB.alloc GB.size (.cells (#[.int .u32 0, .int .u32 0, .int .u32 0, .int .u32 0]) 149)
          refine hK.out _ _ ⟨FA, FB⟩ (fun hS => ?_)
          clear hK K
          generalize U3.alloc (.cells (#[.int .u32 0, .int .u32 0, .int .u32 0, .int .u32 0]) 149) = U4 at F6 FA FB F5 GB hS ⊢
          generalize U3.heap.size = g6 at F6 l6A l6B l65 L6 ⊢
          refine wpAnyH_ready (rs := [6]) (by kernel_rfl) (by simp) ?_
          refine AllReadyH.cons rfl (fun K hK => ?_) (AllReadyH.nil)
          have O5 := F5
          replace FA := FA.other (g' := g5) (cs' := qs f) (by omega)
          replace FB := FB.other (g' := g5) (cs' := qs f) (by omega)
          replace F6 := F6.other (g' := g5) (cs' := qs f) (by omega)
          replace F5 := F5.row (cs' := qs f)
          replace GB := below_row (g' := g5) (cs' := qs f) GB (by omega)
          refine keep_row rfl 149 (.tmp 5) (.tmp 9) rfl _ _ rfl rfl _ _ O5 (info_qs f) rfl (one_qs f) (hK.out _ _ ⟨FA, FB⟩ (fun hS => ?_))
          clear hK K O5
          generalize U4.setRow g5 (qs f) = U5 at FA FB F5 F6 GB hS ⊢
          refine wpAnyH_ready (rs := [7]) (by kernel_rfl) (by simp) ?_
          refine AllReadyH.cons rfl (fun K hK => ?_) (AllReadyH.nil)
          have O6 := F6
          replace FA := FA.other (g' := g6) (cs' := qs g) (by omega)
          replace FB := FB.other (g' := g6) (cs' := qs g) (by omega)
          replace F5 := F5.other (g' := g6) (cs' := qs g) (by omega)
          replace F6 := F6.row (cs' := qs g)
          replace GB := below_row (g' := g6) (cs' := qs g) GB (by omega)
          refine keep_row rfl 149 (.tmp 6) (.tmp 11) rfl _ _ rfl rfl _ _ O6 (info_qs g) rfl (one_qs g) (hK.out _ _ ⟨FA, FB⟩ (fun hS => ?_))
          clear hK K O6
          generalize U5.setRow g6 (qs g) = U6 at FA FB F5 F6 GB hS ⊢
          refine wpAnyH_done (by kernel_rfl) ?_ _
          go_wp2_with fail
          go_meet
          exact ⟨g5, g6, rfl, rfl, F5, F6, GB⟩
        · skip
          go_simp
          have F6 := Blk.new w2 149 (#[.int .u32 0, .int .u32 0, .int .u32 0, .int .u32 0])
          have l6A : w.heap.size < w2.heap.size := FA.lt
          replace FA := FA.alloc (.cells (#[.int .u32 0, .int .u32 0, .int .u32 0, .int .u32 0]) 149)
          have l6B : w.heap.size + 1 < w2.heap.size := FB.lt
          replace FB := FB.alloc (.cells (#[.int .u32 0, .int .u32 0, .int .u32 0, .int .u32 0]) 149)
          have L6 := GB.size
          replace GB := GB.alloc GB.size (.cells (#[.int .u32 0, .int .u32 0, .int .u32 0, .int .u32 0]) 149)
          refine hK.out _ _ ⟨FA, FB⟩ (fun hS => ?_)
          clear hK K
          generalize w2.alloc (.cells (#[.int .u32 0, .int .u32 0, .int .u32 0, .int .u32 0]) 149) = U7 at F6 FA FB GB hS ⊢
          generalize w2.heap.size = g6 at F6 l6A l6B L6 ⊢
          refine wpAnyH_ready (rs := [4]) (by kernel_rfl) (by simp) ?_
          refine AllReadyH.cons rfl (fun K hK => ?_) (AllReadyH.nil)
          go_simp
          have F5 := Blk.new U7 149 (#[.int .u32 0, .int .u32 0, .int .u32 0, .int .u32 0])
          have l5A : w.heap.size < U7.heap.size := FA.lt
          replace FA := FA.alloc (.cells (#[.int .u32 0, .int .u32 0, .int .u32 0, .int .u32 0]) 149)
          have l5B : w.heap.size + 1 < U7.heap.size := FB.lt
          replace FB := FB.alloc (.cells (#[.int .u32 0, .int .u32 0, .int .u32 0, .int .u32 0]) 149)
          have l56 : g6 < U7.heap.size := F6.lt
          replace F6 := F6.alloc (.cells (#[.int .u32 0, .int .u32 0, .int .u32 0, .int .u32 0]) 149)
          have L5 := GB.size
          replace GB := GB.alloc GB.size (.cells (#[.int .u32 0, .int .u32 0, .int .u32 0, .int .u32 0]) 149)
          refine hK.out _ _ ⟨FA, FB⟩ (fun hS => ?_)
          clear hK K
          generalize U7.alloc (.cells (#[.int .u32 0, .int .u32 0, .int .u32 0, .int .u32 0]) 149) = U8 at F5 FA FB F6 GB hS ⊢
          generalize U7.heap.size = g5 at F5 l5A l5B l56 L5 ⊢
          refine wpAnyH_ready (rs := [6]) (by kernel_rfl) (by simp) ?_
          refine AllReadyH.cons rfl (fun K hK => ?_) (AllReadyH.nil)
          have O9 := F5
          replace FA := FA.other (g' := g5) (cs' := qs f) (by omega)
          replace FB := FB.other (g' := g5) (cs' := qs f) (by omega)
          replace F6 := F6.other (g' := g5) (cs' := qs f) (by omega)
          replace F5 := F5.row (cs' := qs f)
          replace GB := below_row (g' := g5) (cs' := qs f) GB (by omega)
          refine keep_row rfl 149 (.tmp 5) (.tmp 9) rfl _ _ rfl rfl _ _ O9 (info_qs f) rfl (one_qs f) (hK.out _ _ ⟨FA, FB⟩ (fun hS => ?_))
          clear hK K O9
          generalize U8.setRow g5 (qs f) = U9 at FA FB F6 F5 GB hS ⊢
          refine wpAnyH_ready (rs := [7]) (by kernel_rfl) (by simp) ?_
          refine AllReadyH.cons rfl (fun K hK => ?_) (AllReadyH.nil)
          have O10 := F6
          replace FA := FA.other (g' := g6) (cs' := qs g) (by omega)
          replace FB := FB.other (g' := g6) (cs' := qs g) (by omega)
          replace F5 := F5.other (g' := g6) (cs' := qs g) (by omega)
          replace F6 := F6.row (cs' := qs g)
          replace GB := below_row (g' := g6) (cs' := qs g) GB (by omega)
          refine keep_row rfl 149 (.tmp 6) (.tmp 11) rfl _ _ rfl rfl _ _ O10 (info_qs g) rfl (one_qs g) (hK.out _ _ ⟨FA, FB⟩ (fun hS => ?_))
          clear hK K O10
          generalize U9.setRow g6 (qs g) = U10 at FA FB F6 F5 GB hS ⊢
          refine wpAnyH_done (by kernel_rfl) ?_ _
          go_wp2_with fail
          go_meet
          exact ⟨g5, g6, rfl, rfl, F5, F6, GB⟩
      · skip
        go_simp
        have F5 := Blk.new w1 149 (#[.int .u32 0, .int .u32 0, .int .u32 0, .int .u32 0])
        have l5A : w.heap.size < w1.heap.size := FA.lt
        replace FA := FA.alloc (.cells (#[.int .u32 0, .int .u32 0, .int .u32 0, .int .u32 0]) 149)
        have l5B : w.heap.size + 1 < w1.heap.size := FB.lt
        replace FB := FB.alloc (.cells (#[.int .u32 0, .int .u32 0, .int .u32 0, .int .u32 0]) 149)
        have L5 := GB.size
        replace GB := GB.alloc GB.size (.cells (#[.int .u32 0, .int .u32 0, .int .u32 0, .int .u32 0]) 149)
        refine hK.out _ _ ⟨FA, FB⟩ (fun hS => ?_)
        clear hK K
        generalize w1.alloc (.cells (#[.int .u32 0, .int .u32 0, .int .u32 0, .int .u32 0]) 149) = U11 at F5 FA FB GB hS ⊢
        generalize w1.heap.size = g5 at F5 l5A l5B L5 ⊢
        refine wpAnyH_ready (rs := [3, 5]) (by kernel_rfl) (by simp) ?_
        refine AllReadyH.cons rfl (fun K hK => ?_) (AllReadyH.cons rfl (fun K hK => ?_) (AllReadyH.nil))
        · skip
          go_simp
          refine (HB.out _).mono ?_
          rintro e w12 ⟨rfl, h12⟩
          replace FA := FA.below h12 FA.lt
          replace FB := FB.below h12 FB.lt
          replace F5 := F5.below h12 F5.lt
          replace GB := GB.trans (h12.mono GB.size)
          clear h12
          refine hK.out _ _ ⟨FA, FB⟩ (fun hS => ?_)
          clear hK K
          refine wpAnyH_ready (rs := [5]) (by kernel_rfl) (by simp) ?_
          refine AllReadyH.cons rfl (fun K hK => ?_) (AllReadyH.nil)
          go_simp
          have F6 := Blk.new w12 149 (#[.int .u32 0, .int .u32 0, .int .u32 0, .int .u32 0])
          have l6A : w.heap.size < w12.heap.size := FA.lt
          replace FA := FA.alloc (.cells (#[.int .u32 0, .int .u32 0, .int .u32 0, .int .u32 0]) 149)
          have l6B : w.heap.size + 1 < w12.heap.size := FB.lt
          replace FB := FB.alloc (.cells (#[.int .u32 0, .int .u32 0, .int .u32 0, .int .u32 0]) 149)
          have l65 : g5 < w12.heap.size := F5.lt
          replace F5 := F5.alloc (.cells (#[.int .u32 0, .int .u32 0, .int .u32 0, .int .u32 0]) 149)
          have L6 := GB.size
          replace GB := GB.alloc GB.size (.cells (#[.int .u32 0, .int .u32 0, .int .u32 0, .int .u32 0]) 149)
          refine hK.out _ _ ⟨FA, FB⟩ (fun hS => ?_)
          clear hK K
          generalize w12.alloc (.cells (#[.int .u32 0, .int .u32 0, .int .u32 0, .int .u32 0]) 149) = U13 at F6 FA FB F5 GB hS ⊢
          generalize w12.heap.size = g6 at F6 l6A l6B l65 L6 ⊢
          refine wpAnyH_ready (rs := [6]) (by kernel_rfl) (by simp) ?_
          refine AllReadyH.cons rfl (fun K hK => ?_) (AllReadyH.nil)
          have O14 := F5
          replace FA := FA.other (g' := g5) (cs' := qs f) (by omega)
          replace FB := FB.other (g' := g5) (cs' := qs f) (by omega)
          replace F6 := F6.other (g' := g5) (cs' := qs f) (by omega)
          replace F5 := F5.row (cs' := qs f)
          replace GB := below_row (g' := g5) (cs' := qs f) GB (by omega)
          refine keep_row rfl 149 (.tmp 5) (.tmp 9) rfl _ _ rfl rfl _ _ O14 (info_qs f) rfl (one_qs f) (hK.out _ _ ⟨FA, FB⟩ (fun hS => ?_))
          clear hK K O14
          generalize U13.setRow g5 (qs f) = U14 at FA FB F5 F6 GB hS ⊢
          refine wpAnyH_ready (rs := [7]) (by kernel_rfl) (by simp) ?_
          refine AllReadyH.cons rfl (fun K hK => ?_) (AllReadyH.nil)
          have O15 := F6
          replace FA := FA.other (g' := g6) (cs' := qs g) (by omega)
          replace FB := FB.other (g' := g6) (cs' := qs g) (by omega)
          replace F5 := F5.other (g' := g6) (cs' := qs g) (by omega)
          replace F6 := F6.row (cs' := qs g)
          replace GB := below_row (g' := g6) (cs' := qs g) GB (by omega)
          refine keep_row rfl 149 (.tmp 6) (.tmp 11) rfl _ _ rfl rfl _ _ O15 (info_qs g) rfl (one_qs g) (hK.out _ _ ⟨FA, FB⟩ (fun hS => ?_))
          clear hK K O15
          generalize U14.setRow g6 (qs g) = U15 at FA FB F5 F6 GB hS ⊢
          refine wpAnyH_done (by kernel_rfl) ?_ _
          go_wp2_with fail
          go_meet
          exact ⟨g5, g6, rfl, rfl, F5, F6, GB⟩
        · skip
          go_simp
          have F6 := Blk.new U11 149 (#[.int .u32 0, .int .u32 0, .int .u32 0, .int .u32 0])
          have l6A : w.heap.size < U11.heap.size := FA.lt
          replace FA := FA.alloc (.cells (#[.int .u32 0, .int .u32 0, .int .u32 0, .int .u32 0]) 149)
          have l6B : w.heap.size + 1 < U11.heap.size := FB.lt
          replace FB := FB.alloc (.cells (#[.int .u32 0, .int .u32 0, .int .u32 0, .int .u32 0]) 149)
          have l65 : g5 < U11.heap.size := F5.lt
          replace F5 := F5.alloc (.cells (#[.int .u32 0, .int .u32 0, .int .u32 0, .int .u32 0]) 149)
          have L6 := GB.size
          replace GB := GB.alloc GB.size (.cells (#[.int .u32 0, .int .u32 0, .int .u32 0, .int .u32 0]) 149)
          refine hK.out _ _ ⟨FA, FB⟩ (fun hS => ?_)
          clear hK K
          generalize U11.alloc (.cells (#[.int .u32 0, .int .u32 0, .int .u32 0, .int .u32 0]) 149) = U16 at F6 FA FB F5 GB hS ⊢
          generalize U11.heap.size = g6 at F6 l6A l6B l65 L6 ⊢
          refine wpAnyH_ready (rs := [3]) (by kernel_rfl) (by simp) ?_
          refine AllReadyH.cons rfl (fun K hK => ?_) (AllReadyH.nil)
          go_simp
          refine (HB.out _).mono ?_
          rintro e w17 ⟨rfl, h17⟩
          replace FA := FA.below h17 FA.lt
          replace FB := FB.below h17 FB.lt
          replace F5 := F5.below h17 F5.lt
          replace F6 := F6.below h17 F6.lt
          replace GB := GB.trans (h17.mono GB.size)
          clear h17
          refine hK.out _ _ ⟨FA, FB⟩ (fun hS => ?_)
          clear hK K
          refine wpAnyH_ready (rs := [6]) (by kernel_rfl) (by simp) ?_
          refine AllReadyH.cons rfl (fun K hK => ?_) (AllReadyH.nil)
          have O18 := F5
          replace FA := FA.other (g' := g5) (cs' := qs f) (by omega)
          replace FB := FB.other (g' := g5) (cs' := qs f) (by omega)
          replace F6 := F6.other (g' := g5) (cs' := qs f) (by omega)
          replace F5 := F5.row (cs' := qs f)
          replace GB := below_row (g' := g5) (cs' := qs f) GB (by omega)
          refine keep_row rfl 149 (.tmp 5) (.tmp 9) rfl _ _ rfl rfl _ _ O18 (info_qs f) rfl (one_qs f) (hK.out _ _ ⟨FA, FB⟩ (fun hS => ?_))
          clear hK K O18
          generalize w17.setRow g5 (qs f) = U18 at FA FB F5 F6 GB hS ⊢
          refine wpAnyH_ready (rs := [7]) (by kernel_rfl) (by simp) ?_
          refine AllReadyH.cons rfl (fun K hK => ?_) (AllReadyH.nil)
          have O19 := F6
          replace FA := FA.other (g' := g6) (cs' := qs g) (by omega)
          replace FB := FB.other (g' := g6) (cs' := qs g) (by omega)
          replace F5 := F5.other (g' := g6) (cs' := qs g) (by omega)
          replace F6 := F6.row (cs' := qs g)
          replace GB := below_row (g' := g6) (cs' := qs g) GB (by omega)
          refine keep_row rfl 149 (.tmp 6) (.tmp 11) rfl _ _ rfl rfl _ _ O19 (info_qs g) rfl (one_qs g) (hK.out _ _ ⟨FA, FB⟩ (fun hS => ?_))
          clear hK K O19
          generalize U18.setRow g6 (qs g) = U19 at FA FB F5 F6 GB hS ⊢
          refine wpAnyH_done (by kernel_rfl) ?_ _
          go_wp2_with fail
          go_meet
          exact ⟨g5, g6, rfl, rfl, F5, F6, GB⟩
      · skip
        go_simp
        have F6 := Blk.new w1 149 (#[.int .u32 0, .int .u32 0, .int .u32 0, .int .u32 0])
        have l6A : w.heap.size < w1.heap.size := FA.lt
        replace FA := FA.alloc (.cells (#[.int .u32 0, .int .u32 0, .int .u32 0, .int .u32 0]) 149)
        have l6B : w.heap.size + 1 < w1.heap.size := FB.lt
        replace FB := FB.alloc (.cells (#[.int .u32 0, .int .u32 0, .int .u32 0, .int .u32 0]) 149)
        have L6 := GB.size
        replace GB := GB.alloc GB.size (.cells (#[.int .u32 0, .int .u32 0, .int .u32 0, .int .u32 0]) 149)
        refine hK.out _ _ ⟨FA, FB⟩ (fun hS => ?_)
        clear hK K
        generalize w1.alloc (.cells (#[.int .u32 0, .int .u32 0, .int .u32 0, .int .u32 0]) 149) = U20 at F6 FA FB GB hS ⊢
        generalize w1.heap.size = g6 at F6 l6A l6B L6 ⊢
        refine wpAnyH_ready (rs := [3, 4]) (by kernel_rfl) (by simp) ?_
        refine AllReadyH.cons rfl (fun K hK => ?_) (AllReadyH.cons rfl (fun K hK => ?_) (AllReadyH.nil))
        · skip
          go_simp
          refine (HB.out _).mono ?_
          rintro e w21 ⟨rfl, h21⟩
          replace FA := FA.below h21 FA.lt
          replace FB := FB.below h21 FB.lt
          replace F6 := F6.below h21 F6.lt
          replace GB := GB.trans (h21.mono GB.size)
          clear h21
          refine hK.out _ _ ⟨FA, FB⟩ (fun hS => ?_)
          clear hK K
          refine wpAnyH_ready (rs := [4]) (by kernel_rfl) (by simp) ?_
          refine AllReadyH.cons rfl (fun K hK => ?_) (AllReadyH.nil)
          go_simp
          have F5 := Blk.new w21 149 (#[.int .u32 0, .int .u32 0, .int .u32 0, .int .u32 0])
          have l5A : w.heap.size < w21.heap.size := FA.lt
          replace FA := FA.alloc (.cells (#[.int .u32 0, .int .u32 0, .int .u32 0, .int .u32 0]) 149)
          have l5B : w.heap.size + 1 < w21.heap.size := FB.lt
          replace FB := FB.alloc (.cells (#[.int .u32 0, .int .u32 0, .int .u32 0, .int .u32 0]) 149)
          have l56 : g6 < w21.heap.size := F6.lt
          replace F6 := F6.alloc (.cells (#[.int .u32 0, .int .u32 0, .int .u32 0, .int .u32 0]) 149)
          have L5 := GB.size
          replace GB := GB.alloc GB.size (.cells (#[.int .u32 0, .int .u32 0, .int .u32 0, .int .u32 0]) 149)
          refine hK.out _ _ ⟨FA, FB⟩ (fun hS => ?_)
          clear hK K
          generalize w21.alloc (.cells (#[.int .u32 0, .int .u32 0, .int .u32 0, .int .u32 0]) 149) = U22 at F5 FA FB F6 GB hS ⊢
          generalize w21.heap.size = g5 at F5 l5A l5B l56 L5 ⊢
          refine wpAnyH_ready (rs := [6]) (by kernel_rfl) (by simp) ?_
          refine AllReadyH.cons rfl (fun K hK => ?_) (AllReadyH.nil)
          have O23 := F5
          replace FA := FA.other (g' := g5) (cs' := qs f) (by omega)
          replace FB := FB.other (g' := g5) (cs' := qs f) (by omega)
          replace F6 := F6.other (g' := g5) (cs' := qs f) (by omega)
          replace F5 := F5.row (cs' := qs f)
          replace GB := below_row (g' := g5) (cs' := qs f) GB (by omega)
          refine keep_row rfl 149 (.tmp 5) (.tmp 9) rfl _ _ rfl rfl _ _ O23 (info_qs f) rfl (one_qs f) (hK.out _ _ ⟨FA, FB⟩ (fun hS => ?_))
          clear hK K O23
          generalize U22.setRow g5 (qs f) = U23 at FA FB F6 F5 GB hS ⊢
          refine wpAnyH_ready (rs := [7]) (by kernel_rfl) (by simp) ?_
          refine AllReadyH.cons rfl (fun K hK => ?_) (AllReadyH.nil)
          have O24 := F6
          replace FA := FA.other (g' := g6) (cs' := qs g) (by omega)
          replace FB := FB.other (g' := g6) (cs' := qs g) (by omega)
          replace F5 := F5.other (g' := g6) (cs' := qs g) (by omega)
          replace F6 := F6.row (cs' := qs g)
          replace GB := below_row (g' := g6) (cs' := qs g) GB (by omega)
          refine keep_row rfl 149 (.tmp 6) (.tmp 11) rfl _ _ rfl rfl _ _ O24 (info_qs g) rfl (one_qs g) (hK.out _ _ ⟨FA, FB⟩ (fun hS => ?_))
          clear hK K O24
          generalize U23.setRow g6 (qs g) = U24 at FA FB F6 F5 GB hS ⊢
          refine wpAnyH_done (by kernel_rfl) ?_ _
          go_wp2_with fail
          go_meet
          exact ⟨g5, g6, rfl, rfl, F5, F6, GB⟩
        · skip
          go_simp
          have F5 := Blk.new U20 149 (#[.int .u32 0, .int .u32 0, .int .u32 0, .int .u32 0])
          have l5A : w.heap.size < U20.heap.size := FA.lt
          replace FA := FA.alloc (.cells (#[.int .u32 0, .int .u32 0, .int .u32 0, .int .u32 0]) 149)
          have l5B : w.heap.size + 1 < U20.heap.size := FB.lt
          replace FB := FB.alloc (.cells (#[.int .u32 0, .int .u32 0, .int .u32 0, .int .u32 0]) 149)
          have l56 : g6 < U20.heap.size := F6.lt
          replace F6 := F6.alloc (.cells (#[.int .u32 0, .int .u32 0, .int .u32 0, .int .u32 0]) 149)
          have L5 := GB.size
          replace GB := GB.alloc GB.size (.cells (#[.int .u32 0, .int .u32 0, .int .u32 0, .int .u32 0]) 149)
          refine hK.out _ _ ⟨FA, FB⟩ (fun hS => ?_)
          clear hK K
          generalize U20.alloc (.cells (#[.int .u32 0, .int .u32 0, .int .u32 0, .int .u32 0]) 149) = U25 at F5 FA FB F6 GB hS ⊢
          generalize U20.heap.size = g5 at F5 l5A l5B l56 L5 ⊢
          refine wpAnyH_ready (rs := [3]) (by kernel_rfl) (by simp) ?_
          refine AllReadyH.cons rfl (fun K hK => ?_) (AllReadyH.nil)
          go_simp
          refine (HB.out _).mono ?_
          rintro e w26 ⟨rfl, h26⟩
          replace FA := FA.below h26 FA.lt
          replace FB := FB.below h26 FB.lt
          replace F6 := F6.below h26 F6.lt
          replace F5 := F5.below h26 F5.lt
          replace GB := GB.trans (h26.mono GB.size)
          clear h26
          refine hK.out _ _ ⟨FA, FB⟩ (fun hS => ?_)
          clear hK K
          refine wpAnyH_ready (rs := [6]) (by kernel_rfl) (by simp) ?_
          refine AllReadyH.cons rfl (fun K hK => ?_) (AllReadyH.nil)
          have O27 := F5
          replace FA := FA.other (g' := g5) (cs' := qs f) (by omega)
          replace FB := FB.other (g' := g5) (cs' := qs f) (by omega)
          replace F6 := F6.other (g' := g5) (cs' := qs f) (by omega)
          replace F5 := F5.row (cs' := qs f)
          replace GB := below_row (g' := g5) (cs' := qs f) GB (by omega)
          refine keep_row rfl 149 (.tmp 5) (.tmp 9) rfl _ _ rfl rfl _ _ O27 (info_qs f) rfl (one_qs f) (hK.out _ _ ⟨FA, FB⟩ (fun hS => ?_))
          clear hK K O27
          generalize w26.setRow g5 (qs f) = U27 at FA FB F6 F5 GB hS ⊢
          refine wpAnyH_ready (rs := [7]) (by kernel_rfl) (by simp) ?_
          refine AllReadyH.cons rfl (fun K hK => ?_) (AllReadyH.nil)
          have O28 := F6
          replace FA := FA.other (g' := g6) (cs' := qs g) (by omega)
          replace FB := FB.other (g' := g6) (cs' := qs g) (by omega)
          replace F5 := F5.other (g' := g6) (cs' := qs g) (by omega)
          replace F6 := F6.row (cs' := qs g)
          replace GB := below_row (g' := g6) (cs' := qs g) GB (by omega)
          refine keep_row rfl 149 (.tmp 6) (.tmp 11) rfl _ _ rfl rfl _ _ O28 (info_qs g) rfl (one_qs g) (hK.out _ _ ⟨FA, FB⟩ (fun hS => ?_))
          clear hK K O28
          generalize U27.setRow g6 (qs g) = U28 at FA FB F6 F5 GB hS ⊢
          refine wpAnyH_done (by kernel_rfl) ?_ _
          go_wp2_with fail
          go_meet
          exact ⟨g5, g6, rfl, rfl, F5, F6, GB⟩
    · skip
      go_simp
      have F5 := Blk.new V 149 (#[.int .u32 0, .int .u32 0, .int .u32 0, .int .u32 0])
      have l5A : w.heap.size < V.heap.size := FA.lt
      replace FA := FA.alloc (.cells (#[.int .u32 0, .int .u32 0, .int .u32 0, .int .u32 0]) 149)
      have l5B : w.heap.size + 1 < V.heap.size := FB.lt
      replace FB := FB.alloc (.cells (#[.int .u32 0, .int .u32 0, .int .u32 0, .int .u32 0]) 149)
      have L5 := GB.size
      replace GB := GB.alloc GB.size (.cells (#[.int .u32 0, .int .u32 0, .int .u32 0, .int .u32 0]) 149)
      refine hK.out _ _ ⟨FA, FB⟩ (fun hS => ?_)
      clear hK K
      generalize V.alloc (.cells (#[.int .u32 0, .int .u32 0, .int .u32 0, .int .u32 0]) 149) = U29 at F5 FA FB GB hS ⊢
      generalize V.heap.size = g5 at F5 l5A l5B L5 ⊢
      refine wpAnyH_ready (rs := [1, 5]) (by kernel_rfl) (by simp) ?_
      refine AllReadyH.cons rfl (fun K hK => ?_) (AllReadyH.cons rfl (fun K hK => ?_) (AllReadyH.nil))
      · skip
        go_simp
        refine (HA.out _).mono ?_
        rintro e w30 ⟨rfl, h30⟩
        replace FA := FA.below h30 FA.lt
        replace FB := FB.below h30 FB.lt
        replace F5 := F5.below h30 F5.lt
        replace GB := GB.trans (h30.mono GB.size)
        clear h30
        refine hK.out _ _ ⟨FA, FB⟩ (fun hS => ?_)
        clear hK K
        refine wpAnyH_ready (rs := [3, 5]) (by kernel_rfl) (by simp) ?_
        refine AllReadyH.cons rfl (fun K hK => ?_) (AllReadyH.cons rfl (fun K hK => ?_) (AllReadyH.nil))
        · skip
          go_simp
          refine (HB.out _).mono ?_
          rintro e w31 ⟨rfl, h31⟩
          replace FA := FA.below h31 FA.lt
          replace FB := FB.below h31 FB.lt
          replace F5 := F5.below h31 F5.lt
          replace GB := GB.trans (h31.mono GB.size)
          clear h31
          refine hK.out _ _ ⟨FA, FB⟩ (fun hS => ?_)
          clear hK K
          refine wpAnyH_ready (rs := [5]) (by kernel_rfl) (by simp) ?_
          refine AllReadyH.cons rfl (fun K hK => ?_) (AllReadyH.nil)
          go_simp
          have F6 := Blk.new w31 149 (#[.int .u32 0, .int .u32 0, .int .u32 0, .int .u32 0])
          have l6A : w.heap.size < w31.heap.size := FA.lt
          replace FA := FA.alloc (.cells (#[.int .u32 0, .int .u32 0, .int .u32 0, .int .u32 0]) 149)
          have l6B : w.heap.size + 1 < w31.heap.size := FB.lt
          replace FB := FB.alloc (.cells (#[.int .u32 0, .int .u32 0, .int .u32 0, .int .u32 0]) 149)
          have l65 : g5 < w31.heap.size := F5.lt
          replace F5 := F5.alloc (.cells (#[.int .u32 0, .int .u32 0, .int .u32 0, .int .u32 0]) 149)
          have L6 := GB.size
          replace GB := GB.alloc GB.size (.cells (#[.int .u32 0, .int .u32 0, .int .u32 0, .int .u32 0]) 149)
          refine hK.out _ _ ⟨FA, FB⟩ (fun hS => ?_)
          clear hK K
          generalize w31.alloc (.cells (#[.int .u32 0, .int .u32 0, .int .u32 0, .int .u32 0]) 149) = U32 at F6 FA FB F5 GB hS ⊢
          generalize w31.heap.size = g6 at F6 l6A l6B l65 L6 ⊢
          refine wpAnyH_ready (rs := [6]) (by kernel_rfl) (by simp) ?_
          refine AllReadyH.cons rfl (fun K hK => ?_) (AllReadyH.nil)
          have O33 := F5
          replace FA := FA.other (g' := g5) (cs' := qs f) (by omega)
          replace FB := FB.other (g' := g5) (cs' := qs f) (by omega)
          replace F6 := F6.other (g' := g5) (cs' := qs f) (by omega)
          replace F5 := F5.row (cs' := qs f)
          replace GB := below_row (g' := g5) (cs' := qs f) GB (by omega)
          refine keep_row rfl 149 (.tmp 5) (.tmp 9) rfl _ _ rfl rfl _ _ O33 (info_qs f) rfl (one_qs f) (hK.out _ _ ⟨FA, FB⟩ (fun hS => ?_))
          clear hK K O33
          generalize U32.setRow g5 (qs f) = U33 at FA FB F5 F6 GB hS ⊢
          refine wpAnyH_ready (rs := [7]) (by kernel_rfl) (by simp) ?_
          refine AllReadyH.cons rfl (fun K hK => ?_) (AllReadyH.nil)
          have O34 := F6
          replace FA := FA.other (g' := g6) (cs' := qs g) (by omega)
          replace FB := FB.other (g' := g6) (cs' := qs g) (by omega)
          replace F5 := F5.other (g' := g6) (cs' := qs g) (by omega)
          replace F6 := F6.row (cs' := qs g)
          replace GB := below_row (g' := g6) (cs' := qs g) GB (by omega)
          refine keep_row rfl 149 (.tmp 6) (.tmp 11) rfl _ _ rfl rfl _ _ O34 (info_qs g) rfl (one_qs g) (hK.out _ _ ⟨FA, FB⟩ (fun hS => ?_))
          clear hK K O34
          generalize U33.setRow g6 (qs g) = U34 at FA FB F5 F6 GB hS ⊢
          refine wpAnyH_done (by kernel_rfl) ?_ _
          go_wp2_with fail
          go_meet
          exact ⟨g5, g6, rfl, rfl, F5, F6, GB⟩
        · skip
          go_simp
          have F6 := Blk.new w30 149 (#[.int .u32 0, .int .u32 0, .int .u32 0, .int .u32 0])
          have l6A : w.heap.size < w30.heap.size := FA.lt
          replace FA := FA.alloc (.cells (#[.int .u32 0, .int .u32 0, .int .u32 0, .int .u32 0]) 149)
          have l6B : w.heap.size + 1 < w30.heap.size := FB.lt
          replace FB := FB.alloc (.cells (#[.int .u32 0, .int .u32 0, .int .u32 0, .int .u32 0]) 149)
          have l65 : g5 < w30.heap.size := F5.lt
          replace F5 := F5.alloc (.cells (#[.int .u32 0, .int .u32 0, .int .u32 0, .int .u32 0]) 149)
          have L6 := GB.size
          replace GB := GB.alloc GB.size (.cells (#[.int .u32 0, .int .u32 0, .int .u32 0, .int .u32 0]) 149)
          refine hK.out _ _ ⟨FA, FB⟩ (fun hS => ?_)
          clear hK K
          generalize w30.alloc (.cells (#[.int .u32 0, .int .u32 0, .int .u32 0, .int .u32 0]) 149) = U35 at F6 FA FB F5 GB hS ⊢
          generalize w30.heap.size = g6 at F6 l6A l6B l65 L6 ⊢
          refine wpAnyH_ready (rs := [3]) (by kernel_rfl) (by simp) ?_
          refine AllReadyH.cons rfl (fun K hK => ?_) (AllReadyH.nil)
          go_simp
          refine (HB.out _).mono ?_
          rintro e w36 ⟨rfl, h36⟩
          replace FA := FA.below h36 FA.lt
          replace FB := FB.below h36 FB.lt
          replace F5 := F5.below h36 F5.lt
          replace F6 := F6.below h36 F6.lt
          replace GB := GB.trans (h36.mono GB.size)
          clear h36
          refine hK.out _ _ ⟨FA, FB⟩ (fun hS => ?_)
          clear hK K
          refine wpAnyH_ready (rs := [6]) (by kernel_rfl) (by simp) ?_
          refine AllReadyH.cons rfl (fun K hK => ?_) (AllReadyH.nil)
          have O37 := F5
          replace FA := FA.other (g' := g5) (cs' := qs f) (by omega)
          replace FB := FB.other (g' := g5) (cs' := qs f) (by omega)
          replace F6 := F6.other (g' := g5) (cs' := qs f) (by omega)
          replace F5 := F5.row (cs' := qs f)
          replace GB := below_row (g' := g5) (cs' := qs f) GB (by omega)
          refine keep_row rfl 149 (.tmp 5) (.tmp 9) rfl _ _ rfl rfl _ _ O37 (info_qs f) rfl (one_qs f) (hK.out _ _ ⟨FA, FB⟩ (fun hS => ?_))
          clear hK K O37
          generalize w36.setRow g5 (qs f) = U37 at FA FB F5 F6 GB hS ⊢
          refine wpAnyH_ready (rs := [7]) (by kernel_rfl) (by simp) ?_
          refine AllReadyH.cons rfl (fun K hK => ?_) (AllReadyH.nil)
          have O38 := F6
          replace FA := FA.other (g' := g6) (cs' := qs g) (by omega)
          replace FB := FB.other (g' := g6) (cs' := qs g) (by omega)
          replace F5 := F5.other (g' := g6) (cs' := qs g) (by omega)
          replace F6 := F6.row (cs' := qs g)
          replace GB := below_row (g' := g6) (cs' := qs g) GB (by omega)
          refine keep_row rfl 149 (.tmp 6) (.tmp 11) rfl _ _ rfl rfl _ _ O38 (info_qs g) rfl (one_qs g) (hK.out _ _ ⟨FA, FB⟩ (fun hS => ?_))
          clear hK K O38
          generalize U37.setRow g6 (qs g) = U38 at FA FB F5 F6 GB hS ⊢
          refine wpAnyH_done (by kernel_rfl) ?_ _
          go_wp2_with fail
          go_meet
          exact ⟨g5, g6, rfl, rfl, F5, F6, GB⟩
      · skip
        go_simp
        have F6 := Blk.new U29 149 (#[.int .u32 0, .int .u32 0, .int .u32 0, .int .u32 0])
        have l6A : w.heap.size < U29.heap.size := FA.lt
        replace FA := FA.alloc (.cells (#[.int .u32 0, .int .u32 0, .int .u32 0, .int .u32 0]) 149)
        have l6B : w.heap.size + 1 < U29.heap.size := FB.lt
        replace FB := FB.alloc (.cells (#[.int .u32 0, .int .u32 0, .int .u32 0, .int .u32 0]) 149)
        have l65 : g5 < U29.heap.size := F5.lt
        replace F5 := F5.alloc (.cells (#[.int .u32 0, .int .u32 0, .int .u32 0, .int .u32 0]) 149)
        have L6 := GB.size
        replace GB := GB.alloc GB.size (.cells (#[.int .u32 0, .int .u32 0, .int .u32 0, .int .u32 0]) 149)
        refine hK.out _ _ ⟨FA, FB⟩ (fun hS => ?_)
        clear hK K
        generalize U29.alloc (.cells (#[.int .u32 0, .int .u32 0, .int .u32 0, .int .u32 0]) 149) = U39 at F6 FA FB F5 GB hS ⊢
        generalize U29.heap.size = g6 at F6 l6A l6B l65 L6 ⊢
        refine wpAnyH_ready (rs := [1]) (by kernel_rfl) (by simp) ?_
        refine AllReadyH.cons rfl (fun K hK => ?_) (AllReadyH.nil)
        go_simp
        refine (HA.out _).mono ?_
        rintro e w40 ⟨rfl, h40⟩
        replace FA := FA.below h40 FA.lt
        replace FB := FB.below h40 FB.lt
        replace F5 := F5.below h40 F5.lt
        replace F6 := F6.below h40 F6.lt
        replace GB := GB.trans (h40.mono GB.size)
        clear h40
        refine hK.out _ _ ⟨FA, FB⟩ (fun hS => ?_)
        clear hK K
        refine wpAnyH_ready (rs := [3]) (by kernel_rfl) (by simp) ?_
        refine AllReadyH.cons rfl (fun K hK => ?_) (AllReadyH.nil)
        go_simp
        refine (HB.out _).mono ?_
        rintro e w41 ⟨rfl, h41⟩
        replace FA := FA.below h41 FA.lt
        replace FB := FB.below h41 FB.lt
        replace F5 := F5.below h41 F5.lt
        replace F6 := F6.below h41 F6.lt
        replace GB := GB.trans (h41.mono GB.size)
        clear h41
        refine hK.out _ _ ⟨FA, FB⟩ (fun hS => ?_)
        clear hK K
        refine wpAnyH_ready (rs := [6]) (by kernel_rfl) (by simp) ?_
        refine AllReadyH.cons rfl (fun K hK => ?_) (AllReadyH.nil)
        have O42 := F5
        replace FA := FA.other (g' := g5) (cs' := qs f) (by omega)
        replace FB := FB.other (g' := g5) (cs' := qs f) (by omega)
        replace F6 := F6.other (g' := g5) (cs' := qs f) (by omega)
        replace F5 := F5.row (cs' := qs f)
        replace GB := below_row (g' := g5) (cs' := qs f) GB (by omega)
        refine keep_row rfl 149 (.tmp 5) (.tmp 9) rfl _ _ rfl rfl _ _ O42 (info_qs f) rfl (one_qs f) (hK.out _ _ ⟨FA, FB⟩ (fun hS => ?_))
        clear hK K O42
        generalize w41.setRow g5 (qs f) = U42 at FA FB F5 F6 GB hS ⊢
        refine wpAnyH_ready (rs := [7]) (by kernel_rfl) (by simp) ?_
        refine AllReadyH.cons rfl (fun K hK => ?_) (AllReadyH.nil)
        have O43 := F6
        replace FA := FA.other (g' := g6) (cs' := qs g) (by omega)
        replace FB := FB.other (g' := g6) (cs' := qs g) (by omega)
        replace F5 := F5.other (g' := g6) (cs' := qs g) (by omega)
        replace F6 := F6.row (cs' := qs g)
        replace GB := below_row (g' := g6) (cs' := qs g) GB (by omega)
        refine keep_row rfl 149 (.tmp 6) (.tmp 11) rfl _ _ rfl rfl _ _ O43 (info_qs g) rfl (one_qs g) (hK.out _ _ ⟨FA, FB⟩ (fun hS => ?_))
        clear hK K O43
        generalize U42.setRow g6 (qs g) = U43 at FA FB F5 F6 GB hS ⊢
        refine wpAnyH_done (by kernel_rfl) ?_ _
        go_wp2_with fail
        go_meet
        exact ⟨g5, g6, rfl, rfl, F5, F6, GB⟩
    · skip
      go_simp
      have F6 := Blk.new V 149 (#[.int .u32 0, .int .u32 0, .int .u32 0, .int .u32 0])
      have l6A : w.heap.size < V.heap.size := FA.lt
      replace FA := FA.alloc (.cells (#[.int .u32 0, .int .u32 0, .int .u32 0, .int .u32 0]) 149)
      have l6B : w.heap.size + 1 < V.heap.size := FB.lt
      replace FB := FB.alloc (.cells (#[.int .u32 0, .int .u32 0, .int .u32 0, .int .u32 0]) 149)
      have L6 := GB.size
      replace GB := GB.alloc GB.size (.cells (#[.int .u32 0, .int .u32 0, .int .u32 0, .int .u32 0]) 149)
      refine hK.out _ _ ⟨FA, FB⟩ (fun hS => ?_)
      clear hK K
      generalize V.alloc (.cells (#[.int .u32 0, .int .u32 0, .int .u32 0, .int .u32 0]) 149) = U44 at F6 FA FB GB hS ⊢
      generalize V.heap.size = g6 at F6 l6A l6B L6 ⊢
      refine wpAnyH_ready (rs := [1, 4]) (by kernel_rfl) (by simp) ?_
      refine AllReadyH.cons rfl (fun K hK => ?_) (AllReadyH.cons rfl (fun K hK => ?_) (AllReadyH.nil))
      · skip
        go_simp
        refine (HA.out _).mono ?_
        rintro e w45 ⟨rfl, h45⟩
        replace FA := FA.below h45 FA.lt
        replace FB := FB.below h45 FB.lt
        replace F6 := F6.below h45 F6.lt
        replace GB := GB.trans (h45.mono GB.size)
        clear h45
        refine hK.out _ _ ⟨FA, FB⟩ (fun hS => ?_)
        clear hK K
        refine wpAnyH_ready (rs := [3, 4]) (by kernel_rfl) (by simp) ?_
        refine AllReadyH.cons rfl (fun K hK => ?_) (AllReadyH.cons rfl (fun K hK => ?_) (AllReadyH.nil))
        · skip
          go_simp
          refine (HB.out _).mono ?_
          rintro e w46 ⟨rfl, h46⟩
          replace FA := FA.below h46 FA.lt
          replace FB := FB.below h46 FB.lt
          replace F6 := F6.below h46 F6.lt
          replace GB := GB.trans (h46.mono GB.size)
          clear h46
          refine hK.out _ _ ⟨FA, FB⟩ (fun hS => ?_)
          clear hK K
          refine wpAnyH_ready (rs := [4]) (by kernel_rfl) (by simp) ?_
          refine AllReadyH.cons rfl (fun K hK => ?_) (AllReadyH.nil)
          go_simp
          have F5 := Blk.new w46 149 (#[.int .u32 0, .int .u32 0, .int .u32 0, .int .u32 0])
          have l5A : w.heap.size < w46.heap.size := FA.lt
          replace FA := FA.alloc (.cells (#[.int .u32 0, .int .u32 0, .int .u32 0, .int .u32 0]) 149)
          have l5B : w.heap.size + 1 < w46.heap.size := FB.lt
          replace FB := FB.alloc (.cells (#[.int .u32 0, .int .u32 0, .int .u32 0, .int .u32 0]) 149)
          have l56 : g6 < w46.heap.size := F6.lt
          replace F6 := F6.alloc (.cells (#[.int .u32 0, .int .u32 0, .int .u32 0, .int .u32 0]) 149)
          have L5 := GB.size
          replace GB := GB.alloc GB.size (.cells (#[.int .u32 0, .int .u32 0, .int .u32 0, .int .u32 0]) 149)
          refine hK.out _ _ ⟨FA, FB⟩ (fun hS => ?_)
          clear hK K
          generalize w46.alloc (.cells (#[.int .u32 0, .int .u32 0, .int .u32 0, .int .u32 0]) 149) = U47 at F5 FA FB F6 GB hS ⊢
          generalize w46.heap.size = g5 at F5 l5A l5B l56 L5 ⊢
          refine wpAnyH_ready (rs := [6]) (by kernel_rfl) (by simp) ?_
          refine AllReadyH.cons rfl (fun K hK => ?_) (AllReadyH.nil)
          have O48 := F5
          replace FA := FA.other (g' := g5) (cs' := qs f) (by omega)
          replace FB := FB.other (g' := g5) (cs' := qs f) (by omega)
          replace F6 := F6.other (g' := g5) (cs' := qs f) (by omega)
          replace F5 := F5.row (cs' := qs f)
          replace GB := below_row (g' := g5) (cs' := qs f) GB (by omega)
          refine keep_row rfl 149 (.tmp 5) (.tmp 9) rfl _ _ rfl rfl _ _ O48 (info_qs f) rfl (one_qs f) (hK.out _ _ ⟨FA, FB⟩ (fun hS => ?_))
          clear hK K O48
          generalize U47.setRow g5 (qs f) = U48 at FA FB F6 F5 GB hS ⊢
          refine wpAnyH_ready (rs := [7]) (by kernel_rfl) (by simp) ?_
          refine AllReadyH.cons rfl (fun K hK => ?_) (AllReadyH.nil)
          have O49 := F6
          replace FA := FA.other (g' := g6) (cs' := qs g) (by omega)
          replace FB := FB.other (g' := g6) (cs' := qs g) (by omega)
          replace F5 := F5.other (g' := g6) (cs' := qs g) (by omega)
          replace F6 := F6.row (cs' := qs g)
          replace GB := below_row (g' := g6) (cs' := qs g) GB (by omega)
          refine keep_row rfl 149 (.tmp 6) (.tmp 11) rfl _ _ rfl rfl _ _ O49 (info_qs g) rfl (one_qs g) (hK.out _ _ ⟨FA, FB⟩ (fun hS => ?_))
          clear hK K O49
          generalize U48.setRow g6 (qs g) = U49 at FA FB F6 F5 GB hS ⊢
          refine wpAnyH_done (by kernel_rfl) ?_ _
          go_wp2_with fail
          go_meet
          exact ⟨g5, g6, rfl, rfl, F5, F6, GB⟩
        · skip
          go_simp
          have F5 := Blk.new w45 149 (#[.int .u32 0, .int .u32 0, .int .u32 0, .int .u32 0])
          have l5A : w.heap.size < w45.heap.size := FA.lt
          replace FA := FA.alloc (.cells (#[.int .u32 0, .int .u32 0, .int .u32 0, .int .u32 0]) 149)
          have l5B : w.heap.size + 1 < w45.heap.size := FB.lt
          replace FB := FB.alloc (.cells (#[.int .u32 0, .int .u32 0, .int .u32 0, .int .u32 0]) 149)
          have l56 : g6 < w45.heap.size := F6.lt
          replace F6 := F6.alloc (.cells (#[.int .u32 0, .int .u32 0, .int .u32 0, .int .u32 0]) 149)
          have L5 := GB.size
          replace GB := GB.alloc GB.size (.cells (#[.int .u32 0, .int .u32 0, .int .u32 0, .int .u32 0]) 149)
          refine hK.out _ _ ⟨FA, FB⟩ (fun hS => ?_)
          clear hK K
          generalize w45.alloc (.cells (#[.int .u32 0, .int .u32 0, .int .u32 0, .int .u32 0]) 149) = U50 at F5 FA FB F6 GB hS ⊢
          generalize w45.heap.size = g5 at F5 l5A l5B l56 L5 ⊢
          refine wpAnyH_ready (rs := [3]) (by kernel_rfl) (by simp) ?_
          refine AllReadyH.cons rfl (fun K hK => ?_) (AllReadyH.nil)
          go_simp
          refine (HB.out _).mono ?_
          rintro e w51 ⟨rfl, h51⟩
          replace FA := FA.below h51 FA.lt
          replace FB := FB.below h51 FB.lt
          replace F6 := F6.below h51 F6.lt
          replace F5 := F5.below h51 F5.lt
          replace GB := GB.trans (h51.mono GB.size)
          clear h51
          refine hK.out _ _ ⟨FA, FB⟩ (fun hS => ?_)
          clear hK K
          refine wpAnyH_ready (rs := [6]) (by kernel_rfl) (by simp) ?_
          refine AllReadyH.cons rfl (fun K hK => ?_) (AllReadyH.nil)
          have O52 := F5
          replace FA := FA.other (g' := g5) (cs' := qs f) (by omega)
          replace FB := FB.other (g' := g5) (cs' := qs f) (by omega)
          replace F6 := F6.other (g' := g5) (cs' := qs f) (by omega)
          replace F5 := F5.row (cs' := qs f)
          replace GB := below_row (g' := g5) (cs' := qs f) GB (by omega)
          refine keep_row rfl 149 (.tmp 5) (.tmp 9) rfl _ _ rfl rfl _ _ O52 (info_qs f) rfl (one_qs f) (hK.out _ _ ⟨FA, FB⟩ (fun hS => ?_))
          clear hK K O52
          generalize w51.setRow g5 (qs f) = U52 at FA FB F6 F5 GB hS ⊢
          refine wpAnyH_ready (rs := [7]) (by kernel_rfl) (by simp) ?_
          refine AllReadyH.cons rfl (fun K hK => ?_) (AllReadyH.nil)
          have O53 := F6
          replace FA := FA.other (g' := g6) (cs' := qs g) (by omega)
          replace FB := FB.other (g' := g6) (cs' := qs g) (by omega)
          replace F5 := F5.other (g' := g6) (cs' := qs g) (by omega)
          replace F6 := F6.row (cs' := qs g)
          replace GB := below_row (g' := g6) (cs' := qs g) GB (by omega)
          refine keep_row rfl 149 (.tmp 6) (.tmp 11) rfl _ _ rfl rfl _ _ O53 (info_qs g) rfl (one_qs g) (hK.out _ _ ⟨FA, FB⟩ (fun hS => ?_))
          clear hK K O53
          generalize U52.setRow g6 (qs g) = U53 at FA FB F6 F5 GB hS ⊢
          refine wpAnyH_done (by kernel_rfl) ?_ _
          go_wp2_with fail
          go_meet
          exact ⟨g5, g6, rfl, rfl, F5, F6, GB⟩
      · skip
        go_simp
        have F5 := Blk.new U44 149 (#[.int .u32 0, .int .u32 0, .int .u32 0, .int .u32 0])
        have l5A : w.heap.size < U44.heap.size := FA.lt
        replace FA := FA.alloc (.cells (#[.int .u32 0, .int .u32 0, .int .u32 0, .int .u32 0]) 149)
        have l5B : w.heap.size + 1 < U44.heap.size := FB.lt
        replace FB := FB.alloc (.cells (#[.int .u32 0, .int .u32 0, .int .u32 0, .int .u32 0]) 149)
        have l56 : g6 < U44.heap.size := F6.lt
        replace F6 := F6.alloc (.cells (#[.int .u32 0, .int .u32 0, .int .u32 0, .int .u32 0]) 149)
        have L5 := GB.size
        replace GB := GB.alloc GB.size (.cells (#[.int .u32 0, .int .u32 0, .int .u32 0, .int .u32 0]) 149)
        refine hK.out _ _ ⟨FA, FB⟩ (fun hS => ?_)
        clear hK K
        generalize U44.alloc (.cells (#[.int .u32 0, .int .u32 0, .int .u32 0, .int .u32 0]) 149) = U54 at F5 FA FB F6 GB hS ⊢
        generalize U44.heap.size = g5 at F5 l5A l5B l56 L5 ⊢
        refine wpAnyH_ready (rs := [1]) (by kernel_rfl) (by simp) ?_
        refine AllReadyH.cons rfl (fun K hK => ?_) (AllReadyH.nil)
        go_simp
        refine (HA.out _).mono ?_
        rintro e w55 ⟨rfl, h55⟩
        replace FA := FA.below h55 FA.lt
        replace FB := FB.below h55 FB.lt
        replace F6 := F6.below h55 F6.lt
        replace F5 := F5.below h55 F5.lt
        replace GB := GB.trans (h55.mono GB.size)
        clear h55
        refine hK.out _ _ ⟨FA, FB⟩ (fun hS => ?_)
        clear hK K
        refine wpAnyH_ready (rs := [3]) (by kernel_rfl) (by simp) ?_
        refine AllReadyH.cons rfl (fun K hK => ?_) (AllReadyH.nil)
        go_simp
        refine (HB.out _).mono ?_
        rintro e w56 ⟨rfl, h56⟩
        replace FA := FA.below h56 FA.lt
        replace FB := FB.below h56 FB.lt
        replace F6 := F6.below h56 F6.lt
        replace F5 := F5.below h56 F5.lt
        replace GB := GB.trans (h56.mono GB.size)
        clear h56
        refine hK.out _ _ ⟨FA, FB⟩ (fun hS => ?_)
        clear hK K
        refine wpAnyH_ready (rs := [6]) (by kernel_rfl) (by simp) ?_
        refine AllReadyH.cons rfl (fun K hK => ?_) (AllReadyH.nil)
        have O57 := F5
        replace FA := FA.other (g' := g5) (cs' := qs f) (by omega)
        replace FB := FB.other (g' := g5) (cs' := qs f) (by omega)
        replace F6 := F6.other (g' := g5) (cs' := qs f) (by omega)
        replace F5 := F5.row (cs' := qs f)
        replace GB := below_row (g' := g5) (cs' := qs f) GB (by omega)
        refine keep_row rfl 149 (.tmp 5) (.tmp 9) rfl _ _ rfl rfl _ _ O57 (info_qs f) rfl (one_qs f) (hK.out _ _ ⟨FA, FB⟩ (fun hS => ?_))
        clear hK K O57
        generalize w56.setRow g5 (qs f) = U57 at FA FB F6 F5 GB hS ⊢
        refine wpAnyH_ready (rs := [7]) (by kernel_rfl) (by simp) ?_
        refine AllReadyH.cons rfl (fun K hK => ?_) (AllReadyH.nil)
        have O58 := F6
        replace FA := FA.other (g' := g6) (cs' := qs g) (by omega)
        replace FB := FB.other (g' := g6) (cs' := qs g) (by omega)
        replace F5 := F5.other (g' := g6) (cs' := qs g) (by omega)
        replace F6 := F6.row (cs' := qs g)
        replace GB := below_row (g' := g6) (cs' := qs g) GB (by omega)
        refine keep_row rfl 149 (.tmp 6) (.tmp 11) rfl _ _ rfl rfl _ _ O58 (info_qs g) rfl (one_qs g) (hK.out _ _ ⟨FA, FB⟩ (fun hS => ?_))
        clear hK K O58
        generalize U57.setRow g6 (qs g) = U58 at FA FB F6 F5 GB hS ⊢
        refine wpAnyH_done (by kernel_rfl) ?_ _
        go_wp2_with fail
        go_meet
        exact ⟨g5, g6, rfl, rfl, F5, F6, GB⟩
  case rest =>
    clear FA FB GB HA HB
    obtain ⟨g5, g6, rfl, rfl, B5, B6, GB⟩ := hcut
    rcases cmpZ_cases f g with ⟨hall, hz⟩ | ⟨k0, hk0, hpre, hc⟩
    · have HC := Lib.hid (show true = true ↔ ∀ i, i < 4 → f i = g i by simpa using hall)
      rw [hz] at HR
      obtain rfl := HR.out
      clear hall hz HR
      go_wp2_with (first
        | (refine BigFrame.wpList_want rfl (fun K hK => wp_load_row 149 (.tmp 5) rfl _ rfl _ _ (0, 0) _ B5 Try.underlying149 rfl (info_qs f) (hK _ _ ?_)))
        | (refine BigFrame.wpList_want rfl (fun K hK => wp_load_row 149 (.tmp 6) rfl _ rfl _ _ (0, 0) _ B6 Try.underlying149 rfl (info_qs g) (hK _ _ ?_)))
        | (refine BigFrame.wpList_want rfl (fun K hK => wp_eq_qs (.tmp 12) (.tmp 13) 149 rfl _ _ rfl rfl HC.out (hK _ _ ?_))))
      go_ret
      exact ⟨rfl, GB⟩
    · have HC := Lib.hid (show false = true ↔ ∀ i, i < 4 → f i = g i from ⟨fun h => (by cases h), fun h => (by have := h k0 hk0; omega)⟩)
      have HP := Lib.hid hpre
      have HCC := Lib.hid hc
      clear hpre hc
      go_wp2_with (first
        | (refine BigFrame.wpList_want rfl (fun K hK => wp_load_row 149 (.tmp 5) rfl _ rfl _ _ (0, 0) _ B5 Try.underlying149 rfl (info_qs f) (hK _ _ ?_)))
        | (refine BigFrame.wpList_want rfl (fun K hK => wp_load_row 149 (.tmp 6) rfl _ rfl _ _ (0, 0) _ B6 Try.underlying149 rfl (info_qs g) (hK _ _ ?_)))
        | (refine BigFrame.wpList_want rfl (fun K hK => wp_eq_qs (.tmp 12) (.tmp 13) 149 rfl _ _ rfl rfl HC.out (hK _ _ ?_))))
      go_loopw [7] (fun p wr => ∃ k : Nat, k ≤ k0 ∧ p = .int .i64 k ∧ Blk wr g5 149 (qs f) ∧ Blk wr g6 149 (qs g) ∧ Below w.heap.size w wr) (fun p _ => 4 - (intOf p).toNat)
      case atStart => exact ⟨0, by omega, rfl, B5, B6, GB⟩
      case round =>
        clear B5 B6 GB
        obtain ⟨k, hk, rfl, B5, B6, GB⟩ := hrel
        have c5 := (B5.cell k).trans (qs_at f (by omega))
        have c6 := (B6.cell k).trans (qs_at g (by omega))
        have hk4 : (k : Int) < 4 := by omega
        have HB5 := Lib.hid B5
        have HB6 := Lib.hid B6
        clear B5 B6
        by_cases hlt : k < k0
        · have hb : ((f k : Int) == (g k : Int)) = true := by rw [HP.out k hlt]; simp
          go_wp2
          go_quiet (fail)
          go_wp2
          go_roundw
          case rel => exact ⟨k + 1, by omega, by go_num, HB5.out, HB6.out, below_drewN GB _⟩
          case measure => simp [intOf]; omega
        · obtain rfl : k = k0 := by omega
          have hb : ((f k : Int) == (g k : Int)) = false := by
            have := HCC.out
            simp
            omega
          rcases HCC.out with ⟨hl, hz⟩ | ⟨hl, hz⟩
          · rw [hz] at HR
            obtain rfl := HR.out
            have HL := Lib.hid (fun u => cmp_less (f k) (g k) hl u)
            clear hz HR HCC hl
            go_wp2
            go_quiet (fail)
            go_wp2
            go_quiet ((go_at_call 105; exact quiet_again (HL.out _)))
            go_wp2
            go_ret
            exact ⟨rfl, below_drewN (below_drewN GB _) _⟩
          · rw [hz] at HR
            obtain rfl := HR.out
            have HL := Lib.hid (fun u => cmp_more (f k) (g k) hl u)
            clear hz HR HCC hl
            go_wp2
            go_quiet (fail)
            go_wp2
            go_quiet ((go_at_call 105; exact quiet_again (HL.out _)))
            go_wp2
            go_ret
            exact ⟨rfl, below_drewN (below_drewN GB _) _⟩

end Go.Proofs.Ytngbamoffjlodaa.Dw
