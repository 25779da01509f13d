/-
  The walk of the law on sums and products. No statement is proved here.
-/
import Derived.Test.YteglkhljenjplaaLm
namespace Go.Proofs.Yteglkhljenjplaa
open Go.RowKit

theorem sum_words {ah al bh bl : Nat} (hah : ah < 18446744073709551616) (hal : al < 18446744073709551616) (hbh : bh < 18446744073709551616) (hbl : bl < 18446744073709551616) :
    num ah al < 340282366920938463463374607431768211456 ∧ num bh bl < 340282366920938463463374607431768211456 ∧ num ah al + num bh bl < 2 ^ 256 := by
  rw [num_def, num_def]
  omega

set_option maxHeartbeats 16000000 in
set_option maxRecDepth 100000 in
theorem sums_walk (ah al bh bl : Nat) (hah : ah < 18446744073709551616) (hal : al < 18446744073709551616) (hbh : bh < 18446744073709551616) (hbl : bl < 18446744073709551616) (w : World) :
    Calls Try.prog 3 #[.agg #[.int .u64 (ah : Int), .int .u64 (al : Int)], .agg #[.int .u64 (bh : Int), .int .u64 (bl : Int)]] w (Ans (.bool true) w) := by
  have hz := zero_bits
  obtain ⟨NA, hNA⟩ : ∃ N, num ah al = N := ⟨_, rfl⟩
  obtain ⟨NB, hNB⟩ : ∃ N, num bh bl = N := ⟨_, rfl⟩
  have hbd := sum_words hah hal hbh hbl
  rw [hNA, hNB] at hbd
  obtain ⟨r, hr⟩ : ∃ r, cmpN NA NB = r := ⟨_, rfl⟩
  have HCMP := Lib.hid (fun u => compare_num ah al bh bl r hah hal hbh hbl (by rw [hNA, hNB]; exact hr) u)
  have HOA : Hid (∀ u, Calls Try.prog 10 #[.agg #[.int .u64 (ah : Int), .int .u64 (al : Int)]] u (Row (cellsOf NA.testBit) u)) := Lib.hid (fun u => by
    have h := of_c ah al u hah hal
    rw [show ah * 2 ^ 64 + al = NA from (num_def ah al).symm.trans hNA] at h
    exact h)
  have HOB : Hid (∀ u, Calls Try.prog 10 #[.agg #[.int .u64 (bh : Int), .int .u64 (bl : Int)]] u (Row (cellsOf NB.testBit) u)) := Lib.hid (fun u => by
    have h := of_c bh bl u hbh hbl
    rw [show bh * 2 ^ 64 + bl = NB from (num_def bh bl).symm.trans hNB] at h
    exact h)
  have HOL := Lib.hid (fun u => of_low al u hal)
  have HPR := Lib.hid (fun u => product_c al bl u hbl)
  obtain ⟨mh, ml, hmm, hml, hmh⟩ := mul_words hal hbl
  have HMU := Lib.hid (fun u => mul_any al bl mh ml hal hbl hml hmm u)
  obtain ⟨NM, hNM⟩ : ∃ N, al * bl = N := ⟨_, rfl⟩
  rw [hNM] at HPR hmm
  have HNP : Hid (∀ u, Calls Try.prog 11 #[.agg (cellsOf NM.testBit)] u (Ans (.tuple #[.agg #[.int .u64 (mh : Int), .int .u64 (ml : Int)], .bool true]) u)) := Lib.hid (fun u => by
    have h := number_c NM u (by omega)
    rw [show NM % 2 ^ 128 / 2 ^ 64 = mh by omega, show NM % 2 ^ 64 = ml by omega, show decide (NM < 2 ^ 128) = true from decide_eq_true (by omega)] at h
    exact h)
  have HOW := Lib.hid (fun u => of_wide al u)
  have HLA := Lib.hid (fun u => less_c NA NB u (by omega) (by omega))
  have HLB := Lib.hid (fun u => less_c NB NA u (by omega) (by omega))
  obtain ⟨sh, sl, c, hS⟩ := Num.some (NA + NB)
  have HADD := Lib.hid (fun u => add_num ah al bh bl sh sl c hal hbl hah hbh (by rw [← num_def, ← num_def, hNA, hNB]; exact hS) u)
  have HSUM := Lib.hid (fun u => sum_c NA NB u)
  obtain ⟨nh, hnh⟩ : ∃ q, (NA + NB) % 2 ^ 128 / 2 ^ 64 = q := ⟨_, rfl⟩
  obtain ⟨nl, hnl⟩ : ∃ q, (NA + NB) % 2 ^ 64 = q := ⟨_, rfl⟩
  obtain ⟨ok, hok⟩ : ∃ b, decide (NA + NB < 2 ^ 128) = b := ⟨_, rfl⟩
  have HNS : Hid (∀ u, Calls Try.prog 11 #[.agg (cellsOf (NA + NB).testBit)] u (Ans (.tuple #[.agg #[.int .u64 (nh : Int), .int .u64 (nl : Int)], .bool ok]) u)) := Lib.hid (fun u => by
    have h := number_c (NA + NB) u hbd.2.2
    rw [hnh, hnl, hok] at h
    exact h)
  have hcase : (c = 0 ∧ nh = sh ∧ nl = sl ∧ ok = true) ∨ (c = 131 ∧ sh = 0 ∧ sl = 0 ∧ ok = false) := by
    rcases hS with ⟨h1, h2, h3, h4⟩ | ⟨h1, h2, h3, h4⟩
    · exact .inl ⟨h1, by omega, by omega, by rw [← hok]; exact decide_eq_true (by omega)⟩
    · exact .inr ⟨h1, h2, h3, by rw [← hok]; exact decide_eq_false (by omega)⟩
  have hless : (NA < NB ∧ r = -1) ∨ (¬ NA < NB ∧ NB < NA ∧ r = 1) ∨ (¬ NA < NB ∧ ¬ NB < NA ∧ r = 0) := by
    rw [← hr]
    rcases cmpN_cases NA NB with ⟨h, e⟩ | ⟨h, e⟩ | ⟨h, e⟩
    · exact .inl ⟨h, e⟩
    · exact .inr (.inr ⟨by omega, by omega, e⟩)
    · exact .inr (.inl ⟨by omega, h, e⟩)
  have HSUB1 := Lib.hid (fun (h : NA < NB) u => sub_under ah al bh bl hal hbl (by rw [← num_def, ← num_def, hNA, hNB]; exact h) u)
  obtain ⟨dh, hdh⟩ : ∃ q, (NA - NB) / 18446744073709551616 = q := ⟨_, rfl⟩
  obtain ⟨dl, hdl⟩ : ∃ q, (NA - NB) % 18446744073709551616 = q := ⟨_, rfl⟩
  have HSUB2 := Lib.hid (fun (h : ¬ NA < NB) u => sub_fits ah al bh bl dh dl hal hbl (by omega) hah (by have h1 := num_def ah al; have h2 := num_def bh bl; rw [hNA] at h1; rw [hNB] at h2; omega) u)
  have HTK := Lib.hid (fun (h : ¬ NA < NB) u => take_c NA NB u (by omega) (by omega))
  have HNT : Hid (∀ u, Calls Try.prog 11 #[.agg (cellsOf (NA - NB).testBit)] u (Ans (.tuple #[.agg #[.int .u64 (dh : Int), .int .u64 (dl : Int)], .bool true]) u)) := Lib.hid (fun u => by
    have h := number_c (NA - NB) u (by omega)
    rw [show (NA - NB) % 2 ^ 128 / 2 ^ 64 = dh by omega, show (NA - NB) % 2 ^ 64 = dl by omega, show decide (NA - NB < 2 ^ 128) = true from decide_eq_true (by omega)] at h
    exact h)
  obtain ⟨NS, hNS⟩ : ∃ N, NA + NB = N := ⟨_, rfl⟩
  obtain ⟨ND, hND⟩ : ∃ N, NA - NB = N := ⟨_, rfl⟩
  rw [hNS] at HSUM HNS
  rw [hND] at HTK HNT
  have HCASE := Lib.hid (And.intro hcase hless)
  obtain ⟨b1, b2, bb⟩ := blks2 w 24 24 #[.int .u64 (ah : Int), .int .u64 (al : Int)] #[.int .u64 (bh : Int), .int .u64 (bl : Int)]
  have HB := Lib.hid (And.intro b1 (And.intro b2 bb))
  clear b1 b2 bb hNA hNB hbd hr hmm hml hmh hNM hS hnh hnl hok hcase hless hdh hdl hNS hND hah hal hbh hbl
  go_enter Try.func3, Try.ntmps3
  go_wp2_with fail
  refine (wakes_any _).mono ?_
  rintro e w1 ⟨rfl, h1⟩
  have FA := HB.out.1.below h1 HB.out.1.lt
  have FB := HB.out.2.1.below h1 HB.out.2.1.lt
  have GB := HB.out.2.2.trans (h1.mono HB.out.2.2.size)
  clear HB h1
  go_upto_region 3 with fail
  go_cut [5, 6] (fun s5 s6 wx => ∃ g5 g6 : Nat, s5 = .pointer (some ⟨g5, 0, none⟩) ∧ s6 = .pointer (some ⟨g6, 0, none⟩) ∧ g5 ≠ g6 ∧ Blk wx g5 27 (cellsOf NA.testBit) ∧ Blk wx g6 27 (cellsOf NB.testBit) ∧
    Blk wx w.heap.size 24 #[.int .u64 (ah : Int), .int .u64 (al : Int)] ∧ Blk wx (w.heap.size + 1) 24 #[.int .u64 (bh : Int), .int .u64 (bl : Int)] ∧ Below w.heap.size w wx)
  case first =>
    replace FA : Blk w1.drew _ _ _ := FA
    replace FB : Blk w1.drew _ _ _ := FB
    replace GB := GB.drew
    refine wp_region_held_drew (S := fun W => Blk W w.heap.size 24 #[.int .u64 (ah : Int), .int .u64 (al : Int)] ∧ Blk W (w.heap.size + 1) 24 #[.int .u64 (bh : Int), .int .u64 (bl : Int)]) (by kernel_rfl) ⟨FA, FB⟩ (fun hS => ?_)
    generalize w1.drew = V at FA FB GB hS ⊢
    refine wpAnyH_take (i := 0) (v := .agg (#[.int .u64 (ah : Int), .int .u64 (al : Int)])) rfl (by kernel_rfl) (by kernel_rfl) (by kernel_rfl) (fun _ _ _ h => h) (yields_row (by rfl) 24 (.tmp 2) rfl (w.heap.size) rfl _ _ _ (fun _ h => h.1) Try.underlying24 rfl (by kernel_rfl)) hS ?_
    refine wpAnyH_take (i := 2) (v := .agg (#[.int .u64 (bh : Int), .int .u64 (bl : Int)])) rfl (by kernel_rfl) (by kernel_rfl) (by kernel_rfl) (fun _ _ _ h => h) (yields_row (by rfl) 24 (.tmp 3) rfl (w.heap.size + 1) rfl _ _ _ (fun _ h => h.2) Try.underlying24 rfl (by kernel_rfl)) hS ?_
    refine wpAnyH_ready (rs := [1, 4, 5]) (by kernel_rfl) (by simp) ?_
    refine AllReadyH.cons rfl (fun K hK => ?_) (AllReadyH.cons rfl (fun K hK => ?_) (AllReadyH.cons rfl (fun K hK => ?_) (AllReadyH.nil)))
    · skip
      go_simp
      refine (HOA.out _).mono ?_
      rintro e w1 ⟨rfl, h1⟩
      replace FA := FA.below h1 FA.lt
      replace FB := FB.below h1 FB.lt
      replace GB := GB.trans (h1.mono GB.size)
      clear h1
      refine hK.out _ _ ⟨FA, FB⟩ (fun hS => ?_)
      clear hK K
      refine wpAnyH_ready (rs := [3, 4, 5]) (by kernel_rfl) (by simp) ?_
      refine AllReadyH.cons rfl (fun K hK => ?_) (AllReadyH.cons rfl (fun K hK => ?_) (AllReadyH.cons rfl (fun K hK => ?_) (AllReadyH.nil)))
      · skip
        go_simp
        refine (HOB.out _).mono ?_
        rintro e w2 ⟨rfl, h2⟩
        replace FA := FA.below h2 FA.lt
        replace FB := FB.below h2 FB.lt
        replace GB := GB.trans (h2.mono GB.size)
        clear h2
        refine hK.out _ _ ⟨FA, FB⟩ (fun hS => ?_)
        clear hK K
        refine wpAnyH_ready (rs := [4, 5]) (by kernel_rfl) (by simp) ?_
        refine AllReadyH.cons rfl (fun K hK => ?_) (AllReadyH.cons rfl (fun K hK => ?_) (AllReadyH.nil))
        · skip
          go_simp
          have F5 := Blk.new w2 27 (cellsOf none_)
          have l5A : w.heap.size < w2.heap.size := FA.lt
          replace FA := FA.alloc (.cells (cellsOf none_) 27)
          have l5B : w.heap.size + 1 < w2.heap.size := FB.lt
          replace FB := FB.alloc (.cells (cellsOf none_) 27)
          have L5 := GB.size
          replace GB := GB.alloc GB.size (.cells (cellsOf none_) 27)
          refine hK.out _ _ ⟨FA, FB⟩ (fun hS => ?_)
          clear hK K
          generalize w2.alloc (.cells (cellsOf none_) 27) = U3 at F5 FA FB GB hS ⊢
          generalize w2.heap.size = g5 at F5 l5A l5B L5 ⊢
          refine wpAnyH_ready (rs := [5]) (by kernel_rfl) (by simp) ?_
          refine AllReadyH.cons rfl (fun K hK => ?_) (AllReadyH.nil)
          go_simp
          have F6 := Blk.new U3 27 (cellsOf none_)
          have l6A : w.heap.size < U3.heap.size := FA.lt
          replace FA := FA.alloc (.cells (cellsOf none_) 27)
          have l6B : w.heap.size + 1 < U3.heap.size := FB.lt
          replace FB := FB.alloc (.cells (cellsOf none_) 27)
          have l65 : g5 < U3.heap.size := F5.lt
          replace F5 := F5.alloc (.cells (cellsOf none_) 27)
          have L6 := GB.size
          replace GB := GB.alloc GB.size (.cells (cellsOf none_) 27)
          refine hK.out _ _ ⟨FA, FB⟩ (fun hS => ?_)
          clear hK K
          generalize U3.alloc (.cells (cellsOf none_) 27) = U4 at F6 FA FB F5 GB hS ⊢
          generalize U3.heap.size = g6 at F6 l6A l6B l65 L6 ⊢
          refine wpAnyH_ready (rs := [6]) (by kernel_rfl) (by simp) ?_
          refine AllReadyH.cons rfl (fun K hK => ?_) (AllReadyH.nil)
          have O5 := F5
          replace FA := FA.other (g' := g5) (cs' := cellsOf NA.testBit) (by omega)
          replace FB := FB.other (g' := g5) (cs' := cellsOf NA.testBit) (by omega)
          replace F6 := F6.other (g' := g5) (cs' := cellsOf NA.testBit) (by omega)
          replace F5 := F5.row (cs' := cellsOf NA.testBit)
          replace GB := below_row (g' := g5) (cs' := cellsOf NA.testBit) GB (by omega)
          refine keep_row rfl 27 (.tmp 5) (.tmp 18) rfl _ _ rfl rfl _ _ O5 (size_bits _) (by rw [cellsOf_size, cellsOf_size]) (cellsOf_one _) (hK.out _ _ ⟨FA, FB⟩ (fun hS => ?_))
          clear hK K O5
          generalize U4.setRow (g5) (cellsOf NA.testBit) = U5 at FA FB F5 F6 GB hS ⊢
          refine wpAnyH_ready (rs := [7]) (by kernel_rfl) (by simp) ?_
          refine AllReadyH.cons rfl (fun K hK => ?_) (AllReadyH.nil)
          have O6 := F6
          replace FA := FA.other (g' := g6) (cs' := cellsOf NB.testBit) (by omega)
          replace FB := FB.other (g' := g6) (cs' := cellsOf NB.testBit) (by omega)
          replace F5 := F5.other (g' := g6) (cs' := cellsOf NB.testBit) (by omega)
          replace F6 := F6.row (cs' := cellsOf NB.testBit)
          replace GB := below_row (g' := g6) (cs' := cellsOf NB.testBit) GB (by omega)
          refine keep_row rfl 27 (.tmp 6) (.tmp 20) rfl _ _ rfl rfl _ _ O6 (size_bits _) (by rw [cellsOf_size, cellsOf_size]) (cellsOf_one _) (hK.out _ _ ⟨FA, FB⟩ (fun hS => ?_))
          clear hK K O6
          generalize U5.setRow (g6) (cellsOf NB.testBit) = U6 at FA FB F5 F6 GB hS ⊢
          refine wpAnyH_done (by kernel_rfl) ?_ _
          go_wp2_with fail
          go_meet
          exact ⟨g5, g6, rfl, rfl, by omega, F5, F6, FA, FB, GB⟩
        · skip
          go_simp
          have F6 := Blk.new w2 27 (cellsOf none_)
          have l6A : w.heap.size < w2.heap.size := FA.lt
          replace FA := FA.alloc (.cells (cellsOf none_) 27)
          have l6B : w.heap.size + 1 < w2.heap.size := FB.lt
          replace FB := FB.alloc (.cells (cellsOf none_) 27)
          have L6 := GB.size
          replace GB := GB.alloc GB.size (.cells (cellsOf none_) 27)
          refine hK.out _ _ ⟨FA, FB⟩ (fun hS => ?_)
          clear hK K
          generalize w2.alloc (.cells (cellsOf none_) 27) = U7 at F6 FA FB GB hS ⊢
          generalize w2.heap.size = g6 at F6 l6A l6B L6 ⊢
          refine wpAnyH_ready (rs := [4]) (by kernel_rfl) (by simp) ?_
          refine AllReadyH.cons rfl (fun K hK => ?_) (AllReadyH.nil)
          go_simp
          have F5 := Blk.new U7 27 (cellsOf none_)
          have l5A : w.heap.size < U7.heap.size := FA.lt
          replace FA := FA.alloc (.cells (cellsOf none_) 27)
          have l5B : w.heap.size + 1 < U7.heap.size := FB.lt
          replace FB := FB.alloc (.cells (cellsOf none_) 27)
          have l56 : g6 < U7.heap.size := F6.lt
          replace F6 := F6.alloc (.cells (cellsOf none_) 27)
          have L5 := GB.size
          replace GB := GB.alloc GB.size (.cells (cellsOf none_) 27)
          refine hK.out _ _ ⟨FA, FB⟩ (fun hS => ?_)
          clear hK K
          generalize U7.alloc (.cells (cellsOf none_) 27) = U8 at F5 FA FB F6 GB hS ⊢
          generalize U7.heap.size = g5 at F5 l5A l5B l56 L5 ⊢
          refine wpAnyH_ready (rs := [6]) (by kernel_rfl) (by simp) ?_
          refine AllReadyH.cons rfl (fun K hK => ?_) (AllReadyH.nil)
          have O9 := F5
          replace FA := FA.other (g' := g5) (cs' := cellsOf NA.testBit) (by omega)
          replace FB := FB.other (g' := g5) (cs' := cellsOf NA.testBit) (by omega)
          replace F6 := F6.other (g' := g5) (cs' := cellsOf NA.testBit) (by omega)
          replace F5 := F5.row (cs' := cellsOf NA.testBit)
          replace GB := below_row (g' := g5) (cs' := cellsOf NA.testBit) GB (by omega)
          refine keep_row rfl 27 (.tmp 5) (.tmp 18) rfl _ _ rfl rfl _ _ O9 (size_bits _) (by rw [cellsOf_size, cellsOf_size]) (cellsOf_one _) (hK.out _ _ ⟨FA, FB⟩ (fun hS => ?_))
          clear hK K O9
          generalize U8.setRow (g5) (cellsOf NA.testBit) = U9 at FA FB F6 F5 GB hS ⊢
          refine wpAnyH_ready (rs := [7]) (by kernel_rfl) (by simp) ?_
          refine AllReadyH.cons rfl (fun K hK => ?_) (AllReadyH.nil)
          have O10 := F6
          replace FA := FA.other (g' := g6) (cs' := cellsOf NB.testBit) (by omega)
          replace FB := FB.other (g' := g6) (cs' := cellsOf NB.testBit) (by omega)
          replace F5 := F5.other (g' := g6) (cs' := cellsOf NB.testBit) (by omega)
          replace F6 := F6.row (cs' := cellsOf NB.testBit)
          replace GB := below_row (g' := g6) (cs' := cellsOf NB.testBit) GB (by omega)
          refine keep_row rfl 27 (.tmp 6) (.tmp 20) rfl _ _ rfl rfl _ _ O10 (size_bits _) (by rw [cellsOf_size, cellsOf_size]) (cellsOf_one _) (hK.out _ _ ⟨FA, FB⟩ (fun hS => ?_))
          clear hK K O10
          generalize U9.setRow (g6) (cellsOf NB.testBit) = U10 at FA FB F6 F5 GB hS ⊢
          refine wpAnyH_done (by kernel_rfl) ?_ _
          go_wp2_with fail
          go_meet
          exact ⟨g5, g6, rfl, rfl, by omega, F5, F6, FA, FB, GB⟩
      · skip
        go_simp
        have F5 := Blk.new w1 27 (cellsOf none_)
        have l5A : w.heap.size < w1.heap.size := FA.lt
        replace FA := FA.alloc (.cells (cellsOf none_) 27)
        have l5B : w.heap.size + 1 < w1.heap.size := FB.lt
        replace FB := FB.alloc (.cells (cellsOf none_) 27)
        have L5 := GB.size
        replace GB := GB.alloc GB.size (.cells (cellsOf none_) 27)
        refine hK.out _ _ ⟨FA, FB⟩ (fun hS => ?_)
        clear hK K
        generalize w1.alloc (.cells (cellsOf none_) 27) = U11 at F5 FA FB GB hS ⊢
        generalize w1.heap.size = g5 at F5 l5A l5B L5 ⊢
        refine wpAnyH_ready (rs := [3, 5]) (by kernel_rfl) (by simp) ?_
        refine AllReadyH.cons rfl (fun K hK => ?_) (AllReadyH.cons rfl (fun K hK => ?_) (AllReadyH.nil))
        · skip
          go_simp
          refine (HOB.out _).mono ?_
          rintro e w12 ⟨rfl, h12⟩
          replace FA := FA.below h12 FA.lt
          replace FB := FB.below h12 FB.lt
          replace F5 := F5.below h12 F5.lt
          replace GB := GB.trans (h12.mono GB.size)
          clear h12
          refine hK.out _ _ ⟨FA, FB⟩ (fun hS => ?_)
          clear hK K
          refine wpAnyH_ready (rs := [5]) (by kernel_rfl) (by simp) ?_
          refine AllReadyH.cons rfl (fun K hK => ?_) (AllReadyH.nil)
          go_simp
          have F6 := Blk.new w12 27 (cellsOf none_)
          have l6A : w.heap.size < w12.heap.size := FA.lt
          replace FA := FA.alloc (.cells (cellsOf none_) 27)
          have l6B : w.heap.size + 1 < w12.heap.size := FB.lt
          replace FB := FB.alloc (.cells (cellsOf none_) 27)
          have l65 : g5 < w12.heap.size := F5.lt
          replace F5 := F5.alloc (.cells (cellsOf none_) 27)
          have L6 := GB.size
          replace GB := GB.alloc GB.size (.cells (cellsOf none_) 27)
          refine hK.out _ _ ⟨FA, FB⟩ (fun hS => ?_)
          clear hK K
          generalize w12.alloc (.cells (cellsOf none_) 27) = U13 at F6 FA FB F5 GB hS ⊢
          generalize w12.heap.size = g6 at F6 l6A l6B l65 L6 ⊢
          refine wpAnyH_ready (rs := [6]) (by kernel_rfl) (by simp) ?_
          refine AllReadyH.cons rfl (fun K hK => ?_) (AllReadyH.nil)
          have O14 := F5
          replace FA := FA.other (g' := g5) (cs' := cellsOf NA.testBit) (by omega)
          replace FB := FB.other (g' := g5) (cs' := cellsOf NA.testBit) (by omega)
          replace F6 := F6.other (g' := g5) (cs' := cellsOf NA.testBit) (by omega)
          replace F5 := F5.row (cs' := cellsOf NA.testBit)
          replace GB := below_row (g' := g5) (cs' := cellsOf NA.testBit) GB (by omega)
          refine keep_row rfl 27 (.tmp 5) (.tmp 18) rfl _ _ rfl rfl _ _ O14 (size_bits _) (by rw [cellsOf_size, cellsOf_size]) (cellsOf_one _) (hK.out _ _ ⟨FA, FB⟩ (fun hS => ?_))
          clear hK K O14
          generalize U13.setRow (g5) (cellsOf NA.testBit) = U14 at FA FB F5 F6 GB hS ⊢
          refine wpAnyH_ready (rs := [7]) (by kernel_rfl) (by simp) ?_
          refine AllReadyH.cons rfl (fun K hK => ?_) (AllReadyH.nil)
          have O15 := F6
          replace FA := FA.other (g' := g6) (cs' := cellsOf NB.testBit) (by omega)
          replace FB := FB.other (g' := g6) (cs' := cellsOf NB.testBit) (by omega)
          replace F5 := F5.other (g' := g6) (cs' := cellsOf NB.testBit) (by omega)
          replace F6 := F6.row (cs' := cellsOf NB.testBit)
          replace GB := below_row (g' := g6) (cs' := cellsOf NB.testBit) GB (by omega)
          refine keep_row rfl 27 (.tmp 6) (.tmp 20) rfl _ _ rfl rfl _ _ O15 (size_bits _) (by rw [cellsOf_size, cellsOf_size]) (cellsOf_one _) (hK.out _ _ ⟨FA, FB⟩ (fun hS => ?_))
          clear hK K O15
          generalize U14.setRow (g6) (cellsOf NB.testBit) = U15 at FA FB F5 F6 GB hS ⊢
          refine wpAnyH_done (by kernel_rfl) ?_ _
          go_wp2_with fail
          go_meet
          exact ⟨g5, g6, rfl, rfl, by omega, F5, F6, FA, FB, GB⟩
        · skip
          go_simp
          have F6 := Blk.new U11 27 (cellsOf none_)
          have l6A : w.heap.size < U11.heap.size := FA.lt
          replace FA := FA.alloc (.cells (cellsOf none_) 27)
          have l6B : w.heap.size + 1 < U11.heap.size := FB.lt
          replace FB := FB.alloc (.cells (cellsOf none_) 27)
          have l65 : g5 < U11.heap.size := F5.lt
          replace F5 := F5.alloc (.cells (cellsOf none_) 27)
          have L6 := GB.size
          replace GB := GB.alloc GB.size (.cells (cellsOf none_) 27)
          refine hK.out _ _ ⟨FA, FB⟩ (fun hS => ?_)
          clear hK K
          generalize U11.alloc (.cells (cellsOf none_) 27) = U16 at F6 FA FB F5 GB hS ⊢
          generalize U11.heap.size = g6 at F6 l6A l6B l65 L6 ⊢
          refine wpAnyH_ready (rs := [3]) (by kernel_rfl) (by simp) ?_
          refine AllReadyH.cons rfl (fun K hK => ?_) (AllReadyH.nil)
          go_simp
          refine (HOB.out _).mono ?_
          rintro e w17 ⟨rfl, h17⟩
          replace FA := FA.below h17 FA.lt
          replace FB := FB.below h17 FB.lt
          replace F5 := F5.below h17 F5.lt
          replace F6 := F6.below h17 F6.lt
          replace GB := GB.trans (h17.mono GB.size)
          clear h17
          refine hK.out _ _ ⟨FA, FB⟩ (fun hS => ?_)
          clear hK K
          refine wpAnyH_ready (rs := [6]) (by kernel_rfl) (by simp) ?_
          refine AllReadyH.cons rfl (fun K hK => ?_) (AllReadyH.nil)
          have O18 := F5
          replace FA := FA.other (g' := g5) (cs' := cellsOf NA.testBit) (by omega)
          replace FB := FB.other (g' := g5) (cs' := cellsOf NA.testBit) (by omega)
          replace F6 := F6.other (g' := g5) (cs' := cellsOf NA.testBit) (by omega)
          replace F5 := F5.row (cs' := cellsOf NA.testBit)
          replace GB := below_row (g' := g5) (cs' := cellsOf NA.testBit) GB (by omega)
          refine keep_row rfl 27 (.tmp 5) (.tmp 18) rfl _ _ rfl rfl _ _ O18 (size_bits _) (by rw [cellsOf_size, cellsOf_size]) (cellsOf_one _) (hK.out _ _ ⟨FA, FB⟩ (fun hS => ?_))
          clear hK K O18
          generalize w17.setRow (g5) (cellsOf NA.testBit) = U18 at FA FB F5 F6 GB hS ⊢
          refine wpAnyH_ready (rs := [7]) (by kernel_rfl) (by simp) ?_
          refine AllReadyH.cons rfl (fun K hK => ?_) (AllReadyH.nil)
          have O19 := F6
          replace FA := FA.other (g' := g6) (cs' := cellsOf NB.testBit) (by omega)
          replace FB := FB.other (g' := g6) (cs' := cellsOf NB.testBit) (by omega)
          replace F5 := F5.other (g' := g6) (cs' := cellsOf NB.testBit) (by omega)
          replace F6 := F6.row (cs' := cellsOf NB.testBit)
          replace GB := below_row (g' := g6) (cs' := cellsOf NB.testBit) GB (by omega)
          refine keep_row rfl 27 (.tmp 6) (.tmp 20) rfl _ _ rfl rfl _ _ O19 (size_bits _) (by rw [cellsOf_size, cellsOf_size]) (cellsOf_one _) (hK.out _ _ ⟨FA, FB⟩ (fun hS => ?_))
          clear hK K O19
          generalize U18.setRow (g6) (cellsOf NB.testBit) = U19 at FA FB F5 F6 GB hS ⊢
          refine wpAnyH_done (by kernel_rfl) ?_ _
          go_wp2_with fail
          go_meet
          exact ⟨g5, g6, rfl, rfl, by omega, F5, F6, FA, FB, GB⟩
      · skip
        go_simp
        have F6 := Blk.new w1 27 (cellsOf none_)
        have l6A : w.heap.size < w1.heap.size := FA.lt
        replace FA := FA.alloc (.cells (cellsOf none_) 27)
        have l6B : w.heap.size + 1 < w1.heap.size := FB.lt
        replace FB := FB.alloc (.cells (cellsOf none_) 27)
        have L6 := GB.size
        replace GB := GB.alloc GB.size (.cells (cellsOf none_) 27)
        refine hK.out _ _ ⟨FA, FB⟩ (fun hS => ?_)
        clear hK K
        generalize w1.alloc (.cells (cellsOf none_) 27) = U20 at F6 FA FB GB hS ⊢
        generalize w1.heap.size = g6 at F6 l6A l6B L6 ⊢
        refine wpAnyH_ready (rs := [3, 4]) (by kernel_rfl) (by simp) ?_
        refine AllReadyH.cons rfl (fun K hK => ?_) (AllReadyH.cons rfl (fun K hK => ?_) (AllReadyH.nil))
        · skip
          go_simp
          refine (HOB.out _).mono ?_
          rintro e w21 ⟨rfl, h21⟩
          replace FA := FA.below h21 FA.lt
          replace FB := FB.below h21 FB.lt
          replace F6 := F6.below h21 F6.lt
          replace GB := GB.trans (h21.mono GB.size)
          clear h21
          refine hK.out _ _ ⟨FA, FB⟩ (fun hS => ?_)
          clear hK K
          refine wpAnyH_ready (rs := [4]) (by kernel_rfl) (by simp) ?_
          refine AllReadyH.cons rfl (fun K hK => ?_) (AllReadyH.nil)
          go_simp
          have F5 := Blk.new w21 27 (cellsOf none_)
          have l5A : w.heap.size < w21.heap.size := FA.lt
          replace FA := FA.alloc (.cells (cellsOf none_) 27)
          have l5B : w.heap.size + 1 < w21.heap.size := FB.lt
          replace FB := FB.alloc (.cells (cellsOf none_) 27)
          have l56 : g6 < w21.heap.size := F6.lt
          replace F6 := F6.alloc (.cells (cellsOf none_) 27)
          have L5 := GB.size
          replace GB := GB.alloc GB.size (.cells (cellsOf none_) 27)
          refine hK.out _ _ ⟨FA, FB⟩ (fun hS => ?_)
          clear hK K
          generalize w21.alloc (.cells (cellsOf none_) 27) = U22 at F5 FA FB F6 GB hS ⊢
          generalize w21.heap.size = g5 at F5 l5A l5B l56 L5 ⊢
          refine wpAnyH_ready (rs := [6]) (by kernel_rfl) (by simp) ?_
          refine AllReadyH.cons rfl (fun K hK => ?_) (AllReadyH.nil)
          have O23 := F5
          replace FA := FA.other (g' := g5) (cs' := cellsOf NA.testBit) (by omega)
          replace FB := FB.other (g' := g5) (cs' := cellsOf NA.testBit) (by omega)
          replace F6 := F6.other (g' := g5) (cs' := cellsOf NA.testBit) (by omega)
          replace F5 := F5.row (cs' := cellsOf NA.testBit)
          replace GB := below_row (g' := g5) (cs' := cellsOf NA.testBit) GB (by omega)
          refine keep_row rfl 27 (.tmp 5) (.tmp 18) rfl _ _ rfl rfl _ _ O23 (size_bits _) (by rw [cellsOf_size, cellsOf_size]) (cellsOf_one _) (hK.out _ _ ⟨FA, FB⟩ (fun hS => ?_))
          clear hK K O23
          generalize U22.setRow (g5) (cellsOf NA.testBit) = U23 at FA FB F6 F5 GB hS ⊢
          refine wpAnyH_ready (rs := [7]) (by kernel_rfl) (by simp) ?_
          refine AllReadyH.cons rfl (fun K hK => ?_) (AllReadyH.nil)
          have O24 := F6
          replace FA := FA.other (g' := g6) (cs' := cellsOf NB.testBit) (by omega)
          replace FB := FB.other (g' := g6) (cs' := cellsOf NB.testBit) (by omega)
          replace F5 := F5.other (g' := g6) (cs' := cellsOf NB.testBit) (by omega)
          replace F6 := F6.row (cs' := cellsOf NB.testBit)
          replace GB := below_row (g' := g6) (cs' := cellsOf NB.testBit) GB (by omega)
          refine keep_row rfl 27 (.tmp 6) (.tmp 20) rfl _ _ rfl rfl _ _ O24 (size_bits _) (by rw [cellsOf_size, cellsOf_size]) (cellsOf_one _) (hK.out _ _ ⟨FA, FB⟩ (fun hS => ?_))
          clear hK K O24
          generalize U23.setRow (g6) (cellsOf NB.testBit) = U24 at FA FB F6 F5 GB hS ⊢
          refine wpAnyH_done (by kernel_rfl) ?_ _
          go_wp2_with fail
          go_meet
          exact ⟨g5, g6, rfl, rfl, by omega, F5, F6, FA, FB, GB⟩
        · skip
          go_simp
          have F5 := Blk.new U20 27 (cellsOf none_)
          have l5A : w.heap.size < U20.heap.size := FA.lt
          replace FA := FA.alloc (.cells (cellsOf none_) 27)
          have l5B : w.heap.size + 1 < U20.heap.size := FB.lt
          replace FB := FB.alloc (.cells (cellsOf none_) 27)
          have l56 : g6 < U20.heap.size := F6.lt
          replace F6 := F6.alloc (.cells (cellsOf none_) 27)
          have L5 := GB.size
          replace GB := GB.alloc GB.size (.cells (cellsOf none_) 27)
          refine hK.out _ _ ⟨FA, FB⟩ (fun hS => ?_)
          clear hK K
          generalize U20.alloc (.cells (cellsOf none_) 27) = U25 at F5 FA FB F6 GB hS ⊢
          generalize U20.heap.size = g5 at F5 l5A l5B l56 L5 ⊢
          refine wpAnyH_ready (rs := [3]) (by kernel_rfl) (by simp) ?_
          refine AllReadyH.cons rfl (fun K hK => ?_) (AllReadyH.nil)
          go_simp
          refine (HOB.out _).mono ?_
          rintro e w26 ⟨rfl, h26⟩
          replace FA := FA.below h26 FA.lt
          replace FB := FB.below h26 FB.lt
          replace F6 := F6.below h26 F6.lt
          replace F5 := F5.below h26 F5.lt
          replace GB := GB.trans (h26.mono GB.size)
          clear h26
          refine hK.out _ _ ⟨FA, FB⟩ (fun hS => ?_)
          clear hK K
          refine wpAnyH_ready (rs := [6]) (by kernel_rfl) (by simp) ?_
          refine AllReadyH.cons rfl (fun K hK => ?_) (AllReadyH.nil)
          have O27 := F5
          replace FA := FA.other (g' := g5) (cs' := cellsOf NA.testBit) (by omega)
          replace FB := FB.other (g' := g5) (cs' := cellsOf NA.testBit) (by omega)
          replace F6 := F6.other (g' := g5) (cs' := cellsOf NA.testBit) (by omega)
          replace F5 := F5.row (cs' := cellsOf NA.testBit)
          replace GB := below_row (g' := g5) (cs' := cellsOf NA.testBit) GB (by omega)
          refine keep_row rfl 27 (.tmp 5) (.tmp 18) rfl _ _ rfl rfl _ _ O27 (size_bits _) (by rw [cellsOf_size, cellsOf_size]) (cellsOf_one _) (hK.out _ _ ⟨FA, FB⟩ (fun hS => ?_))
          clear hK K O27
          generalize w26.setRow (g5) (cellsOf NA.testBit) = U27 at FA FB F6 F5 GB hS ⊢
          refine wpAnyH_ready (rs := [7]) (by kernel_rfl) (by simp) ?_
          refine AllReadyH.cons rfl (fun K hK => ?_) (AllReadyH.nil)
          have O28 := F6
          replace FA := FA.other (g' := g6) (cs' := cellsOf NB.testBit) (by omega)
          replace FB := FB.other (g' := g6) (cs' := cellsOf NB.testBit) (by omega)
          replace F5 := F5.other (g' := g6) (cs' := cellsOf NB.testBit) (by omega)
          replace F6 := F6.row (cs' := cellsOf NB.testBit)
          replace GB := below_row (g' := g6) (cs' := cellsOf NB.testBit) GB (by omega)
          refine keep_row rfl 27 (.tmp 6) (.tmp 20) rfl _ _ rfl rfl _ _ O28 (size_bits _) (by rw [cellsOf_size, cellsOf_size]) (cellsOf_one _) (hK.out _ _ ⟨FA, FB⟩ (fun hS => ?_))
          clear hK K O28
          generalize U27.setRow (g6) (cellsOf NB.testBit) = U28 at FA FB F6 F5 GB hS ⊢
          refine wpAnyH_done (by kernel_rfl) ?_ _
          go_wp2_with fail
          go_meet
          exact ⟨g5, g6, rfl, rfl, by omega, F5, F6, FA, FB, GB⟩
    · skip
      go_simp
      have F5 := Blk.new V 27 (cellsOf none_)
      have l5A : w.heap.size < V.heap.size := FA.lt
      replace FA := FA.alloc (.cells (cellsOf none_) 27)
      have l5B : w.heap.size + 1 < V.heap.size := FB.lt
      replace FB := FB.alloc (.cells (cellsOf none_) 27)
      have L5 := GB.size
      replace GB := GB.alloc GB.size (.cells (cellsOf none_) 27)
      refine hK.out _ _ ⟨FA, FB⟩ (fun hS => ?_)
      clear hK K
      generalize V.alloc (.cells (cellsOf none_) 27) = U29 at F5 FA FB GB hS ⊢
      generalize V.heap.size = g5 at F5 l5A l5B L5 ⊢
      refine wpAnyH_ready (rs := [1, 5]) (by kernel_rfl) (by simp) ?_
      refine AllReadyH.cons rfl (fun K hK => ?_) (AllReadyH.cons rfl (fun K hK => ?_) (AllReadyH.nil))
      · skip
        go_simp
        refine (HOA.out _).mono ?_
        rintro e w30 ⟨rfl, h30⟩
        replace FA := FA.below h30 FA.lt
        replace FB := FB.below h30 FB.lt
        replace F5 := F5.below h30 F5.lt
        replace GB := GB.trans (h30.mono GB.size)
        clear h30
        refine hK.out _ _ ⟨FA, FB⟩ (fun hS => ?_)
        clear hK K
        refine wpAnyH_ready (rs := [3, 5]) (by kernel_rfl) (by simp) ?_
        refine AllReadyH.cons rfl (fun K hK => ?_) (AllReadyH.cons rfl (fun K hK => ?_) (AllReadyH.nil))
        · skip
          go_simp
          refine (HOB.out _).mono ?_
          rintro e w31 ⟨rfl, h31⟩
          replace FA := FA.below h31 FA.lt
          replace FB := FB.below h31 FB.lt
          replace F5 := F5.below h31 F5.lt
          replace GB := GB.trans (h31.mono GB.size)
          clear h31
          refine hK.out _ _ ⟨FA, FB⟩ (fun hS => ?_)
          clear hK K
          refine wpAnyH_ready (rs := [5]) (by kernel_rfl) (by simp) ?_
          refine AllReadyH.cons rfl (fun K hK => ?_) (AllReadyH.nil)
          go_simp
          have F6 := Blk.new w31 27 (cellsOf none_)
          have l6A : w.heap.size < w31.heap.size := FA.lt
          replace FA := FA.alloc (.cells (cellsOf none_) 27)
          have l6B : w.heap.size + 1 < w31.heap.size := FB.lt
          replace FB := FB.alloc (.cells (cellsOf none_) 27)
          have l65 : g5 < w31.heap.size := F5.lt
          replace F5 := F5.alloc (.cells (cellsOf none_) 27)
          have L6 := GB.size
          replace GB := GB.alloc GB.size (.cells (cellsOf none_) 27)
          refine hK.out _ _ ⟨FA, FB⟩ (fun hS => ?_)
          clear hK K
          generalize w31.alloc (.cells (cellsOf none_) 27) = U32 at F6 FA FB F5 GB hS ⊢
          generalize w31.heap.size = g6 at F6 l6A l6B l65 L6 ⊢
          refine wpAnyH_ready (rs := [6]) (by kernel_rfl) (by simp) ?_
          refine AllReadyH.cons rfl (fun K hK => ?_) (AllReadyH.nil)
          have O33 := F5
          replace FA := FA.other (g' := g5) (cs' := cellsOf NA.testBit) (by omega)
          replace FB := FB.other (g' := g5) (cs' := cellsOf NA.testBit) (by omega)
          replace F6 := F6.other (g' := g5) (cs' := cellsOf NA.testBit) (by omega)
          replace F5 := F5.row (cs' := cellsOf NA.testBit)
          replace GB := below_row (g' := g5) (cs' := cellsOf NA.testBit) GB (by omega)
          refine keep_row rfl 27 (.tmp 5) (.tmp 18) rfl _ _ rfl rfl _ _ O33 (size_bits _) (by rw [cellsOf_size, cellsOf_size]) (cellsOf_one _) (hK.out _ _ ⟨FA, FB⟩ (fun hS => ?_))
          clear hK K O33
          generalize U32.setRow (g5) (cellsOf NA.testBit) = U33 at FA FB F5 F6 GB hS ⊢
          refine wpAnyH_ready (rs := [7]) (by kernel_rfl) (by simp) ?_
          refine AllReadyH.cons rfl (fun K hK => ?_) (AllReadyH.nil)
          have O34 := F6
          replace FA := FA.other (g' := g6) (cs' := cellsOf NB.testBit) (by omega)
          replace FB := FB.other (g' := g6) (cs' := cellsOf NB.testBit) (by omega)
          replace F5 := F5.other (g' := g6) (cs' := cellsOf NB.testBit) (by omega)
          replace F6 := F6.row (cs' := cellsOf NB.testBit)
          replace GB := below_row (g' := g6) (cs' := cellsOf NB.testBit) GB (by omega)
          refine keep_row rfl 27 (.tmp 6) (.tmp 20) rfl _ _ rfl rfl _ _ O34 (size_bits _) (by rw [cellsOf_size, cellsOf_size]) (cellsOf_one _) (hK.out _ _ ⟨FA, FB⟩ (fun hS => ?_))
          clear hK K O34
          generalize U33.setRow (g6) (cellsOf NB.testBit) = U34 at FA FB F5 F6 GB hS ⊢
          refine wpAnyH_done (by kernel_rfl) ?_ _
          go_wp2_with fail
          go_meet
          exact ⟨g5, g6, rfl, rfl, by omega, F5, F6, FA, FB, GB⟩
        · skip
          go_simp
          have F6 := Blk.new w30 27 (cellsOf none_)
          have l6A : w.heap.size < w30.heap.size := FA.lt
          replace FA := FA.alloc (.cells (cellsOf none_) 27)
          have l6B : w.heap.size + 1 < w30.heap.size := FB.lt
          replace FB := FB.alloc (.cells (cellsOf none_) 27)
          have l65 : g5 < w30.heap.size := F5.lt
          replace F5 := F5.alloc (.cells (cellsOf none_) 27)
          have L6 := GB.size
          replace GB := GB.alloc GB.size (.cells (cellsOf none_) 27)
          refine hK.out _ _ ⟨FA, FB⟩ (fun hS => ?_)
          clear hK K
          generalize w30.alloc (.cells (cellsOf none_) 27) = U35 at F6 FA FB F5 GB hS ⊢
          generalize w30.heap.size = g6 at F6 l6A l6B l65 L6 ⊢
          refine wpAnyH_ready (rs := [3]) (by kernel_rfl) (by simp) ?_
          refine AllReadyH.cons rfl (fun K hK => ?_) (AllReadyH.nil)
          go_simp
          refine (HOB.out _).mono ?_
          rintro e w36 ⟨rfl, h36⟩
          replace FA := FA.below h36 FA.lt
          replace FB := FB.below h36 FB.lt
          replace F5 := F5.below h36 F5.lt
          replace F6 := F6.below h36 F6.lt
          replace GB := GB.trans (h36.mono GB.size)
          clear h36
          refine hK.out _ _ ⟨FA, FB⟩ (fun hS => ?_)
          clear hK K
          refine wpAnyH_ready (rs := [6]) (by kernel_rfl) (by simp) ?_
          refine AllReadyH.cons rfl (fun K hK => ?_) (AllReadyH.nil)
          have O37 := F5
          replace FA := FA.other (g' := g5) (cs' := cellsOf NA.testBit) (by omega)
          replace FB := FB.other (g' := g5) (cs' := cellsOf NA.testBit) (by omega)
          replace F6 := F6.other (g' := g5) (cs' := cellsOf NA.testBit) (by omega)
          replace F5 := F5.row (cs' := cellsOf NA.testBit)
          replace GB := below_row (g' := g5) (cs' := cellsOf NA.testBit) GB (by omega)
          refine keep_row rfl 27 (.tmp 5) (.tmp 18) rfl _ _ rfl rfl _ _ O37 (size_bits _) (by rw [cellsOf_size, cellsOf_size]) (cellsOf_one _) (hK.out _ _ ⟨FA, FB⟩ (fun hS => ?_))
          clear hK K O37
          generalize w36.setRow (g5) (cellsOf NA.testBit) = U37 at FA FB F5 F6 GB hS ⊢
          refine wpAnyH_ready (rs := [7]) (by kernel_rfl) (by simp) ?_
          refine AllReadyH.cons rfl (fun K hK => ?_) (AllReadyH.nil)
          have O38 := F6
          replace FA := FA.other (g' := g6) (cs' := cellsOf NB.testBit) (by omega)
          replace FB := FB.other (g' := g6) (cs' := cellsOf NB.testBit) (by omega)
          replace F5 := F5.other (g' := g6) (cs' := cellsOf NB.testBit) (by omega)
          replace F6 := F6.row (cs' := cellsOf NB.testBit)
          replace GB := below_row (g' := g6) (cs' := cellsOf NB.testBit) GB (by omega)
          refine keep_row rfl 27 (.tmp 6) (.tmp 20) rfl _ _ rfl rfl _ _ O38 (size_bits _) (by rw [cellsOf_size, cellsOf_size]) (cellsOf_one _) (hK.out _ _ ⟨FA, FB⟩ (fun hS => ?_))
          clear hK K O38
          generalize U37.setRow (g6) (cellsOf NB.testBit) = U38 at FA FB F5 F6 GB hS ⊢
          refine wpAnyH_done (by kernel_rfl) ?_ _
          go_wp2_with fail
          go_meet
          exact ⟨g5, g6, rfl, rfl, by omega, F5, F6, FA, FB, GB⟩
      · skip
        go_simp
        have F6 := Blk.new U29 27 (cellsOf none_)
        have l6A : w.heap.size < U29.heap.size := FA.lt
        replace FA := FA.alloc (.cells (cellsOf none_) 27)
        have l6B : w.heap.size + 1 < U29.heap.size := FB.lt
        replace FB := FB.alloc (.cells (cellsOf none_) 27)
        have l65 : g5 < U29.heap.size := F5.lt
        replace F5 := F5.alloc (.cells (cellsOf none_) 27)
        have L6 := GB.size
        replace GB := GB.alloc GB.size (.cells (cellsOf none_) 27)
        refine hK.out _ _ ⟨FA, FB⟩ (fun hS => ?_)
        clear hK K
        generalize U29.alloc (.cells (cellsOf none_) 27) = U39 at F6 FA FB F5 GB hS ⊢
        generalize U29.heap.size = g6 at F6 l6A l6B l65 L6 ⊢
        refine wpAnyH_ready (rs := [1]) (by kernel_rfl) (by simp) ?_
        refine AllReadyH.cons rfl (fun K hK => ?_) (AllReadyH.nil)
        go_simp
        refine (HOA.out _).mono ?_
        rintro e w40 ⟨rfl, h40⟩
        replace FA := FA.below h40 FA.lt
        replace FB := FB.below h40 FB.lt
        replace F5 := F5.below h40 F5.lt
        replace F6 := F6.below h40 F6.lt
        replace GB := GB.trans (h40.mono GB.size)
        clear h40
        refine hK.out _ _ ⟨FA, FB⟩ (fun hS => ?_)
        clear hK K
        refine wpAnyH_ready (rs := [3]) (by kernel_rfl) (by simp) ?_
        refine AllReadyH.cons rfl (fun K hK => ?_) (AllReadyH.nil)
        go_simp
        refine (HOB.out _).mono ?_
        rintro e w41 ⟨rfl, h41⟩
        replace FA := FA.below h41 FA.lt
        replace FB := FB.below h41 FB.lt
        replace F5 := F5.below h41 F5.lt
        replace F6 := F6.below h41 F6.lt
        replace GB := GB.trans (h41.mono GB.size)
        clear h41
        refine hK.out _ _ ⟨FA, FB⟩ (fun hS => ?_)
        clear hK K
        refine wpAnyH_ready (rs := [6]) (by kernel_rfl) (by simp) ?_
        refine AllReadyH.cons rfl (fun K hK => ?_) (AllReadyH.nil)
        have O42 := F5
        replace FA := FA.other (g' := g5) (cs' := cellsOf NA.testBit) (by omega)
        replace FB := FB.other (g' := g5) (cs' := cellsOf NA.testBit) (by omega)
        replace F6 := F6.other (g' := g5) (cs' := cellsOf NA.testBit) (by omega)
        replace F5 := F5.row (cs' := cellsOf NA.testBit)
        replace GB := below_row (g' := g5) (cs' := cellsOf NA.testBit) GB (by omega)
        refine keep_row rfl 27 (.tmp 5) (.tmp 18) rfl _ _ rfl rfl _ _ O42 (size_bits _) (by rw [cellsOf_size, cellsOf_size]) (cellsOf_one _) (hK.out _ _ ⟨FA, FB⟩ (fun hS => ?_))
        clear hK K O42
        generalize w41.setRow (g5) (cellsOf NA.testBit) = U42 at FA FB F5 F6 GB hS ⊢
        refine wpAnyH_ready (rs := [7]) (by kernel_rfl) (by simp) ?_
        refine AllReadyH.cons rfl (fun K hK => ?_) (AllReadyH.nil)
        have O43 := F6
        replace FA := FA.other (g' := g6) (cs' := cellsOf NB.testBit) (by omega)
        replace FB := FB.other (g' := g6) (cs' := cellsOf NB.testBit) (by omega)
        replace F5 := F5.other (g' := g6) (cs' := cellsOf NB.testBit) (by omega)
        replace F6 := F6.row (cs' := cellsOf NB.testBit)
        replace GB := below_row (g' := g6) (cs' := cellsOf NB.testBit) GB (by omega)
        refine keep_row rfl 27 (.tmp 6) (.tmp 20) rfl _ _ rfl rfl _ _ O43 (size_bits _) (by rw [cellsOf_size, cellsOf_size]) (cellsOf_one _) (hK.out _ _ ⟨FA, FB⟩ (fun hS => ?_))
        clear hK K O43
        generalize U42.setRow (g6) (cellsOf NB.testBit) = U43 at FA FB F5 F6 GB hS ⊢
        refine wpAnyH_done (by kernel_rfl) ?_ _
        go_wp2_with fail
        go_meet
        exact ⟨g5, g6, rfl, rfl, by omega, F5, F6, FA, FB, GB⟩
    · skip
      go_simp
      have F6 := Blk.new V 27 (cellsOf none_)
      have l6A : w.heap.size < V.heap.size := FA.lt
      replace FA := FA.alloc (.cells (cellsOf none_) 27)
      have l6B : w.heap.size + 1 < V.heap.size := FB.lt
      replace FB := FB.alloc (.cells (cellsOf none_) 27)
      have L6 := GB.size
      replace GB := GB.alloc GB.size (.cells (cellsOf none_) 27)
      refine hK.out _ _ ⟨FA, FB⟩ (fun hS => ?_)
      clear hK K
      generalize V.alloc (.cells (cellsOf none_) 27) = U44 at F6 FA FB GB hS ⊢
      generalize V.heap.size = g6 at F6 l6A l6B L6 ⊢
      refine wpAnyH_ready (rs := [1, 4]) (by kernel_rfl) (by simp) ?_
      refine AllReadyH.cons rfl (fun K hK => ?_) (AllReadyH.cons rfl (fun K hK => ?_) (AllReadyH.nil))
      · skip
        go_simp
        refine (HOA.out _).mono ?_
        rintro e w45 ⟨rfl, h45⟩
        replace FA := FA.below h45 FA.lt
        replace FB := FB.below h45 FB.lt
        replace F6 := F6.below h45 F6.lt
        replace GB := GB.trans (h45.mono GB.size)
        clear h45
        refine hK.out _ _ ⟨FA, FB⟩ (fun hS => ?_)
        clear hK K
        refine wpAnyH_ready (rs := [3, 4]) (by kernel_rfl) (by simp) ?_
        refine AllReadyH.cons rfl (fun K hK => ?_) (AllReadyH.cons rfl (fun K hK => ?_) (AllReadyH.nil))
        · skip
          go_simp
          refine (HOB.out _).mono ?_
          rintro e w46 ⟨rfl, h46⟩
          replace FA := FA.below h46 FA.lt
          replace FB := FB.below h46 FB.lt
          replace F6 := F6.below h46 F6.lt
          replace GB := GB.trans (h46.mono GB.size)
          clear h46
          refine hK.out _ _ ⟨FA, FB⟩ (fun hS => ?_)
          clear hK K
          refine wpAnyH_ready (rs := [4]) (by kernel_rfl) (by simp) ?_
          refine AllReadyH.cons rfl (fun K hK => ?_) (AllReadyH.nil)
          go_simp
          have F5 := Blk.new w46 27 (cellsOf none_)
          have l5A : w.heap.size < w46.heap.size := FA.lt
          replace FA := FA.alloc (.cells (cellsOf none_) 27)
          have l5B : w.heap.size + 1 < w46.heap.size := FB.lt
          replace FB := FB.alloc (.cells (cellsOf none_) 27)
          have l56 : g6 < w46.heap.size := F6.lt
          replace F6 := F6.alloc (.cells (cellsOf none_) 27)
          have L5 := GB.size
          replace GB := GB.alloc GB.size (.cells (cellsOf none_) 27)
          refine hK.out _ _ ⟨FA, FB⟩ (fun hS => ?_)
          clear hK K
          generalize w46.alloc (.cells (cellsOf none_) 27) = U47 at F5 FA FB F6 GB hS ⊢
          generalize w46.heap.size = g5 at F5 l5A l5B l56 L5 ⊢
          refine wpAnyH_ready (rs := [6]) (by kernel_rfl) (by simp) ?_
          refine AllReadyH.cons rfl (fun K hK => ?_) (AllReadyH.nil)
          have O48 := F5
          replace FA := FA.other (g' := g5) (cs' := cellsOf NA.testBit) (by omega)
          replace FB := FB.other (g' := g5) (cs' := cellsOf NA.testBit) (by omega)
          replace F6 := F6.other (g' := g5) (cs' := cellsOf NA.testBit) (by omega)
          replace F5 := F5.row (cs' := cellsOf NA.testBit)
          replace GB := below_row (g' := g5) (cs' := cellsOf NA.testBit) GB (by omega)
          refine keep_row rfl 27 (.tmp 5) (.tmp 18) rfl _ _ rfl rfl _ _ O48 (size_bits _) (by rw [cellsOf_size, cellsOf_size]) (cellsOf_one _) (hK.out _ _ ⟨FA, FB⟩ (fun hS => ?_))
          clear hK K O48
          generalize U47.setRow (g5) (cellsOf NA.testBit) = U48 at FA FB F6 F5 GB hS ⊢
          refine wpAnyH_ready (rs := [7]) (by kernel_rfl) (by simp) ?_
          refine AllReadyH.cons rfl (fun K hK => ?_) (AllReadyH.nil)
          have O49 := F6
          replace FA := FA.other (g' := g6) (cs' := cellsOf NB.testBit) (by omega)
          replace FB := FB.other (g' := g6) (cs' := cellsOf NB.testBit) (by omega)
          replace F5 := F5.other (g' := g6) (cs' := cellsOf NB.testBit) (by omega)
          replace F6 := F6.row (cs' := cellsOf NB.testBit)
          replace GB := below_row (g' := g6) (cs' := cellsOf NB.testBit) GB (by omega)
          refine keep_row rfl 27 (.tmp 6) (.tmp 20) rfl _ _ rfl rfl _ _ O49 (size_bits _) (by rw [cellsOf_size, cellsOf_size]) (cellsOf_one _) (hK.out _ _ ⟨FA, FB⟩ (fun hS => ?_))
          clear hK K O49
          generalize U48.setRow (g6) (cellsOf NB.testBit) = U49 at FA FB F6 F5 GB hS ⊢
          refine wpAnyH_done (by kernel_rfl) ?_ _
          go_wp2_with fail
          go_meet
          exact ⟨g5, g6, rfl, rfl, by omega, F5, F6, FA, FB, GB⟩
        · skip
          go_simp
          have F5 := Blk.new w45 27 (cellsOf none_)
          have l5A : w.heap.size < w45.heap.size := FA.lt
          replace FA := FA.alloc (.cells (cellsOf none_) 27)
          have l5B : w.heap.size + 1 < w45.heap.size := FB.lt
          replace FB := FB.alloc (.cells (cellsOf none_) 27)
          have l56 : g6 < w45.heap.size := F6.lt
          replace F6 := F6.alloc (.cells (cellsOf none_) 27)
          have L5 := GB.size
          replace GB := GB.alloc GB.size (.cells (cellsOf none_) 27)
          refine hK.out _ _ ⟨FA, FB⟩ (fun hS => ?_)
          clear hK K
          generalize w45.alloc (.cells (cellsOf none_) 27) = U50 at F5 FA FB F6 GB hS ⊢
          generalize w45.heap.size = g5 at F5 l5A l5B l56 L5 ⊢
          refine wpAnyH_ready (rs := [3]) (by kernel_rfl) (by simp) ?_
          refine AllReadyH.cons rfl (fun K hK => ?_) (AllReadyH.nil)
          go_simp
          refine (HOB.out _).mono ?_
          rintro e w51 ⟨rfl, h51⟩
          replace FA := FA.below h51 FA.lt
          replace FB := FB.below h51 FB.lt
          replace F6 := F6.below h51 F6.lt
          replace F5 := F5.below h51 F5.lt
          replace GB := GB.trans (h51.mono GB.size)
          clear h51
          refine hK.out _ _ ⟨FA, FB⟩ (fun hS => ?_)
          clear hK K
          refine wpAnyH_ready (rs := [6]) (by kernel_rfl) (by simp) ?_
          refine AllReadyH.cons rfl (fun K hK => ?_) (AllReadyH.nil)
          have O52 := F5
          replace FA := FA.other (g' := g5) (cs' := cellsOf NA.testBit) (by omega)
          replace FB := FB.other (g' := g5) (cs' := cellsOf NA.testBit) (by omega)
          replace F6 := F6.other (g' := g5) (cs' := cellsOf NA.testBit) (by omega)
          replace F5 := F5.row (cs' := cellsOf NA.testBit)
          replace GB := below_row (g' := g5) (cs' := cellsOf NA.testBit) GB (by omega)
          refine keep_row rfl 27 (.tmp 5) (.tmp 18) rfl _ _ rfl rfl _ _ O52 (size_bits _) (by rw [cellsOf_size, cellsOf_size]) (cellsOf_one _) (hK.out _ _ ⟨FA, FB⟩ (fun hS => ?_))
          clear hK K O52
          generalize w51.setRow (g5) (cellsOf NA.testBit) = U52 at FA FB F6 F5 GB hS ⊢
          refine wpAnyH_ready (rs := [7]) (by kernel_rfl) (by simp) ?_
          refine AllReadyH.cons rfl (fun K hK => ?_) (AllReadyH.nil)
          have O53 := F6
          replace FA := FA.other (g' := g6) (cs' := cellsOf NB.testBit) (by omega)
          replace FB := FB.other (g' := g6) (cs' := cellsOf NB.testBit) (by omega)
          replace F5 := F5.other (g' := g6) (cs' := cellsOf NB.testBit) (by omega)
          replace F6 := F6.row (cs' := cellsOf NB.testBit)
          replace GB := below_row (g' := g6) (cs' := cellsOf NB.testBit) GB (by omega)
          refine keep_row rfl 27 (.tmp 6) (.tmp 20) rfl _ _ rfl rfl _ _ O53 (size_bits _) (by rw [cellsOf_size, cellsOf_size]) (cellsOf_one _) (hK.out _ _ ⟨FA, FB⟩ (fun hS => ?_))
          clear hK K O53
          generalize U52.setRow (g6) (cellsOf NB.testBit) = U53 at FA FB F6 F5 GB hS ⊢
          refine wpAnyH_done (by kernel_rfl) ?_ _
          go_wp2_with fail
          go_meet
          exact ⟨g5, g6, rfl, rfl, by omega, F5, F6, FA, FB, GB⟩
      · skip
        go_simp
        have F5 := Blk.new U44 27 (cellsOf none_)
        have l5A : w.heap.size < U44.heap.size := FA.lt
        replace FA := FA.alloc (.cells (cellsOf none_) 27)
        have l5B : w.heap.size + 1 < U44.heap.size := FB.lt
        replace FB := FB.alloc (.cells (cellsOf none_) 27)
        have l56 : g6 < U44.heap.size := F6.lt
        replace F6 := F6.alloc (.cells (cellsOf none_) 27)
        have L5 := GB.size
        replace GB := GB.alloc GB.size (.cells (cellsOf none_) 27)
        refine hK.out _ _ ⟨FA, FB⟩ (fun hS => ?_)
        clear hK K
        generalize U44.alloc (.cells (cellsOf none_) 27) = U54 at F5 FA FB F6 GB hS ⊢
        generalize U44.heap.size = g5 at F5 l5A l5B l56 L5 ⊢
        refine wpAnyH_ready (rs := [1]) (by kernel_rfl) (by simp) ?_
        refine AllReadyH.cons rfl (fun K hK => ?_) (AllReadyH.nil)
        go_simp
        refine (HOA.out _).mono ?_
        rintro e w55 ⟨rfl, h55⟩
        replace FA := FA.below h55 FA.lt
        replace FB := FB.below h55 FB.lt
        replace F6 := F6.below h55 F6.lt
        replace F5 := F5.below h55 F5.lt
        replace GB := GB.trans (h55.mono GB.size)
        clear h55
        refine hK.out _ _ ⟨FA, FB⟩ (fun hS => ?_)
        clear hK K
        refine wpAnyH_ready (rs := [3]) (by kernel_rfl) (by simp) ?_
        refine AllReadyH.cons rfl (fun K hK => ?_) (AllReadyH.nil)
        go_simp
        refine (HOB.out _).mono ?_
        rintro e w56 ⟨rfl, h56⟩
        replace FA := FA.below h56 FA.lt
        replace FB := FB.below h56 FB.lt
        replace F6 := F6.below h56 F6.lt
        replace F5 := F5.below h56 F5.lt
        replace GB := GB.trans (h56.mono GB.size)
        clear h56
        refine hK.out _ _ ⟨FA, FB⟩ (fun hS => ?_)
        clear hK K
        refine wpAnyH_ready (rs := [6]) (by kernel_rfl) (by simp) ?_
        refine AllReadyH.cons rfl (fun K hK => ?_) (AllReadyH.nil)
        have O57 := F5
        replace FA := FA.other (g' := g5) (cs' := cellsOf NA.testBit) (by omega)
        replace FB := FB.other (g' := g5) (cs' := cellsOf NA.testBit) (by omega)
        replace F6 := F6.other (g' := g5) (cs' := cellsOf NA.testBit) (by omega)
        replace F5 := F5.row (cs' := cellsOf NA.testBit)
        replace GB := below_row (g' := g5) (cs' := cellsOf NA.testBit) GB (by omega)
        refine keep_row rfl 27 (.tmp 5) (.tmp 18) rfl _ _ rfl rfl _ _ O57 (size_bits _) (by rw [cellsOf_size, cellsOf_size]) (cellsOf_one _) (hK.out _ _ ⟨FA, FB⟩ (fun hS => ?_))
        clear hK K O57
        generalize w56.setRow (g5) (cellsOf NA.testBit) = U57 at FA FB F6 F5 GB hS ⊢
        refine wpAnyH_ready (rs := [7]) (by kernel_rfl) (by simp) ?_
        refine AllReadyH.cons rfl (fun K hK => ?_) (AllReadyH.nil)
        have O58 := F6
        replace FA := FA.other (g' := g6) (cs' := cellsOf NB.testBit) (by omega)
        replace FB := FB.other (g' := g6) (cs' := cellsOf NB.testBit) (by omega)
        replace F5 := F5.other (g' := g6) (cs' := cellsOf NB.testBit) (by omega)
        replace F6 := F6.row (cs' := cellsOf NB.testBit)
        replace GB := below_row (g' := g6) (cs' := cellsOf NB.testBit) GB (by omega)
        refine keep_row rfl 27 (.tmp 6) (.tmp 20) rfl _ _ rfl rfl _ _ O58 (size_bits _) (by rw [cellsOf_size, cellsOf_size]) (cellsOf_one _) (hK.out _ _ ⟨FA, FB⟩ (fun hS => ?_))
        clear hK K O58
        generalize U57.setRow (g6) (cellsOf NB.testBit) = U58 at FA FB F6 F5 GB hS ⊢
        refine wpAnyH_done (by kernel_rfl) ?_ _
        go_wp2_with fail
        go_meet
        exact ⟨g5, g6, rfl, rfl, by omega, F5, F6, FA, FB, GB⟩
  case rest =>
    clear FA FB GB HOA HOB
    obtain ⟨g5, g6, rfl, rfl, _, F5, F6, FA, FB, GB⟩ := hcut
    go_upto_region 4 with fail
    go_cut [7] (fun s7 wx => ∃ g7 : Nat, s7 = .pointer (some ⟨g7, 0, none⟩) ∧ Blk wx g7 24 #[.int .u64 (mh : Int), .int .u64 (ml : Int)] ∧ Blk wx g5 27 (cellsOf NA.testBit) ∧ Blk wx g6 27 (cellsOf NB.testBit) ∧
      Blk wx w.heap.size 24 #[.int .u64 (ah : Int), .int .u64 (al : Int)] ∧ Blk wx (w.heap.size + 1) 24 #[.int .u64 (bh : Int), .int .u64 (bl : Int)] ∧ Below w.heap.size w wx)
    case first =>
      replace FA : Blk (World.drew _) _ _ _ := FA
      replace FB : Blk (World.drew _) _ _ _ := FB
      replace F5 : Blk (World.drew _) _ _ _ := F5
      replace F6 : Blk (World.drew _) _ _ _ := F6
      replace GB := GB.drew
      refine wp_region_held_drew (S := fun W => Blk W w.heap.size 24 #[.int .u64 (ah : Int), .int .u64 (al : Int)] ∧ Blk W (w.heap.size + 1) 24 #[.int .u64 (bh : Int), .int .u64 (bl : Int)]) (by kernel_rfl) ⟨FA, FB⟩ (fun hS => ?_)
      generalize World.drew _ = V at FA FB F5 F6 GB hS ⊢
      refine wpAnyH_take (i := 0) (v := .pointer (some ⟨w.heap.size, 1, none⟩)) rfl (by kernel_rfl) (by kernel_rfl) (by kernel_rfl) (fun _ _ _ h => h) (Or.inl ⟨by rfl, fun u hSw => (by go_simp)⟩) hS ?_
      refine wpAnyH_take (i := 1) (v := .int .u64 (al : Int)) rfl (by kernel_rfl) (by kernel_rfl) (by kernel_rfl) (fun _ _ _ h => h) (Or.inl ⟨by rfl, fun u hSw => (by have c : u.cell? ⟨w.heap.size, 1, none⟩ = some (.int .u64 (al : Int)) := (hSw.1).cell 1; go_simp)⟩) hS ?_
      refine wpAnyH_take (i := 2) (v := .agg #[.int .u64 0, .int .u64 (al : Int)]) rfl (by kernel_rfl) (by kernel_rfl) (by kernel_rfl) (fun _ _ _ h => h) (Or.inl ⟨by rfl, fun u hSw => (by go_simp)⟩) hS ?_
      refine wpAnyH_take (i := 4) (v := .pointer (some ⟨w.heap.size + 1, 1, none⟩)) rfl (by kernel_rfl) (by kernel_rfl) (by kernel_rfl) (fun _ _ _ h => h) (Or.inl ⟨by rfl, fun u hSw => (by go_simp)⟩) hS ?_
      refine wpAnyH_take (i := 5) (v := .int .u64 (bl : Int)) rfl (by kernel_rfl) (by kernel_rfl) (by kernel_rfl) (fun _ _ _ h => h) (Or.inl ⟨by rfl, fun u hSw => (by have c : u.cell? ⟨w.heap.size + 1, 1, none⟩ = some (.int .u64 (bl : Int)) := (hSw.2).cell 1; go_simp)⟩) hS ?_
      refine wpAnyH_ready (rs := [3, 11]) (by kernel_rfl) (by simp) ?_
      refine AllReadyH.cons rfl (fun K hK => ?_) (AllReadyH.cons rfl (fun K hK => ?_) (AllReadyH.nil))
      · skip
        go_simp
        refine (HOL.out _).mono ?_
        rintro e w1 ⟨rfl, h1⟩
        replace FA := FA.below h1 FA.lt
        replace FB := FB.below h1 FB.lt
        replace F5 := F5.below h1 F5.lt
        replace F6 := F6.below h1 F6.lt
        replace GB := GB.trans (h1.mono GB.size)
        clear h1
        refine hK.out _ _ ⟨FA, FB⟩ (fun hS => ?_)
        clear hK K
        refine wpAnyH_ready (rs := [6, 11]) (by kernel_rfl) (by simp) ?_
        refine AllReadyH.cons rfl (fun K hK => ?_) (AllReadyH.cons rfl (fun K hK => ?_) (AllReadyH.nil))
        · skip
          go_simp
          refine (HPR.out _).mono ?_
          rintro e w2 ⟨rfl, h2⟩
          replace FA := FA.below h2 FA.lt
          replace FB := FB.below h2 FB.lt
          replace F5 := F5.below h2 F5.lt
          replace F6 := F6.below h2 F6.lt
          replace GB := GB.trans (h2.mono GB.size)
          clear h2
          refine hK.out _ _ ⟨FA, FB⟩ (fun hS => ?_)
          clear hK K
          refine wpAnyH_ready (rs := [7, 11]) (by kernel_rfl) (by simp) ?_
          refine AllReadyH.cons rfl (fun K hK => ?_) (AllReadyH.cons rfl (fun K hK => ?_) (AllReadyH.nil))
          · skip
            go_simp
            refine (HNP.out _).mono ?_
            rintro e w3 ⟨rfl, h3⟩
            replace FA := FA.below h3 FA.lt
            replace FB := FB.below h3 FB.lt
            replace F5 := F5.below h3 F5.lt
            replace F6 := F6.below h3 F6.lt
            replace GB := GB.trans (h3.mono GB.size)
            clear h3
            refine hK.out _ _ ⟨FA, FB⟩ (fun hS => ?_)
            clear hK K
            refine wpAnyH_take (i := 8) (v := .tuple #[.agg #[.int .u64 (mh : Int), .int .u64 (ml : Int)], .bool true]) rfl (by kernel_rfl) (by kernel_rfl) (by kernel_rfl) (fun _ _ _ h => h) (Or.inl ⟨by rfl, fun u hSw => (by go_simp)⟩) hS ?_
            refine wpAnyH_take (i := 9) (v := .agg #[.int .u64 (mh : Int), .int .u64 (ml : Int)]) rfl (by kernel_rfl) (by kernel_rfl) (by kernel_rfl) (fun _ _ _ h => h) (Or.inl ⟨by rfl, fun u hSw => (by go_simp)⟩) hS ?_
            refine wpAnyH_take (i := 10) (v := .bool true) rfl (by kernel_rfl) (by kernel_rfl) (by kernel_rfl) (fun _ _ _ h => h) (Or.inl ⟨by rfl, fun u hSw => (by go_simp)⟩) hS ?_
            refine wpAnyH_ready (rs := [11]) (by kernel_rfl) (by simp) ?_
            refine AllReadyH.cons rfl (fun K hK => ?_) (AllReadyH.nil)
            go_simp
            have F7 := Blk.new w3 24 (#[.int .u64 0, .int .u64 0])
            have l7A : w.heap.size < w3.heap.size := FA.lt
            replace FA := FA.alloc (.cells (#[.int .u64 0, .int .u64 0]) 24)
            have l7B : w.heap.size + 1 < w3.heap.size := FB.lt
            replace FB := FB.alloc (.cells (#[.int .u64 0, .int .u64 0]) 24)
            have l75 : g5 < w3.heap.size := F5.lt
            replace F5 := F5.alloc (.cells (#[.int .u64 0, .int .u64 0]) 24)
            have l76 : g6 < w3.heap.size := F6.lt
            replace F6 := F6.alloc (.cells (#[.int .u64 0, .int .u64 0]) 24)
            have L7 := GB.size
            replace GB := GB.alloc GB.size (.cells (#[.int .u64 0, .int .u64 0]) 24)
            refine hK.out _ _ ⟨FA, FB⟩ (fun hS => ?_)
            clear hK K
            generalize w3.alloc (.cells (#[.int .u64 0, .int .u64 0]) 24) = U4 at F7 FA FB F5 F6 GB hS ⊢
            generalize w3.heap.size = g7 at F7 l7A l7B l75 l76 L7 ⊢
            refine wpAnyH_ready (rs := [12]) (by kernel_rfl) (by simp) ?_
            refine AllReadyH.cons rfl (fun K hK => ?_) (AllReadyH.nil)
            have O5 := F7
            replace FA := FA.other (g' := g7) (cs' := #[.int .u64 (mh : Int), .int .u64 (ml : Int)]) (by omega)
            replace FB := FB.other (g' := g7) (cs' := #[.int .u64 (mh : Int), .int .u64 (ml : Int)]) (by omega)
            replace F5 := F5.other (g' := g7) (cs' := #[.int .u64 (mh : Int), .int .u64 (ml : Int)]) (by omega)
            replace F6 := F6.other (g' := g7) (cs' := #[.int .u64 (mh : Int), .int .u64 (ml : Int)]) (by omega)
            replace F7 := F7.row (cs' := #[.int .u64 (mh : Int), .int .u64 (ml : Int)])
            replace GB := below_row (g' := g7) (cs' := #[.int .u64 (mh : Int), .int .u64 (ml : Int)]) GB (by omega)
            refine keep_row rfl 24 (.tmp 7) (.tmp 30) rfl _ _ rfl rfl _ _ O5 (by kernel_rfl) rfl (by simp [Value.oneCell']) (hK.out _ _ ⟨FA, FB⟩ (fun hS => ?_))
            clear hK K O5
            generalize U4.setRow (g7) (#[.int .u64 (mh : Int), .int .u64 (ml : Int)]) = U5 at FA FB F5 F6 F7 GB hS ⊢
            refine wpAnyH_ready (rs := [13]) (by kernel_rfl) (by simp) ?_
            refine AllReadyH.cons rfl (fun K hK => ?_) (AllReadyH.nil)
            go_simp
            refine hK.out _ _ ⟨FA, FB⟩ (fun hS => ?_)
            clear hK K
            refine wpAnyH_done (by kernel_rfl) ?_ _
            go_wp2_with fail
            go_meet
            exact ⟨g7, rfl, F7, F5, F6, FA, FB, GB⟩
          · skip
            go_simp
            have F7 := Blk.new w2 24 (#[.int .u64 0, .int .u64 0])
            have l7A : w.heap.size < w2.heap.size := FA.lt
            replace FA := FA.alloc (.cells (#[.int .u64 0, .int .u64 0]) 24)
            have l7B : w.heap.size + 1 < w2.heap.size := FB.lt
            replace FB := FB.alloc (.cells (#[.int .u64 0, .int .u64 0]) 24)
            have l75 : g5 < w2.heap.size := F5.lt
            replace F5 := F5.alloc (.cells (#[.int .u64 0, .int .u64 0]) 24)
            have l76 : g6 < w2.heap.size := F6.lt
            replace F6 := F6.alloc (.cells (#[.int .u64 0, .int .u64 0]) 24)
            have L7 := GB.size
            replace GB := GB.alloc GB.size (.cells (#[.int .u64 0, .int .u64 0]) 24)
            refine hK.out _ _ ⟨FA, FB⟩ (fun hS => ?_)
            clear hK K
            generalize w2.alloc (.cells (#[.int .u64 0, .int .u64 0]) 24) = U7 at F7 FA FB F5 F6 GB hS ⊢
            generalize w2.heap.size = g7 at F7 l7A l7B l75 l76 L7 ⊢
            refine wpAnyH_ready (rs := [7]) (by kernel_rfl) (by simp) ?_
            refine AllReadyH.cons rfl (fun K hK => ?_) (AllReadyH.nil)
            go_simp
            refine (HNP.out _).mono ?_
            rintro e w8 ⟨rfl, h8⟩
            replace FA := FA.below h8 FA.lt
            replace FB := FB.below h8 FB.lt
            replace F5 := F5.below h8 F5.lt
            replace F6 := F6.below h8 F6.lt
            replace F7 := F7.below h8 F7.lt
            replace GB := GB.trans (h8.mono GB.size)
            clear h8
            refine hK.out _ _ ⟨FA, FB⟩ (fun hS => ?_)
            clear hK K
            refine wpAnyH_take (i := 8) (v := .tuple #[.agg #[.int .u64 (mh : Int), .int .u64 (ml : Int)], .bool true]) rfl (by kernel_rfl) (by kernel_rfl) (by kernel_rfl) (fun _ _ _ h => h) (Or.inl ⟨by rfl, fun u hSw => (by go_simp)⟩) hS ?_
            refine wpAnyH_take (i := 9) (v := .agg #[.int .u64 (mh : Int), .int .u64 (ml : Int)]) rfl (by kernel_rfl) (by kernel_rfl) (by kernel_rfl) (fun _ _ _ h => h) (Or.inl ⟨by rfl, fun u hSw => (by go_simp)⟩) hS ?_
            refine wpAnyH_take (i := 10) (v := .bool true) rfl (by kernel_rfl) (by kernel_rfl) (by kernel_rfl) (fun _ _ _ h => h) (Or.inl ⟨by rfl, fun u hSw => (by go_simp)⟩) hS ?_
            refine wpAnyH_ready (rs := [12]) (by kernel_rfl) (by simp) ?_
            refine AllReadyH.cons rfl (fun K hK => ?_) (AllReadyH.nil)
            have O9 := F7
            replace FA := FA.other (g' := g7) (cs' := #[.int .u64 (mh : Int), .int .u64 (ml : Int)]) (by omega)
            replace FB := FB.other (g' := g7) (cs' := #[.int .u64 (mh : Int), .int .u64 (ml : Int)]) (by omega)
            replace F5 := F5.other (g' := g7) (cs' := #[.int .u64 (mh : Int), .int .u64 (ml : Int)]) (by omega)
            replace F6 := F6.other (g' := g7) (cs' := #[.int .u64 (mh : Int), .int .u64 (ml : Int)]) (by omega)
            replace F7 := F7.row (cs' := #[.int .u64 (mh : Int), .int .u64 (ml : Int)])
            replace GB := below_row (g' := g7) (cs' := #[.int .u64 (mh : Int), .int .u64 (ml : Int)]) GB (by omega)
            refine keep_row rfl 24 (.tmp 7) (.tmp 30) rfl _ _ rfl rfl _ _ O9 (by kernel_rfl) rfl (by simp [Value.oneCell']) (hK.out _ _ ⟨FA, FB⟩ (fun hS => ?_))
            clear hK K O9
            generalize w8.setRow (g7) (#[.int .u64 (mh : Int), .int .u64 (ml : Int)]) = U9 at FA FB F5 F6 F7 GB hS ⊢
            refine wpAnyH_ready (rs := [13]) (by kernel_rfl) (by simp) ?_
            refine AllReadyH.cons rfl (fun K hK => ?_) (AllReadyH.nil)
            go_simp
            refine hK.out _ _ ⟨FA, FB⟩ (fun hS => ?_)
            clear hK K
            refine wpAnyH_done (by kernel_rfl) ?_ _
            go_wp2_with fail
            go_meet
            exact ⟨g7, rfl, F7, F5, F6, FA, FB, GB⟩
        · skip
          go_simp
          have F7 := Blk.new w1 24 (#[.int .u64 0, .int .u64 0])
          have l7A : w.heap.size < w1.heap.size := FA.lt
          replace FA := FA.alloc (.cells (#[.int .u64 0, .int .u64 0]) 24)
          have l7B : w.heap.size + 1 < w1.heap.size := FB.lt
          replace FB := FB.alloc (.cells (#[.int .u64 0, .int .u64 0]) 24)
          have l75 : g5 < w1.heap.size := F5.lt
          replace F5 := F5.alloc (.cells (#[.int .u64 0, .int .u64 0]) 24)
          have l76 : g6 < w1.heap.size := F6.lt
          replace F6 := F6.alloc (.cells (#[.int .u64 0, .int .u64 0]) 24)
          have L7 := GB.size
          replace GB := GB.alloc GB.size (.cells (#[.int .u64 0, .int .u64 0]) 24)
          refine hK.out _ _ ⟨FA, FB⟩ (fun hS => ?_)
          clear hK K
          generalize w1.alloc (.cells (#[.int .u64 0, .int .u64 0]) 24) = U11 at F7 FA FB F5 F6 GB hS ⊢
          generalize w1.heap.size = g7 at F7 l7A l7B l75 l76 L7 ⊢
          refine wpAnyH_ready (rs := [6]) (by kernel_rfl) (by simp) ?_
          refine AllReadyH.cons rfl (fun K hK => ?_) (AllReadyH.nil)
          go_simp
          refine (HPR.out _).mono ?_
          rintro e w12 ⟨rfl, h12⟩
          replace FA := FA.below h12 FA.lt
          replace FB := FB.below h12 FB.lt
          replace F5 := F5.below h12 F5.lt
          replace F6 := F6.below h12 F6.lt
          replace F7 := F7.below h12 F7.lt
          replace GB := GB.trans (h12.mono GB.size)
          clear h12
          refine hK.out _ _ ⟨FA, FB⟩ (fun hS => ?_)
          clear hK K
          refine wpAnyH_ready (rs := [7]) (by kernel_rfl) (by simp) ?_
          refine AllReadyH.cons rfl (fun K hK => ?_) (AllReadyH.nil)
          go_simp
          refine (HNP.out _).mono ?_
          rintro e w13 ⟨rfl, h13⟩
          replace FA := FA.below h13 FA.lt
          replace FB := FB.below h13 FB.lt
          replace F5 := F5.below h13 F5.lt
          replace F6 := F6.below h13 F6.lt
          replace F7 := F7.below h13 F7.lt
          replace GB := GB.trans (h13.mono GB.size)
          clear h13
          refine hK.out _ _ ⟨FA, FB⟩ (fun hS => ?_)
          clear hK K
          refine wpAnyH_take (i := 8) (v := .tuple #[.agg #[.int .u64 (mh : Int), .int .u64 (ml : Int)], .bool true]) rfl (by kernel_rfl) (by kernel_rfl) (by kernel_rfl) (fun _ _ _ h => h) (Or.inl ⟨by rfl, fun u hSw => (by go_simp)⟩) hS ?_
          refine wpAnyH_take (i := 9) (v := .agg #[.int .u64 (mh : Int), .int .u64 (ml : Int)]) rfl (by kernel_rfl) (by kernel_rfl) (by kernel_rfl) (fun _ _ _ h => h) (Or.inl ⟨by rfl, fun u hSw => (by go_simp)⟩) hS ?_
          refine wpAnyH_take (i := 10) (v := .bool true) rfl (by kernel_rfl) (by kernel_rfl) (by kernel_rfl) (fun _ _ _ h => h) (Or.inl ⟨by rfl, fun u hSw => (by go_simp)⟩) hS ?_
          refine wpAnyH_ready (rs := [12]) (by kernel_rfl) (by simp) ?_
          refine AllReadyH.cons rfl (fun K hK => ?_) (AllReadyH.nil)
          have O14 := F7
          replace FA := FA.other (g' := g7) (cs' := #[.int .u64 (mh : Int), .int .u64 (ml : Int)]) (by omega)
          replace FB := FB.other (g' := g7) (cs' := #[.int .u64 (mh : Int), .int .u64 (ml : Int)]) (by omega)
          replace F5 := F5.other (g' := g7) (cs' := #[.int .u64 (mh : Int), .int .u64 (ml : Int)]) (by omega)
          replace F6 := F6.other (g' := g7) (cs' := #[.int .u64 (mh : Int), .int .u64 (ml : Int)]) (by omega)
          replace F7 := F7.row (cs' := #[.int .u64 (mh : Int), .int .u64 (ml : Int)])
          replace GB := below_row (g' := g7) (cs' := #[.int .u64 (mh : Int), .int .u64 (ml : Int)]) GB (by omega)
          refine keep_row rfl 24 (.tmp 7) (.tmp 30) rfl _ _ rfl rfl _ _ O14 (by kernel_rfl) rfl (by simp [Value.oneCell']) (hK.out _ _ ⟨FA, FB⟩ (fun hS => ?_))
          clear hK K O14
          generalize w13.setRow (g7) (#[.int .u64 (mh : Int), .int .u64 (ml : Int)]) = U14 at FA FB F5 F6 F7 GB hS ⊢
          refine wpAnyH_ready (rs := [13]) (by kernel_rfl) (by simp) ?_
          refine AllReadyH.cons rfl (fun K hK => ?_) (AllReadyH.nil)
          go_simp
          refine hK.out _ _ ⟨FA, FB⟩ (fun hS => ?_)
          clear hK K
          refine wpAnyH_done (by kernel_rfl) ?_ _
          go_wp2_with fail
          go_meet
          exact ⟨g7, rfl, F7, F5, F6, FA, FB, GB⟩
      · skip
        go_simp
        have F7 := Blk.new V 24 (#[.int .u64 0, .int .u64 0])
        have l7A : w.heap.size < V.heap.size := FA.lt
        replace FA := FA.alloc (.cells (#[.int .u64 0, .int .u64 0]) 24)
        have l7B : w.heap.size + 1 < V.heap.size := FB.lt
        replace FB := FB.alloc (.cells (#[.int .u64 0, .int .u64 0]) 24)
        have l75 : g5 < V.heap.size := F5.lt
        replace F5 := F5.alloc (.cells (#[.int .u64 0, .int .u64 0]) 24)
        have l76 : g6 < V.heap.size := F6.lt
        replace F6 := F6.alloc (.cells (#[.int .u64 0, .int .u64 0]) 24)
        have L7 := GB.size
        replace GB := GB.alloc GB.size (.cells (#[.int .u64 0, .int .u64 0]) 24)
        refine hK.out _ _ ⟨FA, FB⟩ (fun hS => ?_)
        clear hK K
        generalize V.alloc (.cells (#[.int .u64 0, .int .u64 0]) 24) = U16 at F7 FA FB F5 F6 GB hS ⊢
        generalize V.heap.size = g7 at F7 l7A l7B l75 l76 L7 ⊢
        refine wpAnyH_ready (rs := [3]) (by kernel_rfl) (by simp) ?_
        refine AllReadyH.cons rfl (fun K hK => ?_) (AllReadyH.nil)
        go_simp
        refine (HOL.out _).mono ?_
        rintro e w17 ⟨rfl, h17⟩
        replace FA := FA.below h17 FA.lt
        replace FB := FB.below h17 FB.lt
        replace F5 := F5.below h17 F5.lt
        replace F6 := F6.below h17 F6.lt
        replace F7 := F7.below h17 F7.lt
        replace GB := GB.trans (h17.mono GB.size)
        clear h17
        refine hK.out _ _ ⟨FA, FB⟩ (fun hS => ?_)
        clear hK K
        refine wpAnyH_ready (rs := [6]) (by kernel_rfl) (by simp) ?_
        refine AllReadyH.cons rfl (fun K hK => ?_) (AllReadyH.nil)
        go_simp
        refine (HPR.out _).mono ?_
        rintro e w18 ⟨rfl, h18⟩
        replace FA := FA.below h18 FA.lt
        replace FB := FB.below h18 FB.lt
        replace F5 := F5.below h18 F5.lt
        replace F6 := F6.below h18 F6.lt
        replace F7 := F7.below h18 F7.lt
        replace GB := GB.trans (h18.mono GB.size)
        clear h18
        refine hK.out _ _ ⟨FA, FB⟩ (fun hS => ?_)
        clear hK K
        refine wpAnyH_ready (rs := [7]) (by kernel_rfl) (by simp) ?_
        refine AllReadyH.cons rfl (fun K hK => ?_) (AllReadyH.nil)
        go_simp
        refine (HNP.out _).mono ?_
        rintro e w19 ⟨rfl, h19⟩
        replace FA := FA.below h19 FA.lt
        replace FB := FB.below h19 FB.lt
        replace F5 := F5.below h19 F5.lt
        replace F6 := F6.below h19 F6.lt
        replace F7 := F7.below h19 F7.lt
        replace GB := GB.trans (h19.mono GB.size)
        clear h19
        refine hK.out _ _ ⟨FA, FB⟩ (fun hS => ?_)
        clear hK K
        refine wpAnyH_take (i := 8) (v := .tuple #[.agg #[.int .u64 (mh : Int), .int .u64 (ml : Int)], .bool true]) rfl (by kernel_rfl) (by kernel_rfl) (by kernel_rfl) (fun _ _ _ h => h) (Or.inl ⟨by rfl, fun u hSw => (by go_simp)⟩) hS ?_
        refine wpAnyH_take (i := 9) (v := .agg #[.int .u64 (mh : Int), .int .u64 (ml : Int)]) rfl (by kernel_rfl) (by kernel_rfl) (by kernel_rfl) (fun _ _ _ h => h) (Or.inl ⟨by rfl, fun u hSw => (by go_simp)⟩) hS ?_
        refine wpAnyH_take (i := 10) (v := .bool true) rfl (by kernel_rfl) (by kernel_rfl) (by kernel_rfl) (fun _ _ _ h => h) (Or.inl ⟨by rfl, fun u hSw => (by go_simp)⟩) hS ?_
        refine wpAnyH_ready (rs := [12]) (by kernel_rfl) (by simp) ?_
        refine AllReadyH.cons rfl (fun K hK => ?_) (AllReadyH.nil)
        have O20 := F7
        replace FA := FA.other (g' := g7) (cs' := #[.int .u64 (mh : Int), .int .u64 (ml : Int)]) (by omega)
        replace FB := FB.other (g' := g7) (cs' := #[.int .u64 (mh : Int), .int .u64 (ml : Int)]) (by omega)
        replace F5 := F5.other (g' := g7) (cs' := #[.int .u64 (mh : Int), .int .u64 (ml : Int)]) (by omega)
        replace F6 := F6.other (g' := g7) (cs' := #[.int .u64 (mh : Int), .int .u64 (ml : Int)]) (by omega)
        replace F7 := F7.row (cs' := #[.int .u64 (mh : Int), .int .u64 (ml : Int)])
        replace GB := below_row (g' := g7) (cs' := #[.int .u64 (mh : Int), .int .u64 (ml : Int)]) GB (by omega)
        refine keep_row rfl 24 (.tmp 7) (.tmp 30) rfl _ _ rfl rfl _ _ O20 (by kernel_rfl) rfl (by simp [Value.oneCell']) (hK.out _ _ ⟨FA, FB⟩ (fun hS => ?_))
        clear hK K O20
        generalize w19.setRow (g7) (#[.int .u64 (mh : Int), .int .u64 (ml : Int)]) = U20 at FA FB F5 F6 F7 GB hS ⊢
        refine wpAnyH_ready (rs := [13]) (by kernel_rfl) (by simp) ?_
        refine AllReadyH.cons rfl (fun K hK => ?_) (AllReadyH.nil)
        go_simp
        refine hK.out _ _ ⟨FA, FB⟩ (fun hS => ?_)
        clear hK K
        refine wpAnyH_done (by kernel_rfl) ?_ _
        go_wp2_with fail
        go_meet
        exact ⟨g7, rfl, F7, F5, F6, FA, FB, GB⟩
    case rest =>
      clear F5 F6 FA FB GB HOL HPR HNP hz
      obtain ⟨g7, rfl, F7, F5, F6, FA, FB, GB⟩ := hcut
      -- what is wanted of Compare
      go_upto_if 34 with (first
        | (refine wpList_load_row rfl 27 (.tmp 5) rfl _ rfl _ _ (0, 0) _ F5 Try.underlying27 rfl (size_bits _) ?_)
        | (refine wpList_load_row rfl 27 (.tmp 6) rfl _ rfl _ _ (0, 0) _ F6 Try.underlying27 rfl (size_bits _) ?_))
      refine (HLA.out _).mono ?_
      rintro e w2 ⟨rfl, h2⟩
      replace F7 := F7.below h2 F7.lt
      replace F5 := F5.below h2 F5.lt
      replace F6 := F6.below h2 F6.lt
      replace FA := FA.below h2 FA.lt
      replace FB := FB.below h2 FB.lt
      replace GB := GB.trans (h2.mono GB.size)
      clear h2
      obtain ⟨r0, hr0⟩ : ∃ r0 : Int, r0 = (if NA < NB then -1 else 0) := ⟨_, rfl⟩
      go_upto_if 34 with fail
      go_cut [9] (fun s9 wx => s9 = .int .i64 r0 ∧ w2 = wx)
      case first =>
        by_cases hl : NA < NB
        · have hb : decide (NA < NB) = true := decide_eq_true hl
          rw [if_pos hl] at hr0
          subst hr0
          go_wp2
          go_meet
          exact ⟨rfl, rfl⟩
        · have hb : decide (NA < NB) = false := decide_eq_false hl
          rw [if_neg hl] at hr0
          subst hr0
          go_wp2
          go_meet
          exact ⟨rfl, rfl⟩
      case rest =>
        obtain ⟨rfl, rfl⟩ := hcut
        have HR0 := Lib.hid hr0
        clear hr0
        go_upto_if 37 with (first
          | (refine wpList_load_row rfl 27 (.tmp 5) rfl _ rfl _ _ (0, 0) _ F5 Try.underlying27 rfl (size_bits _) ?_)
          | (refine wpList_load_row rfl 27 (.tmp 6) rfl _ rfl _ _ (0, 0) _ F6 Try.underlying27 rfl (size_bits _) ?_))
        refine (HLB.out _).mono ?_
        rintro e w3 ⟨rfl, h3⟩
        replace F7 := F7.below h3 F7.lt
        replace F5 := F5.below h3 F5.lt
        replace F6 := F6.below h3 F6.lt
        replace FA := FA.below h3 FA.lt
        replace FB := FB.below h3 FB.lt
        replace GB := GB.trans (h3.mono GB.size)
        clear h3
        go_upto_if 37 with fail
        go_cut [9] (fun s9 wx => s9 = .int .i64 r ∧ w3 = wx)
        case first =>
          have hr0 := HR0.out
          rcases HCASE.out.2 with ⟨h1, h2⟩ | ⟨h1, h2, h3⟩ | ⟨h1, h2, h3⟩
          · have hb : decide (NB < NA) = false := decide_eq_false (by omega)
            rw [if_pos h1] at hr0
            subst h2 hr0
            have h4 : ¬ NB < NA := by omega
            go_wp2
            go_meet
            exact ⟨rfl, rfl⟩
          · have hb : decide (NB < NA) = true := decide_eq_true h2
            subst h3
            clear h1 hr0
            go_wp2
            go_meet
            exact ⟨rfl, rfl⟩
          · have hb : decide (NB < NA) = false := decide_eq_false h2
            rw [if_neg h1] at hr0
            subst h3 hr0
            clear h1
            go_wp2
            go_meet
            exact ⟨rfl, rfl⟩
        case rest =>
          obtain ⟨rfl, rfl⟩ := hcut
          clear HR0 HLA HLB
          go_upto_region 10 with fail
          go_cut [60] (fun s60 wx => s60 = .bool false ∧ Blk wx g5 27 (cellsOf NA.testBit) ∧ Blk wx g6 27 (cellsOf NB.testBit) ∧
            Blk wx w.heap.size 24 #[.int .u64 (ah : Int), .int .u64 (al : Int)] ∧ Blk wx (w.heap.size + 1) 24 #[.int .u64 (bh : Int), .int .u64 (bl : Int)] ∧ Below w.heap.size w wx)
          case first =>
            have k1 : C2 _ _ _ w3.drew := FA.two
            have k2 : C2 _ _ _ w3.drew := FB.two
            have k3 : C2 _ _ _ w3.drew := F7.two
            go_region_held3 (fun w' => w'.cell? ⟨w.heap.size, 0, none⟩ = some (.int .u64 (ah : Int)) ∧ w'.cell? ⟨w.heap.size, 1, none⟩ = some (.int .u64 (al : Int)) ∧ w'.cell? ⟨w.heap.size + 1, 0, none⟩ = some (.int .u64 (bh : Int)) ∧ w'.cell? ⟨w.heap.size + 1, 1, none⟩ = some (.int .u64 (bl : Int)) ∧ w'.cell? ⟨g7, 0, none⟩ = some (.int .u64 (mh : Int)) ∧ w'.cell? ⟨g7, 1, none⟩ = some (.int .u64 (ml : Int)))
              (first | exact ⟨m1.1, m1.2, m2.1, m2.2, m3.1, m3.2⟩ | exact ⟨j1.1, j1.2, j2.1, j2.2, j3.1, j3.2⟩ | exact ⟨i1.1, i1.2, i2.1, i2.2, i3.1, i3.2⟩ | exact ⟨k1.1, k1.2, k2.1, k2.2, k3.1, k3.2⟩)
              (first
                | (go_at_call 14; (with_reducible refine (HMU.out _).mono ?_); rintro e w4 ⟨rfl, h4⟩; have i1 := k1.below h4; have i2 := k2.below h4; have i3 := k3.below h4)
                | (go_at_call 15; (with_reducible refine (HCMP.out _).mono ?_); rintro e w5 ⟨rfl, h5⟩; have j1 := i1.below h5; have j2 := i2.below h5; have j3 := i3.below h5; have T2 := h4.trans (h5.mono h4.size))
                | (go_at_call 16; (with_reducible refine (HOW.out _).mono ?_); rintro e w6 ⟨rfl, h6⟩; have m1 := j1.below h6; have m2 := j2.below h6; have m3 := j3.below h6; have T3 := T2.trans (h6.mono T2.size)))
            have E5 : Blk w3.drew _ _ _ := F5
            have E6 : Blk w3.drew _ _ _ := F6
            have EA : Blk w3.drew _ _ _ := FA
            have EB : Blk w3.drew _ _ _ := FB
            have EG := GB.drew
            go_wp2_with fail
            go_meet
            exact ⟨rfl, E5.below T3 E5.lt, E6.below T3 E6.lt, EA.below T3 EA.lt, EB.below T3 EB.lt, EG.trans (T3.mono EG.size)⟩
          case rest =>
            clear F7 F5 F6 FA FB GB HMU HCMP HOW
            obtain ⟨rfl, F5, F6, FA, FB, GB⟩ := hcut
            obtain ⟨p0, p1⟩ := FA.two
            obtain ⟨p2, p3⟩ := FB.two
            go_wp2_with fail
            refine (HADD.out _).mono ?_
            rintro e v1 ⟨rfl, k1⟩
            clear p0 p1 p2 p3
            replace FA := FA.below k1 FA.lt
            replace FB := FB.below k1 FB.lt
            replace F5 := F5.below k1 F5.lt
            replace F6 := F6.below k1 F6.lt
            replace GB := GB.trans (k1.mono GB.size)
            clear k1
            go_upto_region 13 with fail
            have F10 := Blk.new v1 24 #[.int .u64 (sh : Int), .int .u64 (sl : Int)]
            have lF10FA := FA.lt
            replace FA := FA.alloc (.cells #[.int .u64 (sh : Int), .int .u64 (sl : Int)] 24)
            have lF10FB := FB.lt
            replace FB := FB.alloc (.cells #[.int .u64 (sh : Int), .int .u64 (sl : Int)] 24)
            have lF10F5 := F5.lt
            replace F5 := F5.alloc (.cells #[.int .u64 (sh : Int), .int .u64 (sl : Int)] 24)
            have lF10F6 := F6.lt
            replace F6 := F6.alloc (.cells #[.int .u64 (sh : Int), .int .u64 (sl : Int)] 24)
            replace GB := GB.alloc GB.size (.cells #[.int .u64 (sh : Int), .int .u64 (sl : Int)] 24)
            have LF10 := GB.size
            generalize v1.alloc (.cells #[.int .u64 (sh : Int), .int .u64 (sl : Int)] 24) = V1 at F10 FA FB F5 F6 GB LF10 ⊢
            generalize v1.heap.size = g10 at F10 lF10FA lF10FB lF10F5 lF10F6 ⊢
            go_wp2_with (first
              | (refine wpList_load_row rfl 27 (.tmp 5) rfl _ rfl _ _ (0, 0) _ F5 Try.underlying27 rfl (size_bits _) ?_)
              | (refine wpList_load_row rfl 27 (.tmp 6) rfl _ rfl _ _ (0, 0) _ F6 Try.underlying27 rfl (size_bits _) ?_))
            refine (HSUM.out _).mono ?_
            rintro e v2 ⟨rfl, k2⟩
            replace FA := FA.below k2 FA.lt
            replace FB := FB.below k2 FB.lt
            replace F5 := F5.below k2 F5.lt
            replace F6 := F6.below k2 F6.lt
            replace F10 := F10.below k2 F10.lt
            replace GB := GB.trans (k2.mono GB.size)
            clear k2
            go_wp2_with fail
            refine (HNS.out _).mono ?_
            rintro e v3 ⟨rfl, k3⟩
            replace FA := FA.below k3 FA.lt
            replace FB := FB.below k3 FB.lt
            replace F5 := F5.below k3 F5.lt
            replace F6 := F6.below k3 F6.lt
            replace F10 := F10.below k3 F10.lt
            replace GB := GB.trans (k3.mono GB.size)
            clear k3
            go_upto_region 14 with fail
            have LG12_ := GB.size
            have F12 := Blk.new v3 24 #[.int .u64 (nh : Int), .int .u64 (nl : Int)]
            have lF12FA := FA.lt
            replace FA := FA.alloc (.cells #[.int .u64 (nh : Int), .int .u64 (nl : Int)] 24)
            have lF12FB := FB.lt
            replace FB := FB.alloc (.cells #[.int .u64 (nh : Int), .int .u64 (nl : Int)] 24)
            have lF12F5 := F5.lt
            replace F5 := F5.alloc (.cells #[.int .u64 (nh : Int), .int .u64 (nl : Int)] 24)
            have lF12F6 := F6.lt
            replace F6 := F6.alloc (.cells #[.int .u64 (nh : Int), .int .u64 (nl : Int)] 24)
            have lF12F10 := F10.lt
            replace F10 := F10.alloc (.cells #[.int .u64 (nh : Int), .int .u64 (nl : Int)] 24)
            replace GB := GB.alloc GB.size (.cells #[.int .u64 (nh : Int), .int .u64 (nl : Int)] 24)
            have LF12 := GB.size
            have Lg12 : w.heap.size ≤ v3.heap.size := LG12_
            generalize v3.alloc (.cells #[.int .u64 (nh : Int), .int .u64 (nl : Int)] 24) = V3 at F12 FA FB F5 F6 F10 GB LF12 ⊢
            generalize v3.heap.size = g12 at Lg12 LG12_ F12 lF12FA lF12FB lF12F5 lF12F6 lF12F10 ⊢
            go_cut [98] (fun s98 wx => s98 = .bool false ∧ V3 = wx)
            case first =>
              obtain ⟨p0, p1⟩ := F10.two
              obtain ⟨p2, p3⟩ := F12.two
              rcases HCASE.out.1 with ⟨rfl, rfl, rfl, rfl⟩ | ⟨rfl, rfl, rfl, rfl⟩
              · go_wp2
                go_meet
                exact ⟨rfl, rfl⟩
              · go_wp2
                go_meet
                exact ⟨rfl, rfl⟩
            case rest =>
              obtain ⟨rfl, rfl⟩ := hcut
              obtain ⟨p0, p1⟩ := FA.two
              obtain ⟨p2, p3⟩ := FB.two
              by_cases hl : NA < NB
              · obtain rfl : r = -1 := by
                  rcases HCASE.out.2 with ⟨h1, h2⟩ | ⟨h1, h2, h3⟩ | ⟨h1, h2, h3⟩
                  · exact h2
                  · exact absurd hl h1
                  · exact absurd hl h1
                have HSU := Lib.hid (fun u => HSUB1.out hl u)
                clear hl HCASE
                go_wp2_with fail
                refine (HSU.out _).mono ?_
                rintro e v4 ⟨rfl, k4⟩
                clear p0 p1 p2 p3
                replace FA := FA.below k4 FA.lt
                replace GB := GB.trans (k4.mono GB.size)
                clear k4
                go_upto_region 17 with fail
                have F14 := Blk.new v4 24 #[.int .u64 0, .int .u64 0]
                have lF14FA := FA.lt
                replace FA := FA.alloc (.cells #[.int .u64 0, .int .u64 0] 24)
                replace GB := GB.alloc GB.size (.cells #[.int .u64 0, .int .u64 0] 24)
                have LF14 := GB.size
                generalize v4.alloc (.cells #[.int .u64 0, .int .u64 0] 24) = V4 at F14 FA GB LF14 ⊢
                generalize v4.heap.size = g14 at F14 lF14FA ⊢
                obtain ⟨q0, q1⟩ := F14.two
                go_wp2
                go_ret
                exact ⟨rfl, GB⟩
              · have hrb : decide (r < 0) = false ∧ ¬ r < 0 := by
                  rcases HCASE.out.2 with ⟨h1, h2⟩ | ⟨h1, h2, h3⟩ | ⟨h1, h2, h3⟩
                  · exact absurd h1 hl
                  · subst h3; simp
                  · subst h3; simp
                obtain ⟨hrb, hrn⟩ := hrb
                have HSU := Lib.hid (fun u => HSUB2.out hl u)
                have HTA := Lib.hid (fun u => HTK.out hl u)
                clear hl HCASE
                go_wp2_with fail
                refine (HSU.out _).mono ?_
                rintro e v4 ⟨rfl, k4⟩
                clear p0 p1 p2 p3
                replace F5 := F5.below k4 F5.lt
                replace F6 := F6.below k4 F6.lt
                replace F12 := F12.below k4 F12.lt
                replace GB := GB.trans (k4.mono GB.size)
                clear k4
                go_upto_region 17 with fail
                have F14 := Blk.new v4 24 #[.int .u64 (dh : Int), .int .u64 (dl : Int)]
                have lF14F5 := F5.lt
                replace F5 := F5.alloc (.cells #[.int .u64 (dh : Int), .int .u64 (dl : Int)] 24)
                have lF14F6 := F6.lt
                replace F6 := F6.alloc (.cells #[.int .u64 (dh : Int), .int .u64 (dl : Int)] 24)
                have lF14F12 := F12.lt
                replace F12 := F12.alloc (.cells #[.int .u64 (dh : Int), .int .u64 (dl : Int)] 24)
                replace GB := GB.alloc GB.size (.cells #[.int .u64 (dh : Int), .int .u64 (dl : Int)] 24)
                have LF14 := GB.size
                generalize v4.alloc (.cells #[.int .u64 (dh : Int), .int .u64 (dl : Int)] 24) = V4 at F14 F5 F6 F12 GB LF14 ⊢
                generalize v4.heap.size = g14 at F14 lF14F5 lF14F6 lF14F12 ⊢
                go_wp2_with (first
                  | (refine wpList_load_row rfl 27 (.tmp 5) rfl _ rfl _ _ (0, 0) _ F5 Try.underlying27 rfl (size_bits _) ?_)
                  | (refine wpList_load_row rfl 27 (.tmp 6) rfl _ rfl _ _ (0, 0) _ F6 Try.underlying27 rfl (size_bits _) ?_))
                refine (HTA.out _).mono ?_
                rintro e v5 ⟨rfl, k5⟩
                replace F5 := F5.below k5 F5.lt
                replace F6 := F6.below k5 F6.lt
                replace F12 := F12.below k5 F12.lt
                replace F14 := F14.below k5 F14.lt
                replace GB := GB.trans (k5.mono GB.size)
                clear k5
                go_wp2_with fail
                refine (HNT.out _).mono ?_
                rintro e v6 ⟨rfl, k6⟩
                replace F5 := F5.below k6 F5.lt
                replace F6 := F6.below k6 F6.lt
                replace F12 := F12.below k6 F12.lt
                replace F14 := F14.below k6 F14.lt
                replace GB := GB.trans (k6.mono GB.size)
                clear k6
                have x0 : v6.cell? ⟨g12, 0, none⟩ = some (.int .u64 (nh : Int)) := F12.cell 0
                have x1 : v6.cell? ⟨g12, 1, none⟩ = some (.int .u64 (nl : Int)) := F12.cell 1
                have f0 := F12.frozen 0
                have f1 := F12.frozen 1
                have hlt := F12.lt
                replace F12 := F12.set2 (x := .int .u64 (dh : Int)) (y := .int .u64 (dl : Int))
                replace F14 := (F14.far (p := ⟨g12, 0, none⟩) (by show g14 ≠ g12; omega) (.int .u64 (dh : Int))).far (p := ⟨g12, 1, none⟩) (by show g14 ≠ g12; omega) (.int .u64 (dl : Int))
                replace GB := below_pair (x := .int .u64 (dh : Int)) (y := .int .u64 (dl : Int)) GB (show w.heap.size ≤ g12 by omega)
                go_upto_region 20 with fail
                clear x0 x1 f0 f1 F5 F6
                generalize (v6.setCell ⟨g12, 0, none⟩ (.int .u64 (dh : Int))).setCell ⟨g12, 1, none⟩ (.int .u64 (dl : Int)) = V6 at F12 F14 GB ⊢
                obtain ⟨q0, q1⟩ := F14.two
                obtain ⟨q2, q3⟩ := F12.two
                go_wp2
                go_ret
                exact ⟨rfl, GB⟩

end Go.Proofs.Yteglkhljenjplaa
