/-
  The contract of the document's Over of fractions. No statement is proved here.
-/
import Derived.Test.YtodhkdaipmeblaaFd
namespace Go.Proofs.Ytodhkdaipmeblaa
open Go.RowKit

/-- the least number over another weight that is not less -/
def overN (n m x : Nat) : Nat := n * m / x + (if n * m % x = 0 then 0 else 1)

set_option maxHeartbeats 8000000 in
set_option maxRecDepth 100000 in
theorem rover_any (ah al ax m : Nat) (w : World) (hah : ah < 2 ^ 64) (hal : al < 2 ^ 64) (hx0 : 0 < ax) (hax : ax < 2 ^ 64) (hm : m < 2 ^ 64) :
    Calls Try.prog 25 #[.agg (fr ah al ax), .int .u64 (m : Int)] w (Said (wv (num5 (overN (ah * 2 ^ 64 + al) m ax)).1 (num5 (overN (ah * 2 ^ 64 + al) m ax)).2.1 (num5 (overN (ah * 2 ^ 64 + al) m ax)).2.2) w) := by
  have hz := zero_bits
  have HOA := Lib.hid (fun u => of_c ah al u hah hal)
  obtain ⟨NA, hNA⟩ : ∃ NA, ah * 2 ^ 64 + al = NA := ⟨_, rfl⟩
  have hm1 : NA * m < 2 ^ 192 + 1 := Nat.lt_succ_of_le (Nat.le_trans (Nat.mul_le_mul (show NA ≤ 2 ^ 128 by omega) (Nat.le_of_lt hm)) (by decide))
  rw [hNA] at HOA ⊢
  have HPA := Lib.hid (fun u => product_c NA m u hm)
  obtain ⟨M, hM⟩ : ∃ M, NA * m = M := ⟨_, rfl⟩
  have HBX := Lib.hid (fun u => rbits_any ax u hax)
  rw [hM] at HPA hm1
  have HQ := Lib.hid (fun u => quotient_c M ax u (by omega) hx0 (by omega))
  have hq : M / ax < 2 ^ 192 + 1 := Nat.lt_of_le_of_lt (Nat.div_le_self _ _) hm1
  have hr : M % ax < ax := Nat.mod_lt _ hx0
  obtain ⟨S, hS⟩ : ∃ S, overN NA m ax = S := ⟨_, rfl⟩
  have hSe : S = M / ax + (if M % ax = 0 then 0 else 1) := by rw [← hS, overN, hM]
  obtain ⟨Q, hQ⟩ : ∃ Q, M / ax = Q := ⟨_, rfl⟩
  obtain ⟨R, hR⟩ : ∃ R, M % ax = R := ⟨_, rfl⟩
  rw [hQ, hR] at HQ hSe
  rw [hQ] at hq
  rw [hR] at hr
  rw [hS]
  have hSb : S < 2 ^ 256 := by rw [hSe]; split <;> omega
  have HN := Lib.hid (fun u => rnum_any S u hSb)
  have HB1 : Hid (∀ u, Calls Try.prog 45 #[.int .u64 1] u (Row (cellsOf (1 : Nat).testBit) u)) := Lib.hid (fun u => rbits_any 1 u (by omega))
  have HS := Lib.hid (fun u => sum_c Q 1 u)
  generalize num5 S = T at *
  obtain ⟨rh, rl, rb⟩ := T
  have HN : Hid (∀ u, Calls Try.prog 43 #[.agg (cellsOf S.testBit)] u (Said (wv rh rl rb) u)) := HN
  show Calls Try.prog 25 #[.agg (fr ah al ax), .int .u64 (m : Int)] w (Said (wv rh rl rb) w)
  have HR := Lib.hid (And.intro hr (And.intro hax hSe))
  obtain ⟨b1, b2, bb⟩ := blks2 w 26 24 (fr ah al ax) #[.int .u64 0, .int .u64 0]
  have HB := Lib.hid (And.intro b1 (And.intro b2 bb))
  clear hah hal hx0 hax hm hNA hm1 hM hq hr hS hSe hQ hR hSb b1 b2 bb
  unfold wv at *
  unfold fr at *
  go_enter Try.func25, Try.ntmps25
  go_upto_region 1 with fail
  have FA := HB.out.1
  have FO := HB.out.2.1
  have GB := HB.out.2.2
  clear HB
  generalize (w.alloc (.cells #[.int .u64 (ah : Int), .int .u64 (al : Int), .int .u64 (ax : Int)] 26)).alloc (.cells #[.int .u64 0, .int .u64 0] 24) = V0 at FA FO GB ⊢
  replace FA : Blk V0.drew _ _ _ := FA
  replace FO : Blk V0.drew _ _ _ := FO
  replace GB := GB.drew
  go_cut [6, 7] (fun s6 s7 wx => ∃ g6 g7 : Nat, s6 = .pointer (some ⟨g6, 0, none⟩) ∧ s7 = .pointer (some ⟨g7, 0, none⟩) ∧ w.heap.size + 1 < g6 ∧ w.heap.size + 1 < g7 ∧ Blk wx g6 38 (cellsOf Q.testBit) ∧ Blk wx g7 38 (cellsOf R.testBit) ∧ Blk wx (w.heap.size + 1) 24 #[.int .u64 0, .int .u64 0] ∧ Below w.heap.size w wx)
  case first =>
    refine wp_region_held_drew (S := fun W => Blk W w.heap.size 26 #[.int .u64 (ah : Int), .int .u64 (al : Int), .int .u64 (ax : Int)]) (by kernel_rfl) FA (fun hS => ?_)
    generalize V0.drew = V at FA FO GB hS ⊢
    refine wpAnyH_take (i := 0) (v := .pointer (some ⟨w.heap.size, 0, none⟩)) rfl (by kernel_rfl) (by kernel_rfl) (by kernel_rfl) (fun _ _ _ h => h) (Or.inl ⟨by rfl, fun u hSw => (by go_simp)⟩) hS ?_
    refine wpAnyH_take (i := 1) (v := .agg #[.int .u64 (ah : Int), .int .u64 (al : Int)]) rfl (by kernel_rfl) (by kernel_rfl) (by kernel_rfl) (fun _ _ _ h => h) (Or.inl ⟨by rfl, fun u hSw => (by have c0 : u.cell? ⟨w.heap.size, 0, none⟩ = some (.int .u64 (ah : Int)) := (hSw).cell 0; have c1 : u.cell? ⟨w.heap.size, 1, none⟩ = some (.int .u64 (al : Int)) := (hSw).cell 1; go_simp)⟩) hS ?_
    refine wpAnyH_take (i := 3) (v := .int .u64 (m : Int)) rfl (by kernel_rfl) (by kernel_rfl) (by kernel_rfl) (fun _ _ _ h => h) (Or.inl ⟨by rfl, fun u hSw => (by go_simp)⟩) hS ?_
    refine wpAnyH_take (i := 5) (v := .pointer (some ⟨w.heap.size, 2, none⟩)) rfl (by kernel_rfl) (by kernel_rfl) (by kernel_rfl) (fun _ _ _ h => h) (Or.inl ⟨by rfl, fun u hSw => (by go_simp)⟩) hS ?_
    refine wpAnyH_take (i := 6) (v := .int .u64 (ax : Int)) rfl (by kernel_rfl) (by kernel_rfl) (by kernel_rfl) (fun _ _ _ h => h) (Or.inl ⟨by rfl, fun u hSw => (by have c : u.cell? ⟨w.heap.size, 2, none⟩ = some (.int .u64 (ax : Int)) := (hSw).cell 2; go_simp)⟩) hS ?_
    refine wpAnyH_ready (rs := [2, 12, 13]) (by kernel_rfl) (by simp) ?_
    refine AllReadyH.cons rfl (fun K hK => ?_) (AllReadyH.cons rfl (fun K hK => ?_) (AllReadyH.cons rfl (fun K hK => ?_) (AllReadyH.nil)))
    · skip
      go_simp
      refine (HOA.out _).mono ?_
      rintro e w1 ⟨rfl, h1⟩
      replace FA := FA.below h1 FA.lt
      replace FO := FO.below h1 FO.lt
      replace GB := GB.trans (h1.mono GB.size)
      clear h1
      refine hK.out _ _ FA (fun hS => ?_)
      clear hK K
      refine wpAnyH_ready (rs := [4, 12, 13]) (by kernel_rfl) (by simp) ?_
      refine AllReadyH.cons rfl (fun K hK => ?_) (AllReadyH.cons rfl (fun K hK => ?_) (AllReadyH.cons rfl (fun K hK => ?_) (AllReadyH.nil)))
      · skip
        go_simp
        refine (HPA.out _).mono ?_
        rintro e w2 ⟨rfl, h2⟩
        replace FA := FA.below h2 FA.lt
        replace FO := FO.below h2 FO.lt
        replace GB := GB.trans (h2.mono GB.size)
        clear h2
        refine hK.out _ _ FA (fun hS => ?_)
        clear hK K
        refine wpAnyH_ready (rs := [7, 12, 13]) (by kernel_rfl) (by simp) ?_
        refine AllReadyH.cons rfl (fun K hK => ?_) (AllReadyH.cons rfl (fun K hK => ?_) (AllReadyH.cons rfl (fun K hK => ?_) (AllReadyH.nil)))
        · skip
          go_simp
          refine (HBX.out _).mono ?_
          rintro e w3 ⟨rfl, h3⟩
          replace FA := FA.below h3 FA.lt
          replace FO := FO.below h3 FO.lt
          replace GB := GB.trans (h3.mono GB.size)
          clear h3
          refine hK.out _ _ FA (fun hS => ?_)
          clear hK K
          refine wpAnyH_ready (rs := [8, 12, 13]) (by kernel_rfl) (by simp) ?_
          refine AllReadyH.cons rfl (fun K hK => ?_) (AllReadyH.cons rfl (fun K hK => ?_) (AllReadyH.cons rfl (fun K hK => ?_) (AllReadyH.nil)))
          · skip
            go_simp
            refine (HQ.out _).mono ?_
            rintro e w4 ⟨rfl, h4⟩
            replace FA := FA.below h4 FA.lt
            replace FO := FO.below h4 FO.lt
            replace GB := GB.trans (h4.mono GB.size)
            clear h4
            refine hK.out _ _ FA (fun hS => ?_)
            clear hK K
            refine wpAnyH_take (i := 9) (v := .tuple #[.agg (cellsOf Q.testBit), .agg (cellsOf R.testBit)]) rfl (by kernel_rfl) (by kernel_rfl) (by kernel_rfl) (fun _ _ _ h => h) (Or.inl ⟨by rfl, fun u hSw => (by go_simp)⟩) hS ?_
            refine wpAnyH_take (i := 10) (v := .agg (cellsOf Q.testBit)) rfl (by kernel_rfl) (by kernel_rfl) (by kernel_rfl) (fun _ _ _ h => h) (Or.inl ⟨by rfl, fun u hSw => (by go_simp)⟩) hS ?_
            refine wpAnyH_take (i := 11) (v := .agg (cellsOf R.testBit)) rfl (by kernel_rfl) (by kernel_rfl) (by kernel_rfl) (fun _ _ _ h => h) (Or.inl ⟨by rfl, fun u hSw => (by go_simp)⟩) hS ?_
            refine wpAnyH_ready (rs := [12, 13]) (by kernel_rfl) (by simp) ?_
            refine AllReadyH.cons rfl (fun K hK => ?_) (AllReadyH.cons rfl (fun K hK => ?_) (AllReadyH.nil))
            · skip
              go_simp
              have F6 := Blk.new w4 38 (cellsOf none_)
              have l6A : w.heap.size < w4.heap.size := FA.lt
              replace FA := FA.alloc (.cells (cellsOf none_) 38)
              have l6O : w.heap.size + 1 < w4.heap.size := FO.lt
              replace FO := FO.alloc (.cells (cellsOf none_) 38)
              have L6 := GB.size
              replace GB := GB.alloc GB.size (.cells (cellsOf none_) 38)
              refine hK.out _ _ FA (fun hS => ?_)
              clear hK K
              generalize w4.alloc (.cells (cellsOf none_) 38) = U5 at F6 FA FO GB hS ⊢
              generalize w4.heap.size = g6 at F6 l6A l6O L6 ⊢
              refine wpAnyH_ready (rs := [13]) (by kernel_rfl) (by simp) ?_
              refine AllReadyH.cons rfl (fun K hK => ?_) (AllReadyH.nil)
              go_simp
              have F7 := Blk.new U5 38 (cellsOf none_)
              have l7A : w.heap.size < U5.heap.size := FA.lt
              replace FA := FA.alloc (.cells (cellsOf none_) 38)
              have l7O : w.heap.size + 1 < U5.heap.size := FO.lt
              replace FO := FO.alloc (.cells (cellsOf none_) 38)
              have l76 : g6 < U5.heap.size := F6.lt
              replace F6 := F6.alloc (.cells (cellsOf none_) 38)
              have L7 := GB.size
              replace GB := GB.alloc GB.size (.cells (cellsOf none_) 38)
              refine hK.out _ _ FA (fun hS => ?_)
              clear hK K
              generalize U5.alloc (.cells (cellsOf none_) 38) = U6 at F7 FA FO F6 GB hS ⊢
              generalize U5.heap.size = g7 at F7 l7A l7O l76 L7 ⊢
              refine wpAnyH_ready (rs := [14]) (by kernel_rfl) (by simp) ?_
              refine AllReadyH.cons rfl (fun K hK => ?_) (AllReadyH.nil)
              have O7 := F6
              replace FA := FA.other (g' := g6) (cs' := cellsOf Q.testBit) (by omega)
              replace FO := FO.other (g' := g6) (cs' := cellsOf Q.testBit) (by omega)
              replace F7 := F7.other (g' := g6) (cs' := cellsOf Q.testBit) (by omega)
              replace F6 := F6.row (cs' := cellsOf Q.testBit)
              replace GB := below_row (g' := g6) (cs' := cellsOf Q.testBit) GB (by omega)
              refine keep_row rfl 38 (.tmp 6) (.tmp 18) rfl _ _ rfl rfl _ _ O7 (size_bits _) (by rw [cellsOf_size, cellsOf_size]) (cellsOf_one _) (hK.out _ _ FA (fun hS => ?_))
              clear hK K O7
              generalize U6.setRow (g6) (cellsOf Q.testBit) = U7 at FA FO F6 F7 GB hS ⊢
              refine wpAnyH_ready (rs := [15]) (by kernel_rfl) (by simp) ?_
              refine AllReadyH.cons rfl (fun K hK => ?_) (AllReadyH.nil)
              have O8 := F7
              replace FA := FA.other (g' := g7) (cs' := cellsOf R.testBit) (by omega)
              replace FO := FO.other (g' := g7) (cs' := cellsOf R.testBit) (by omega)
              replace F6 := F6.other (g' := g7) (cs' := cellsOf R.testBit) (by omega)
              replace F7 := F7.row (cs' := cellsOf R.testBit)
              replace GB := below_row (g' := g7) (cs' := cellsOf R.testBit) GB (by omega)
              refine keep_row rfl 38 (.tmp 7) (.tmp 19) rfl _ _ rfl rfl _ _ O8 (size_bits _) (by rw [cellsOf_size, cellsOf_size]) (cellsOf_one _) (hK.out _ _ FA (fun hS => ?_))
              clear hK K O8
              generalize U7.setRow (g7) (cellsOf R.testBit) = U8 at FA FO F6 F7 GB hS ⊢
              refine wpAnyH_done (by kernel_rfl) ?_ _
              go_wp2_with fail
              go_meet
              exact ⟨g6, g7, rfl, rfl, by omega, by omega, F6, F7, FO, GB⟩
            · skip
              go_simp
              have F7 := Blk.new w4 38 (cellsOf none_)
              have l7A : w.heap.size < w4.heap.size := FA.lt
              replace FA := FA.alloc (.cells (cellsOf none_) 38)
              have l7O : w.heap.size + 1 < w4.heap.size := FO.lt
              replace FO := FO.alloc (.cells (cellsOf none_) 38)
              have L7 := GB.size
              replace GB := GB.alloc GB.size (.cells (cellsOf none_) 38)
              refine hK.out _ _ FA (fun hS => ?_)
              clear hK K
              generalize w4.alloc (.cells (cellsOf none_) 38) = U9 at F7 FA FO GB hS ⊢
              generalize w4.heap.size = g7 at F7 l7A l7O L7 ⊢
              refine wpAnyH_ready (rs := [12]) (by kernel_rfl) (by simp) ?_
              refine AllReadyH.cons rfl (fun K hK => ?_) (AllReadyH.nil)
              go_simp
              have F6 := Blk.new U9 38 (cellsOf none_)
              have l6A : w.heap.size < U9.heap.size := FA.lt
              replace FA := FA.alloc (.cells (cellsOf none_) 38)
              have l6O : w.heap.size + 1 < U9.heap.size := FO.lt
              replace FO := FO.alloc (.cells (cellsOf none_) 38)
              have l67 : g7 < U9.heap.size := F7.lt
              replace F7 := F7.alloc (.cells (cellsOf none_) 38)
              have L6 := GB.size
              replace GB := GB.alloc GB.size (.cells (cellsOf none_) 38)
              refine hK.out _ _ FA (fun hS => ?_)
              clear hK K
              generalize U9.alloc (.cells (cellsOf none_) 38) = U10 at F6 FA FO F7 GB hS ⊢
              generalize U9.heap.size = g6 at F6 l6A l6O l67 L6 ⊢
              refine wpAnyH_ready (rs := [14]) (by kernel_rfl) (by simp) ?_
              refine AllReadyH.cons rfl (fun K hK => ?_) (AllReadyH.nil)
              have O11 := F6
              replace FA := FA.other (g' := g6) (cs' := cellsOf Q.testBit) (by omega)
              replace FO := FO.other (g' := g6) (cs' := cellsOf Q.testBit) (by omega)
              replace F7 := F7.other (g' := g6) (cs' := cellsOf Q.testBit) (by omega)
              replace F6 := F6.row (cs' := cellsOf Q.testBit)
              replace GB := below_row (g' := g6) (cs' := cellsOf Q.testBit) GB (by omega)
              refine keep_row rfl 38 (.tmp 6) (.tmp 18) rfl _ _ rfl rfl _ _ O11 (size_bits _) (by rw [cellsOf_size, cellsOf_size]) (cellsOf_one _) (hK.out _ _ FA (fun hS => ?_))
              clear hK K O11
              generalize U10.setRow (g6) (cellsOf Q.testBit) = U11 at FA FO F7 F6 GB hS ⊢
              refine wpAnyH_ready (rs := [15]) (by kernel_rfl) (by simp) ?_
              refine AllReadyH.cons rfl (fun K hK => ?_) (AllReadyH.nil)
              have O12 := F7
              replace FA := FA.other (g' := g7) (cs' := cellsOf R.testBit) (by omega)
              replace FO := FO.other (g' := g7) (cs' := cellsOf R.testBit) (by omega)
              replace F6 := F6.other (g' := g7) (cs' := cellsOf R.testBit) (by omega)
              replace F7 := F7.row (cs' := cellsOf R.testBit)
              replace GB := below_row (g' := g7) (cs' := cellsOf R.testBit) GB (by omega)
              refine keep_row rfl 38 (.tmp 7) (.tmp 19) rfl _ _ rfl rfl _ _ O12 (size_bits _) (by rw [cellsOf_size, cellsOf_size]) (cellsOf_one _) (hK.out _ _ FA (fun hS => ?_))
              clear hK K O12
              generalize U11.setRow (g7) (cellsOf R.testBit) = U12 at FA FO F7 F6 GB hS ⊢
              refine wpAnyH_done (by kernel_rfl) ?_ _
              go_wp2_with fail
              go_meet
              exact ⟨g6, g7, rfl, rfl, by omega, by omega, F6, F7, FO, GB⟩
          · skip
            go_simp
            have F6 := Blk.new w3 38 (cellsOf none_)
            have l6A : w.heap.size < w3.heap.size := FA.lt
            replace FA := FA.alloc (.cells (cellsOf none_) 38)
            have l6O : w.heap.size + 1 < w3.heap.size := FO.lt
            replace FO := FO.alloc (.cells (cellsOf none_) 38)
            have L6 := GB.size
            replace GB := GB.alloc GB.size (.cells (cellsOf none_) 38)
            refine hK.out _ _ FA (fun hS => ?_)
            clear hK K
            generalize w3.alloc (.cells (cellsOf none_) 38) = U13 at F6 FA FO GB hS ⊢
            generalize w3.heap.size = g6 at F6 l6A l6O L6 ⊢
            refine wpAnyH_ready (rs := [8, 13]) (by kernel_rfl) (by simp) ?_
            refine AllReadyH.cons rfl (fun K hK => ?_) (AllReadyH.cons rfl (fun K hK => ?_) (AllReadyH.nil))
            · skip
              go_simp
              refine (HQ.out _).mono ?_
              rintro e w14 ⟨rfl, h14⟩
              replace FA := FA.below h14 FA.lt
              replace FO := FO.below h14 FO.lt
              replace F6 := F6.below h14 F6.lt
              replace GB := GB.trans (h14.mono GB.size)
              clear h14
              refine hK.out _ _ FA (fun hS => ?_)
              clear hK K
              refine wpAnyH_take (i := 9) (v := .tuple #[.agg (cellsOf Q.testBit), .agg (cellsOf R.testBit)]) rfl (by kernel_rfl) (by kernel_rfl) (by kernel_rfl) (fun _ _ _ h => h) (Or.inl ⟨by rfl, fun u hSw => (by go_simp)⟩) hS ?_
              refine wpAnyH_take (i := 10) (v := .agg (cellsOf Q.testBit)) rfl (by kernel_rfl) (by kernel_rfl) (by kernel_rfl) (fun _ _ _ h => h) (Or.inl ⟨by rfl, fun u hSw => (by go_simp)⟩) hS ?_
              refine wpAnyH_take (i := 11) (v := .agg (cellsOf R.testBit)) rfl (by kernel_rfl) (by kernel_rfl) (by kernel_rfl) (fun _ _ _ h => h) (Or.inl ⟨by rfl, fun u hSw => (by go_simp)⟩) hS ?_
              refine wpAnyH_ready (rs := [13]) (by kernel_rfl) (by simp) ?_
              refine AllReadyH.cons rfl (fun K hK => ?_) (AllReadyH.nil)
              go_simp
              have F7 := Blk.new w14 38 (cellsOf none_)
              have l7A : w.heap.size < w14.heap.size := FA.lt
              replace FA := FA.alloc (.cells (cellsOf none_) 38)
              have l7O : w.heap.size + 1 < w14.heap.size := FO.lt
              replace FO := FO.alloc (.cells (cellsOf none_) 38)
              have l76 : g6 < w14.heap.size := F6.lt
              replace F6 := F6.alloc (.cells (cellsOf none_) 38)
              have L7 := GB.size
              replace GB := GB.alloc GB.size (.cells (cellsOf none_) 38)
              refine hK.out _ _ FA (fun hS => ?_)
              clear hK K
              generalize w14.alloc (.cells (cellsOf none_) 38) = U15 at F7 FA FO F6 GB hS ⊢
              generalize w14.heap.size = g7 at F7 l7A l7O l76 L7 ⊢
              refine wpAnyH_ready (rs := [14]) (by kernel_rfl) (by simp) ?_
              refine AllReadyH.cons rfl (fun K hK => ?_) (AllReadyH.nil)
              have O16 := F6
              replace FA := FA.other (g' := g6) (cs' := cellsOf Q.testBit) (by omega)
              replace FO := FO.other (g' := g6) (cs' := cellsOf Q.testBit) (by omega)
              replace F7 := F7.other (g' := g6) (cs' := cellsOf Q.testBit) (by omega)
              replace F6 := F6.row (cs' := cellsOf Q.testBit)
              replace GB := below_row (g' := g6) (cs' := cellsOf Q.testBit) GB (by omega)
              refine keep_row rfl 38 (.tmp 6) (.tmp 18) rfl _ _ rfl rfl _ _ O16 (size_bits _) (by rw [cellsOf_size, cellsOf_size]) (cellsOf_one _) (hK.out _ _ FA (fun hS => ?_))
              clear hK K O16
              generalize U15.setRow (g6) (cellsOf Q.testBit) = U16 at FA FO F6 F7 GB hS ⊢
              refine wpAnyH_ready (rs := [15]) (by kernel_rfl) (by simp) ?_
              refine AllReadyH.cons rfl (fun K hK => ?_) (AllReadyH.nil)
              have O17 := F7
              replace FA := FA.other (g' := g7) (cs' := cellsOf R.testBit) (by omega)
              replace FO := FO.other (g' := g7) (cs' := cellsOf R.testBit) (by omega)
              replace F6 := F6.other (g' := g7) (cs' := cellsOf R.testBit) (by omega)
              replace F7 := F7.row (cs' := cellsOf R.testBit)
              replace GB := below_row (g' := g7) (cs' := cellsOf R.testBit) GB (by omega)
              refine keep_row rfl 38 (.tmp 7) (.tmp 19) rfl _ _ rfl rfl _ _ O17 (size_bits _) (by rw [cellsOf_size, cellsOf_size]) (cellsOf_one _) (hK.out _ _ FA (fun hS => ?_))
              clear hK K O17
              generalize U16.setRow (g7) (cellsOf R.testBit) = U17 at FA FO F6 F7 GB hS ⊢
              refine wpAnyH_done (by kernel_rfl) ?_ _
              go_wp2_with fail
              go_meet
              exact ⟨g6, g7, rfl, rfl, by omega, by omega, F6, F7, FO, GB⟩
            · skip
              go_simp
              have F7 := Blk.new U13 38 (cellsOf none_)
              have l7A : w.heap.size < U13.heap.size := FA.lt
              replace FA := FA.alloc (.cells (cellsOf none_) 38)
              have l7O : w.heap.size + 1 < U13.heap.size := FO.lt
              replace FO := FO.alloc (.cells (cellsOf none_) 38)
              have l76 : g6 < U13.heap.size := F6.lt
              replace F6 := F6.alloc (.cells (cellsOf none_) 38)
              have L7 := GB.size
              replace GB := GB.alloc GB.size (.cells (cellsOf none_) 38)
              refine hK.out _ _ FA (fun hS => ?_)
              clear hK K
              generalize U13.alloc (.cells (cellsOf none_) 38) = U18 at F7 FA FO F6 GB hS ⊢
              generalize U13.heap.size = g7 at F7 l7A l7O l76 L7 ⊢
              refine wpAnyH_ready (rs := [8]) (by kernel_rfl) (by simp) ?_
              refine AllReadyH.cons rfl (fun K hK => ?_) (AllReadyH.nil)
              go_simp
              refine (HQ.out _).mono ?_
              rintro e w19 ⟨rfl, h19⟩
              replace FA := FA.below h19 FA.lt
              replace FO := FO.below h19 FO.lt
              replace F6 := F6.below h19 F6.lt
              replace F7 := F7.below h19 F7.lt
              replace GB := GB.trans (h19.mono GB.size)
              clear h19
              refine hK.out _ _ FA (fun hS => ?_)
              clear hK K
              refine wpAnyH_take (i := 9) (v := .tuple #[.agg (cellsOf Q.testBit), .agg (cellsOf R.testBit)]) rfl (by kernel_rfl) (by kernel_rfl) (by kernel_rfl) (fun _ _ _ h => h) (Or.inl ⟨by rfl, fun u hSw => (by go_simp)⟩) hS ?_
              refine wpAnyH_take (i := 10) (v := .agg (cellsOf Q.testBit)) rfl (by kernel_rfl) (by kernel_rfl) (by kernel_rfl) (fun _ _ _ h => h) (Or.inl ⟨by rfl, fun u hSw => (by go_simp)⟩) hS ?_
              refine wpAnyH_take (i := 11) (v := .agg (cellsOf R.testBit)) rfl (by kernel_rfl) (by kernel_rfl) (by kernel_rfl) (fun _ _ _ h => h) (Or.inl ⟨by rfl, fun u hSw => (by go_simp)⟩) hS ?_
              refine wpAnyH_ready (rs := [14]) (by kernel_rfl) (by simp) ?_
              refine AllReadyH.cons rfl (fun K hK => ?_) (AllReadyH.nil)
              have O20 := F6
              replace FA := FA.other (g' := g6) (cs' := cellsOf Q.testBit) (by omega)
              replace FO := FO.other (g' := g6) (cs' := cellsOf Q.testBit) (by omega)
              replace F7 := F7.other (g' := g6) (cs' := cellsOf Q.testBit) (by omega)
              replace F6 := F6.row (cs' := cellsOf Q.testBit)
              replace GB := below_row (g' := g6) (cs' := cellsOf Q.testBit) GB (by omega)
              refine keep_row rfl 38 (.tmp 6) (.tmp 18) rfl _ _ rfl rfl _ _ O20 (size_bits _) (by rw [cellsOf_size, cellsOf_size]) (cellsOf_one _) (hK.out _ _ FA (fun hS => ?_))
              clear hK K O20
              generalize w19.setRow (g6) (cellsOf Q.testBit) = U20 at FA FO F6 F7 GB hS ⊢
              refine wpAnyH_ready (rs := [15]) (by kernel_rfl) (by simp) ?_
              refine AllReadyH.cons rfl (fun K hK => ?_) (AllReadyH.nil)
              have O21 := F7
              replace FA := FA.other (g' := g7) (cs' := cellsOf R.testBit) (by omega)
              replace FO := FO.other (g' := g7) (cs' := cellsOf R.testBit) (by omega)
              replace F6 := F6.other (g' := g7) (cs' := cellsOf R.testBit) (by omega)
              replace F7 := F7.row (cs' := cellsOf R.testBit)
              replace GB := below_row (g' := g7) (cs' := cellsOf R.testBit) GB (by omega)
              refine keep_row rfl 38 (.tmp 7) (.tmp 19) rfl _ _ rfl rfl _ _ O21 (size_bits _) (by rw [cellsOf_size, cellsOf_size]) (cellsOf_one _) (hK.out _ _ FA (fun hS => ?_))
              clear hK K O21
              generalize U20.setRow (g7) (cellsOf R.testBit) = U21 at FA FO F6 F7 GB hS ⊢
              refine wpAnyH_done (by kernel_rfl) ?_ _
              go_wp2_with fail
              go_meet
              exact ⟨g6, g7, rfl, rfl, by omega, by omega, F6, F7, FO, GB⟩
          · skip
            go_simp
            have F7 := Blk.new w3 38 (cellsOf none_)
            have l7A : w.heap.size < w3.heap.size := FA.lt
            replace FA := FA.alloc (.cells (cellsOf none_) 38)
            have l7O : w.heap.size + 1 < w3.heap.size := FO.lt
            replace FO := FO.alloc (.cells (cellsOf none_) 38)
            have L7 := GB.size
            replace GB := GB.alloc GB.size (.cells (cellsOf none_) 38)
            refine hK.out _ _ FA (fun hS => ?_)
            clear hK K
            generalize w3.alloc (.cells (cellsOf none_) 38) = U22 at F7 FA FO GB hS ⊢
            generalize w3.heap.size = g7 at F7 l7A l7O L7 ⊢
            refine wpAnyH_ready (rs := [8, 12]) (by kernel_rfl) (by simp) ?_
            refine AllReadyH.cons rfl (fun K hK => ?_) (AllReadyH.cons rfl (fun K hK => ?_) (AllReadyH.nil))
            · skip
              go_simp
              refine (HQ.out _).mono ?_
              rintro e w23 ⟨rfl, h23⟩
              replace FA := FA.below h23 FA.lt
              replace FO := FO.below h23 FO.lt
              replace F7 := F7.below h23 F7.lt
              replace GB := GB.trans (h23.mono GB.size)
              clear h23
              refine hK.out _ _ FA (fun hS => ?_)
              clear hK K
              refine wpAnyH_take (i := 9) (v := .tuple #[.agg (cellsOf Q.testBit), .agg (cellsOf R.testBit)]) rfl (by kernel_rfl) (by kernel_rfl) (by kernel_rfl) (fun _ _ _ h => h) (Or.inl ⟨by rfl, fun u hSw => (by go_simp)⟩) hS ?_
              refine wpAnyH_take (i := 10) (v := .agg (cellsOf Q.testBit)) rfl (by kernel_rfl) (by kernel_rfl) (by kernel_rfl) (fun _ _ _ h => h) (Or.inl ⟨by rfl, fun u hSw => (by go_simp)⟩) hS ?_
              refine wpAnyH_take (i := 11) (v := .agg (cellsOf R.testBit)) rfl (by kernel_rfl) (by kernel_rfl) (by kernel_rfl) (fun _ _ _ h => h) (Or.inl ⟨by rfl, fun u hSw => (by go_simp)⟩) hS ?_
              refine wpAnyH_ready (rs := [12]) (by kernel_rfl) (by simp) ?_
              refine AllReadyH.cons rfl (fun K hK => ?_) (AllReadyH.nil)
              go_simp
              have F6 := Blk.new w23 38 (cellsOf none_)
              have l6A : w.heap.size < w23.heap.size := FA.lt
              replace FA := FA.alloc (.cells (cellsOf none_) 38)
              have l6O : w.heap.size + 1 < w23.heap.size := FO.lt
              replace FO := FO.alloc (.cells (cellsOf none_) 38)
              have l67 : g7 < w23.heap.size := F7.lt
              replace F7 := F7.alloc (.cells (cellsOf none_) 38)
              have L6 := GB.size
              replace GB := GB.alloc GB.size (.cells (cellsOf none_) 38)
              refine hK.out _ _ FA (fun hS => ?_)
              clear hK K
              generalize w23.alloc (.cells (cellsOf none_) 38) = U24 at F6 FA FO F7 GB hS ⊢
              generalize w23.heap.size = g6 at F6 l6A l6O l67 L6 ⊢
              refine wpAnyH_ready (rs := [14]) (by kernel_rfl) (by simp) ?_
              refine AllReadyH.cons rfl (fun K hK => ?_) (AllReadyH.nil)
              have O25 := F6
              replace FA := FA.other (g' := g6) (cs' := cellsOf Q.testBit) (by omega)
              replace FO := FO.other (g' := g6) (cs' := cellsOf Q.testBit) (by omega)
              replace F7 := F7.other (g' := g6) (cs' := cellsOf Q.testBit) (by omega)
              replace F6 := F6.row (cs' := cellsOf Q.testBit)
              replace GB := below_row (g' := g6) (cs' := cellsOf Q.testBit) GB (by omega)
              refine keep_row rfl 38 (.tmp 6) (.tmp 18) rfl _ _ rfl rfl _ _ O25 (size_bits _) (by rw [cellsOf_size, cellsOf_size]) (cellsOf_one _) (hK.out _ _ FA (fun hS => ?_))
              clear hK K O25
              generalize U24.setRow (g6) (cellsOf Q.testBit) = U25 at FA FO F7 F6 GB hS ⊢
              refine wpAnyH_ready (rs := [15]) (by kernel_rfl) (by simp) ?_
              refine AllReadyH.cons rfl (fun K hK => ?_) (AllReadyH.nil)
              have O26 := F7
              replace FA := FA.other (g' := g7) (cs' := cellsOf R.testBit) (by omega)
              replace FO := FO.other (g' := g7) (cs' := cellsOf R.testBit) (by omega)
              replace F6 := F6.other (g' := g7) (cs' := cellsOf R.testBit) (by omega)
              replace F7 := F7.row (cs' := cellsOf R.testBit)
              replace GB := below_row (g' := g7) (cs' := cellsOf R.testBit) GB (by omega)
              refine keep_row rfl 38 (.tmp 7) (.tmp 19) rfl _ _ rfl rfl _ _ O26 (size_bits _) (by rw [cellsOf_size, cellsOf_size]) (cellsOf_one _) (hK.out _ _ FA (fun hS => ?_))
              clear hK K O26
              generalize U25.setRow (g7) (cellsOf R.testBit) = U26 at FA FO F7 F6 GB hS ⊢
              refine wpAnyH_done (by kernel_rfl) ?_ _
              go_wp2_with fail
              go_meet
              exact ⟨g6, g7, rfl, rfl, by omega, by omega, F6, F7, FO, GB⟩
            · skip
              go_simp
              have F6 := Blk.new U22 38 (cellsOf none_)
              have l6A : w.heap.size < U22.heap.size := FA.lt
              replace FA := FA.alloc (.cells (cellsOf none_) 38)
              have l6O : w.heap.size + 1 < U22.heap.size := FO.lt
              replace FO := FO.alloc (.cells (cellsOf none_) 38)
              have l67 : g7 < U22.heap.size := F7.lt
              replace F7 := F7.alloc (.cells (cellsOf none_) 38)
              have L6 := GB.size
              replace GB := GB.alloc GB.size (.cells (cellsOf none_) 38)
              refine hK.out _ _ FA (fun hS => ?_)
              clear hK K
              generalize U22.alloc (.cells (cellsOf none_) 38) = U27 at F6 FA FO F7 GB hS ⊢
              generalize U22.heap.size = g6 at F6 l6A l6O l67 L6 ⊢
              refine wpAnyH_ready (rs := [8]) (by kernel_rfl) (by simp) ?_
              refine AllReadyH.cons rfl (fun K hK => ?_) (AllReadyH.nil)
              go_simp
              refine (HQ.out _).mono ?_
              rintro e w28 ⟨rfl, h28⟩
              replace FA := FA.below h28 FA.lt
              replace FO := FO.below h28 FO.lt
              replace F7 := F7.below h28 F7.lt
              replace F6 := F6.below h28 F6.lt
              replace GB := GB.trans (h28.mono GB.size)
              clear h28
              refine hK.out _ _ FA (fun hS => ?_)
              clear hK K
              refine wpAnyH_take (i := 9) (v := .tuple #[.agg (cellsOf Q.testBit), .agg (cellsOf R.testBit)]) rfl (by kernel_rfl) (by kernel_rfl) (by kernel_rfl) (fun _ _ _ h => h) (Or.inl ⟨by rfl, fun u hSw => (by go_simp)⟩) hS ?_
              refine wpAnyH_take (i := 10) (v := .agg (cellsOf Q.testBit)) rfl (by kernel_rfl) (by kernel_rfl) (by kernel_rfl) (fun _ _ _ h => h) (Or.inl ⟨by rfl, fun u hSw => (by go_simp)⟩) hS ?_
              refine wpAnyH_take (i := 11) (v := .agg (cellsOf R.testBit)) rfl (by kernel_rfl) (by kernel_rfl) (by kernel_rfl) (fun _ _ _ h => h) (Or.inl ⟨by rfl, fun u hSw => (by go_simp)⟩) hS ?_
              refine wpAnyH_ready (rs := [14]) (by kernel_rfl) (by simp) ?_
              refine AllReadyH.cons rfl (fun K hK => ?_) (AllReadyH.nil)
              have O29 := F6
              replace FA := FA.other (g' := g6) (cs' := cellsOf Q.testBit) (by omega)
              replace FO := FO.other (g' := g6) (cs' := cellsOf Q.testBit) (by omega)
              replace F7 := F7.other (g' := g6) (cs' := cellsOf Q.testBit) (by omega)
              replace F6 := F6.row (cs' := cellsOf Q.testBit)
              replace GB := below_row (g' := g6) (cs' := cellsOf Q.testBit) GB (by omega)
              refine keep_row rfl 38 (.tmp 6) (.tmp 18) rfl _ _ rfl rfl _ _ O29 (size_bits _) (by rw [cellsOf_size, cellsOf_size]) (cellsOf_one _) (hK.out _ _ FA (fun hS => ?_))
              clear hK K O29
              generalize w28.setRow (g6) (cellsOf Q.testBit) = U29 at FA FO F7 F6 GB hS ⊢
              refine wpAnyH_ready (rs := [15]) (by kernel_rfl) (by simp) ?_
              refine AllReadyH.cons rfl (fun K hK => ?_) (AllReadyH.nil)
              have O30 := F7
              replace FA := FA.other (g' := g7) (cs' := cellsOf R.testBit) (by omega)
              replace FO := FO.other (g' := g7) (cs' := cellsOf R.testBit) (by omega)
              replace F6 := F6.other (g' := g7) (cs' := cellsOf R.testBit) (by omega)
              replace F7 := F7.row (cs' := cellsOf R.testBit)
              replace GB := below_row (g' := g7) (cs' := cellsOf R.testBit) GB (by omega)
              refine keep_row rfl 38 (.tmp 7) (.tmp 19) rfl _ _ rfl rfl _ _ O30 (size_bits _) (by rw [cellsOf_size, cellsOf_size]) (cellsOf_one _) (hK.out _ _ FA (fun hS => ?_))
              clear hK K O30
              generalize U29.setRow (g7) (cellsOf R.testBit) = U30 at FA FO F7 F6 GB hS ⊢
              refine wpAnyH_done (by kernel_rfl) ?_ _
              go_wp2_with fail
              go_meet
              exact ⟨g6, g7, rfl, rfl, by omega, by omega, F6, F7, FO, GB⟩
        · skip
          go_simp
          have F6 := Blk.new w2 38 (cellsOf none_)
          have l6A : w.heap.size < w2.heap.size := FA.lt
          replace FA := FA.alloc (.cells (cellsOf none_) 38)
          have l6O : w.heap.size + 1 < w2.heap.size := FO.lt
          replace FO := FO.alloc (.cells (cellsOf none_) 38)
          have L6 := GB.size
          replace GB := GB.alloc GB.size (.cells (cellsOf none_) 38)
          refine hK.out _ _ FA (fun hS => ?_)
          clear hK K
          generalize w2.alloc (.cells (cellsOf none_) 38) = U31 at F6 FA FO GB hS ⊢
          generalize w2.heap.size = g6 at F6 l6A l6O L6 ⊢
          refine wpAnyH_ready (rs := [7, 13]) (by kernel_rfl) (by simp) ?_
          refine AllReadyH.cons rfl (fun K hK => ?_) (AllReadyH.cons rfl (fun K hK => ?_) (AllReadyH.nil))
          · skip
            go_simp
            refine (HBX.out _).mono ?_
            rintro e w32 ⟨rfl, h32⟩
            replace FA := FA.below h32 FA.lt
            replace FO := FO.below h32 FO.lt
            replace F6 := F6.below h32 F6.lt
            replace GB := GB.trans (h32.mono GB.size)
            clear h32
            refine hK.out _ _ FA (fun hS => ?_)
            clear hK K
            refine wpAnyH_ready (rs := [8, 13]) (by kernel_rfl) (by simp) ?_
            refine AllReadyH.cons rfl (fun K hK => ?_) (AllReadyH.cons rfl (fun K hK => ?_) (AllReadyH.nil))
            · skip
              go_simp
              refine (HQ.out _).mono ?_
              rintro e w33 ⟨rfl, h33⟩
              replace FA := FA.below h33 FA.lt
              replace FO := FO.below h33 FO.lt
              replace F6 := F6.below h33 F6.lt
              replace GB := GB.trans (h33.mono GB.size)
              clear h33
              refine hK.out _ _ FA (fun hS => ?_)
              clear hK K
              refine wpAnyH_take (i := 9) (v := .tuple #[.agg (cellsOf Q.testBit), .agg (cellsOf R.testBit)]) rfl (by kernel_rfl) (by kernel_rfl) (by kernel_rfl) (fun _ _ _ h => h) (Or.inl ⟨by rfl, fun u hSw => (by go_simp)⟩) hS ?_
              refine wpAnyH_take (i := 10) (v := .agg (cellsOf Q.testBit)) rfl (by kernel_rfl) (by kernel_rfl) (by kernel_rfl) (fun _ _ _ h => h) (Or.inl ⟨by rfl, fun u hSw => (by go_simp)⟩) hS ?_
              refine wpAnyH_take (i := 11) (v := .agg (cellsOf R.testBit)) rfl (by kernel_rfl) (by kernel_rfl) (by kernel_rfl) (fun _ _ _ h => h) (Or.inl ⟨by rfl, fun u hSw => (by go_simp)⟩) hS ?_
              refine wpAnyH_ready (rs := [13]) (by kernel_rfl) (by simp) ?_
              refine AllReadyH.cons rfl (fun K hK => ?_) (AllReadyH.nil)
              go_simp
              have F7 := Blk.new w33 38 (cellsOf none_)
              have l7A : w.heap.size < w33.heap.size := FA.lt
              replace FA := FA.alloc (.cells (cellsOf none_) 38)
              have l7O : w.heap.size + 1 < w33.heap.size := FO.lt
              replace FO := FO.alloc (.cells (cellsOf none_) 38)
              have l76 : g6 < w33.heap.size := F6.lt
              replace F6 := F6.alloc (.cells (cellsOf none_) 38)
              have L7 := GB.size
              replace GB := GB.alloc GB.size (.cells (cellsOf none_) 38)
              refine hK.out _ _ FA (fun hS => ?_)
              clear hK K
              generalize w33.alloc (.cells (cellsOf none_) 38) = U34 at F7 FA FO F6 GB hS ⊢
              generalize w33.heap.size = g7 at F7 l7A l7O l76 L7 ⊢
              refine wpAnyH_ready (rs := [14]) (by kernel_rfl) (by simp) ?_
              refine AllReadyH.cons rfl (fun K hK => ?_) (AllReadyH.nil)
              have O35 := F6
              replace FA := FA.other (g' := g6) (cs' := cellsOf Q.testBit) (by omega)
              replace FO := FO.other (g' := g6) (cs' := cellsOf Q.testBit) (by omega)
              replace F7 := F7.other (g' := g6) (cs' := cellsOf Q.testBit) (by omega)
              replace F6 := F6.row (cs' := cellsOf Q.testBit)
              replace GB := below_row (g' := g6) (cs' := cellsOf Q.testBit) GB (by omega)
              refine keep_row rfl 38 (.tmp 6) (.tmp 18) rfl _ _ rfl rfl _ _ O35 (size_bits _) (by rw [cellsOf_size, cellsOf_size]) (cellsOf_one _) (hK.out _ _ FA (fun hS => ?_))
              clear hK K O35
              generalize U34.setRow (g6) (cellsOf Q.testBit) = U35 at FA FO F6 F7 GB hS ⊢
              refine wpAnyH_ready (rs := [15]) (by kernel_rfl) (by simp) ?_
              refine AllReadyH.cons rfl (fun K hK => ?_) (AllReadyH.nil)
              have O36 := F7
              replace FA := FA.other (g' := g7) (cs' := cellsOf R.testBit) (by omega)
              replace FO := FO.other (g' := g7) (cs' := cellsOf R.testBit) (by omega)
              replace F6 := F6.other (g' := g7) (cs' := cellsOf R.testBit) (by omega)
              replace F7 := F7.row (cs' := cellsOf R.testBit)
              replace GB := below_row (g' := g7) (cs' := cellsOf R.testBit) GB (by omega)
              refine keep_row rfl 38 (.tmp 7) (.tmp 19) rfl _ _ rfl rfl _ _ O36 (size_bits _) (by rw [cellsOf_size, cellsOf_size]) (cellsOf_one _) (hK.out _ _ FA (fun hS => ?_))
              clear hK K O36
              generalize U35.setRow (g7) (cellsOf R.testBit) = U36 at FA FO F6 F7 GB hS ⊢
              refine wpAnyH_done (by kernel_rfl) ?_ _
              go_wp2_with fail
              go_meet
              exact ⟨g6, g7, rfl, rfl, by omega, by omega, F6, F7, FO, GB⟩
            · skip
              go_simp
              have F7 := Blk.new w32 38 (cellsOf none_)
              have l7A : w.heap.size < w32.heap.size := FA.lt
              replace FA := FA.alloc (.cells (cellsOf none_) 38)
              have l7O : w.heap.size + 1 < w32.heap.size := FO.lt
              replace FO := FO.alloc (.cells (cellsOf none_) 38)
              have l76 : g6 < w32.heap.size := F6.lt
              replace F6 := F6.alloc (.cells (cellsOf none_) 38)
              have L7 := GB.size
              replace GB := GB.alloc GB.size (.cells (cellsOf none_) 38)
              refine hK.out _ _ FA (fun hS => ?_)
              clear hK K
              generalize w32.alloc (.cells (cellsOf none_) 38) = U37 at F7 FA FO F6 GB hS ⊢
              generalize w32.heap.size = g7 at F7 l7A l7O l76 L7 ⊢
              refine wpAnyH_ready (rs := [8]) (by kernel_rfl) (by simp) ?_
              refine AllReadyH.cons rfl (fun K hK => ?_) (AllReadyH.nil)
              go_simp
              refine (HQ.out _).mono ?_
              rintro e w38 ⟨rfl, h38⟩
              replace FA := FA.below h38 FA.lt
              replace FO := FO.below h38 FO.lt
              replace F6 := F6.below h38 F6.lt
              replace F7 := F7.below h38 F7.lt
              replace GB := GB.trans (h38.mono GB.size)
              clear h38
              refine hK.out _ _ FA (fun hS => ?_)
              clear hK K
              refine wpAnyH_take (i := 9) (v := .tuple #[.agg (cellsOf Q.testBit), .agg (cellsOf R.testBit)]) rfl (by kernel_rfl) (by kernel_rfl) (by kernel_rfl) (fun _ _ _ h => h) (Or.inl ⟨by rfl, fun u hSw => (by go_simp)⟩) hS ?_
              refine wpAnyH_take (i := 10) (v := .agg (cellsOf Q.testBit)) rfl (by kernel_rfl) (by kernel_rfl) (by kernel_rfl) (fun _ _ _ h => h) (Or.inl ⟨by rfl, fun u hSw => (by go_simp)⟩) hS ?_
              refine wpAnyH_take (i := 11) (v := .agg (cellsOf R.testBit)) rfl (by kernel_rfl) (by kernel_rfl) (by kernel_rfl) (fun _ _ _ h => h) (Or.inl ⟨by rfl, fun u hSw => (by go_simp)⟩) hS ?_
              refine wpAnyH_ready (rs := [14]) (by kernel_rfl) (by simp) ?_
              refine AllReadyH.cons rfl (fun K hK => ?_) (AllReadyH.nil)
              have O39 := F6
              replace FA := FA.other (g' := g6) (cs' := cellsOf Q.testBit) (by omega)
              replace FO := FO.other (g' := g6) (cs' := cellsOf Q.testBit) (by omega)
              replace F7 := F7.other (g' := g6) (cs' := cellsOf Q.testBit) (by omega)
              replace F6 := F6.row (cs' := cellsOf Q.testBit)
              replace GB := below_row (g' := g6) (cs' := cellsOf Q.testBit) GB (by omega)
              refine keep_row rfl 38 (.tmp 6) (.tmp 18) rfl _ _ rfl rfl _ _ O39 (size_bits _) (by rw [cellsOf_size, cellsOf_size]) (cellsOf_one _) (hK.out _ _ FA (fun hS => ?_))
              clear hK K O39
              generalize w38.setRow (g6) (cellsOf Q.testBit) = U39 at FA FO F6 F7 GB hS ⊢
              refine wpAnyH_ready (rs := [15]) (by kernel_rfl) (by simp) ?_
              refine AllReadyH.cons rfl (fun K hK => ?_) (AllReadyH.nil)
              have O40 := F7
              replace FA := FA.other (g' := g7) (cs' := cellsOf R.testBit) (by omega)
              replace FO := FO.other (g' := g7) (cs' := cellsOf R.testBit) (by omega)
              replace F6 := F6.other (g' := g7) (cs' := cellsOf R.testBit) (by omega)
              replace F7 := F7.row (cs' := cellsOf R.testBit)
              replace GB := below_row (g' := g7) (cs' := cellsOf R.testBit) GB (by omega)
              refine keep_row rfl 38 (.tmp 7) (.tmp 19) rfl _ _ rfl rfl _ _ O40 (size_bits _) (by rw [cellsOf_size, cellsOf_size]) (cellsOf_one _) (hK.out _ _ FA (fun hS => ?_))
              clear hK K O40
              generalize U39.setRow (g7) (cellsOf R.testBit) = U40 at FA FO F6 F7 GB hS ⊢
              refine wpAnyH_done (by kernel_rfl) ?_ _
              go_wp2_with fail
              go_meet
              exact ⟨g6, g7, rfl, rfl, by omega, by omega, F6, F7, FO, GB⟩
          · skip
            go_simp
            have F7 := Blk.new U31 38 (cellsOf none_)
            have l7A : w.heap.size < U31.heap.size := FA.lt
            replace FA := FA.alloc (.cells (cellsOf none_) 38)
            have l7O : w.heap.size + 1 < U31.heap.size := FO.lt
            replace FO := FO.alloc (.cells (cellsOf none_) 38)
            have l76 : g6 < U31.heap.size := F6.lt
            replace F6 := F6.alloc (.cells (cellsOf none_) 38)
            have L7 := GB.size
            replace GB := GB.alloc GB.size (.cells (cellsOf none_) 38)
            refine hK.out _ _ FA (fun hS => ?_)
            clear hK K
            generalize U31.alloc (.cells (cellsOf none_) 38) = U41 at F7 FA FO F6 GB hS ⊢
            generalize U31.heap.size = g7 at F7 l7A l7O l76 L7 ⊢
            refine wpAnyH_ready (rs := [7]) (by kernel_rfl) (by simp) ?_
            refine AllReadyH.cons rfl (fun K hK => ?_) (AllReadyH.nil)
            go_simp
            refine (HBX.out _).mono ?_
            rintro e w42 ⟨rfl, h42⟩
            replace FA := FA.below h42 FA.lt
            replace FO := FO.below h42 FO.lt
            replace F6 := F6.below h42 F6.lt
            replace F7 := F7.below h42 F7.lt
            replace GB := GB.trans (h42.mono GB.size)
            clear h42
            refine hK.out _ _ FA (fun hS => ?_)
            clear hK K
            refine wpAnyH_ready (rs := [8]) (by kernel_rfl) (by simp) ?_
            refine AllReadyH.cons rfl (fun K hK => ?_) (AllReadyH.nil)
            go_simp
            refine (HQ.out _).mono ?_
            rintro e w43 ⟨rfl, h43⟩
            replace FA := FA.below h43 FA.lt
            replace FO := FO.below h43 FO.lt
            replace F6 := F6.below h43 F6.lt
            replace F7 := F7.below h43 F7.lt
            replace GB := GB.trans (h43.mono GB.size)
            clear h43
            refine hK.out _ _ FA (fun hS => ?_)
            clear hK K
            refine wpAnyH_take (i := 9) (v := .tuple #[.agg (cellsOf Q.testBit), .agg (cellsOf R.testBit)]) rfl (by kernel_rfl) (by kernel_rfl) (by kernel_rfl) (fun _ _ _ h => h) (Or.inl ⟨by rfl, fun u hSw => (by go_simp)⟩) hS ?_
            refine wpAnyH_take (i := 10) (v := .agg (cellsOf Q.testBit)) rfl (by kernel_rfl) (by kernel_rfl) (by kernel_rfl) (fun _ _ _ h => h) (Or.inl ⟨by rfl, fun u hSw => (by go_simp)⟩) hS ?_
            refine wpAnyH_take (i := 11) (v := .agg (cellsOf R.testBit)) rfl (by kernel_rfl) (by kernel_rfl) (by kernel_rfl) (fun _ _ _ h => h) (Or.inl ⟨by rfl, fun u hSw => (by go_simp)⟩) hS ?_
            refine wpAnyH_ready (rs := [14]) (by kernel_rfl) (by simp) ?_
            refine AllReadyH.cons rfl (fun K hK => ?_) (AllReadyH.nil)
            have O44 := F6
            replace FA := FA.other (g' := g6) (cs' := cellsOf Q.testBit) (by omega)
            replace FO := FO.other (g' := g6) (cs' := cellsOf Q.testBit) (by omega)
            replace F7 := F7.other (g' := g6) (cs' := cellsOf Q.testBit) (by omega)
            replace F6 := F6.row (cs' := cellsOf Q.testBit)
            replace GB := below_row (g' := g6) (cs' := cellsOf Q.testBit) GB (by omega)
            refine keep_row rfl 38 (.tmp 6) (.tmp 18) rfl _ _ rfl rfl _ _ O44 (size_bits _) (by rw [cellsOf_size, cellsOf_size]) (cellsOf_one _) (hK.out _ _ FA (fun hS => ?_))
            clear hK K O44
            generalize w43.setRow (g6) (cellsOf Q.testBit) = U44 at FA FO F6 F7 GB hS ⊢
            refine wpAnyH_ready (rs := [15]) (by kernel_rfl) (by simp) ?_
            refine AllReadyH.cons rfl (fun K hK => ?_) (AllReadyH.nil)
            have O45 := F7
            replace FA := FA.other (g' := g7) (cs' := cellsOf R.testBit) (by omega)
            replace FO := FO.other (g' := g7) (cs' := cellsOf R.testBit) (by omega)
            replace F6 := F6.other (g' := g7) (cs' := cellsOf R.testBit) (by omega)
            replace F7 := F7.row (cs' := cellsOf R.testBit)
            replace GB := below_row (g' := g7) (cs' := cellsOf R.testBit) GB (by omega)
            refine keep_row rfl 38 (.tmp 7) (.tmp 19) rfl _ _ rfl rfl _ _ O45 (size_bits _) (by rw [cellsOf_size, cellsOf_size]) (cellsOf_one _) (hK.out _ _ FA (fun hS => ?_))
            clear hK K O45
            generalize U44.setRow (g7) (cellsOf R.testBit) = U45 at FA FO F6 F7 GB hS ⊢
            refine wpAnyH_done (by kernel_rfl) ?_ _
            go_wp2_with fail
            go_meet
            exact ⟨g6, g7, rfl, rfl, by omega, by omega, F6, F7, FO, GB⟩
        · skip
          go_simp
          have F7 := Blk.new w2 38 (cellsOf none_)
          have l7A : w.heap.size < w2.heap.size := FA.lt
          replace FA := FA.alloc (.cells (cellsOf none_) 38)
          have l7O : w.heap.size + 1 < w2.heap.size := FO.lt
          replace FO := FO.alloc (.cells (cellsOf none_) 38)
          have L7 := GB.size
          replace GB := GB.alloc GB.size (.cells (cellsOf none_) 38)
          refine hK.out _ _ FA (fun hS => ?_)
          clear hK K
          generalize w2.alloc (.cells (cellsOf none_) 38) = U46 at F7 FA FO GB hS ⊢
          generalize w2.heap.size = g7 at F7 l7A l7O L7 ⊢
          refine wpAnyH_ready (rs := [7, 12]) (by kernel_rfl) (by simp) ?_
          refine AllReadyH.cons rfl (fun K hK => ?_) (AllReadyH.cons rfl (fun K hK => ?_) (AllReadyH.nil))
          · skip
            go_simp
            refine (HBX.out _).mono ?_
            rintro e w47 ⟨rfl, h47⟩
            replace FA := FA.below h47 FA.lt
            replace FO := FO.below h47 FO.lt
            replace F7 := F7.below h47 F7.lt
            replace GB := GB.trans (h47.mono GB.size)
            clear h47
            refine hK.out _ _ FA (fun hS => ?_)
            clear hK K
            refine wpAnyH_ready (rs := [8, 12]) (by kernel_rfl) (by simp) ?_
            refine AllReadyH.cons rfl (fun K hK => ?_) (AllReadyH.cons rfl (fun K hK => ?_) (AllReadyH.nil))
            · skip
              go_simp
              refine (HQ.out _).mono ?_
              rintro e w48 ⟨rfl, h48⟩
              replace FA := FA.below h48 FA.lt
              replace FO := FO.below h48 FO.lt
              replace F7 := F7.below h48 F7.lt
              replace GB := GB.trans (h48.mono GB.size)
              clear h48
              refine hK.out _ _ FA (fun hS => ?_)
              clear hK K
              refine wpAnyH_take (i := 9) (v := .tuple #[.agg (cellsOf Q.testBit), .agg (cellsOf R.testBit)]) rfl (by kernel_rfl) (by kernel_rfl) (by kernel_rfl) (fun _ _ _ h => h) (Or.inl ⟨by rfl, fun u hSw => (by go_simp)⟩) hS ?_
              refine wpAnyH_take (i := 10) (v := .agg (cellsOf Q.testBit)) rfl (by kernel_rfl) (by kernel_rfl) (by kernel_rfl) (fun _ _ _ h => h) (Or.inl ⟨by rfl, fun u hSw => (by go_simp)⟩) hS ?_
              refine wpAnyH_take (i := 11) (v := .agg (cellsOf R.testBit)) rfl (by kernel_rfl) (by kernel_rfl) (by kernel_rfl) (fun _ _ _ h => h) (Or.inl ⟨by rfl, fun u hSw => (by go_simp)⟩) hS ?_
              refine wpAnyH_ready (rs := [12]) (by kernel_rfl) (by simp) ?_
              refine AllReadyH.cons rfl (fun K hK => ?_) (AllReadyH.nil)
              go_simp
              have F6 := Blk.new w48 38 (cellsOf none_)
              have l6A : w.heap.size < w48.heap.size := FA.lt
              replace FA := FA.alloc (.cells (cellsOf none_) 38)
              have l6O : w.heap.size + 1 < w48.heap.size := FO.lt
              replace FO := FO.alloc (.cells (cellsOf none_) 38)
              have l67 : g7 < w48.heap.size := F7.lt
              replace F7 := F7.alloc (.cells (cellsOf none_) 38)
              have L6 := GB.size
              replace GB := GB.alloc GB.size (.cells (cellsOf none_) 38)
              refine hK.out _ _ FA (fun hS => ?_)
              clear hK K
              generalize w48.alloc (.cells (cellsOf none_) 38) = U49 at F6 FA FO F7 GB hS ⊢
              generalize w48.heap.size = g6 at F6 l6A l6O l67 L6 ⊢
              refine wpAnyH_ready (rs := [14]) (by kernel_rfl) (by simp) ?_
              refine AllReadyH.cons rfl (fun K hK => ?_) (AllReadyH.nil)
              have O50 := F6
              replace FA := FA.other (g' := g6) (cs' := cellsOf Q.testBit) (by omega)
              replace FO := FO.other (g' := g6) (cs' := cellsOf Q.testBit) (by omega)
              replace F7 := F7.other (g' := g6) (cs' := cellsOf Q.testBit) (by omega)
              replace F6 := F6.row (cs' := cellsOf Q.testBit)
              replace GB := below_row (g' := g6) (cs' := cellsOf Q.testBit) GB (by omega)
              refine keep_row rfl 38 (.tmp 6) (.tmp 18) rfl _ _ rfl rfl _ _ O50 (size_bits _) (by rw [cellsOf_size, cellsOf_size]) (cellsOf_one _) (hK.out _ _ FA (fun hS => ?_))
              clear hK K O50
              generalize U49.setRow (g6) (cellsOf Q.testBit) = U50 at FA FO F7 F6 GB hS ⊢
              refine wpAnyH_ready (rs := [15]) (by kernel_rfl) (by simp) ?_
              refine AllReadyH.cons rfl (fun K hK => ?_) (AllReadyH.nil)
              have O51 := F7
              replace FA := FA.other (g' := g7) (cs' := cellsOf R.testBit) (by omega)
              replace FO := FO.other (g' := g7) (cs' := cellsOf R.testBit) (by omega)
              replace F6 := F6.other (g' := g7) (cs' := cellsOf R.testBit) (by omega)
              replace F7 := F7.row (cs' := cellsOf R.testBit)
              replace GB := below_row (g' := g7) (cs' := cellsOf R.testBit) GB (by omega)
              refine keep_row rfl 38 (.tmp 7) (.tmp 19) rfl _ _ rfl rfl _ _ O51 (size_bits _) (by rw [cellsOf_size, cellsOf_size]) (cellsOf_one _) (hK.out _ _ FA (fun hS => ?_))
              clear hK K O51
              generalize U50.setRow (g7) (cellsOf R.testBit) = U51 at FA FO F7 F6 GB hS ⊢
              refine wpAnyH_done (by kernel_rfl) ?_ _
              go_wp2_with fail
              go_meet
              exact ⟨g6, g7, rfl, rfl, by omega, by omega, F6, F7, FO, GB⟩
            · skip
              go_simp
              have F6 := Blk.new w47 38 (cellsOf none_)
              have l6A : w.heap.size < w47.heap.size := FA.lt
              replace FA := FA.alloc (.cells (cellsOf none_) 38)
              have l6O : w.heap.size + 1 < w47.heap.size := FO.lt
              replace FO := FO.alloc (.cells (cellsOf none_) 38)
              have l67 : g7 < w47.heap.size := F7.lt
              replace F7 := F7.alloc (.cells (cellsOf none_) 38)
              have L6 := GB.size
              replace GB := GB.alloc GB.size (.cells (cellsOf none_) 38)
              refine hK.out _ _ FA (fun hS => ?_)
              clear hK K
              generalize w47.alloc (.cells (cellsOf none_) 38) = U52 at F6 FA FO F7 GB hS ⊢
              generalize w47.heap.size = g6 at F6 l6A l6O l67 L6 ⊢
              refine wpAnyH_ready (rs := [8]) (by kernel_rfl) (by simp) ?_
              refine AllReadyH.cons rfl (fun K hK => ?_) (AllReadyH.nil)
              go_simp
              refine (HQ.out _).mono ?_
              rintro e w53 ⟨rfl, h53⟩
              replace FA := FA.below h53 FA.lt
              replace FO := FO.below h53 FO.lt
              replace F7 := F7.below h53 F7.lt
              replace F6 := F6.below h53 F6.lt
              replace GB := GB.trans (h53.mono GB.size)
              clear h53
              refine hK.out _ _ FA (fun hS => ?_)
              clear hK K
              refine wpAnyH_take (i := 9) (v := .tuple #[.agg (cellsOf Q.testBit), .agg (cellsOf R.testBit)]) rfl (by kernel_rfl) (by kernel_rfl) (by kernel_rfl) (fun _ _ _ h => h) (Or.inl ⟨by rfl, fun u hSw => (by go_simp)⟩) hS ?_
              refine wpAnyH_take (i := 10) (v := .agg (cellsOf Q.testBit)) rfl (by kernel_rfl) (by kernel_rfl) (by kernel_rfl) (fun _ _ _ h => h) (Or.inl ⟨by rfl, fun u hSw => (by go_simp)⟩) hS ?_
              refine wpAnyH_take (i := 11) (v := .agg (cellsOf R.testBit)) rfl (by kernel_rfl) (by kernel_rfl) (by kernel_rfl) (fun _ _ _ h => h) (Or.inl ⟨by rfl, fun u hSw => (by go_simp)⟩) hS ?_
              refine wpAnyH_ready (rs := [14]) (by kernel_rfl) (by simp) ?_
              refine AllReadyH.cons rfl (fun K hK => ?_) (AllReadyH.nil)
              have O54 := F6
              replace FA := FA.other (g' := g6) (cs' := cellsOf Q.testBit) (by omega)
              replace FO := FO.other (g' := g6) (cs' := cellsOf Q.testBit) (by omega)
              replace F7 := F7.other (g' := g6) (cs' := cellsOf Q.testBit) (by omega)
              replace F6 := F6.row (cs' := cellsOf Q.testBit)
              replace GB := below_row (g' := g6) (cs' := cellsOf Q.testBit) GB (by omega)
              refine keep_row rfl 38 (.tmp 6) (.tmp 18) rfl _ _ rfl rfl _ _ O54 (size_bits _) (by rw [cellsOf_size, cellsOf_size]) (cellsOf_one _) (hK.out _ _ FA (fun hS => ?_))
              clear hK K O54
              generalize w53.setRow (g6) (cellsOf Q.testBit) = U54 at FA FO F7 F6 GB hS ⊢
              refine wpAnyH_ready (rs := [15]) (by kernel_rfl) (by simp) ?_
              refine AllReadyH.cons rfl (fun K hK => ?_) (AllReadyH.nil)
              have O55 := F7
              replace FA := FA.other (g' := g7) (cs' := cellsOf R.testBit) (by omega)
              replace FO := FO.other (g' := g7) (cs' := cellsOf R.testBit) (by omega)
              replace F6 := F6.other (g' := g7) (cs' := cellsOf R.testBit) (by omega)
              replace F7 := F7.row (cs' := cellsOf R.testBit)
              replace GB := below_row (g' := g7) (cs' := cellsOf R.testBit) GB (by omega)
              refine keep_row rfl 38 (.tmp 7) (.tmp 19) rfl _ _ rfl rfl _ _ O55 (size_bits _) (by rw [cellsOf_size, cellsOf_size]) (cellsOf_one _) (hK.out _ _ FA (fun hS => ?_))
              clear hK K O55
              generalize U54.setRow (g7) (cellsOf R.testBit) = U55 at FA FO F7 F6 GB hS ⊢
              refine wpAnyH_done (by kernel_rfl) ?_ _
              go_wp2_with fail
              go_meet
              exact ⟨g6, g7, rfl, rfl, by omega, by omega, F6, F7, FO, GB⟩
          · skip
            go_simp
            have F6 := Blk.new U46 38 (cellsOf none_)
            have l6A : w.heap.size < U46.heap.size := FA.lt
            replace FA := FA.alloc (.cells (cellsOf none_) 38)
            have l6O : w.heap.size + 1 < U46.heap.size := FO.lt
            replace FO := FO.alloc (.cells (cellsOf none_) 38)
            have l67 : g7 < U46.heap.size := F7.lt
            replace F7 := F7.alloc (.cells (cellsOf none_) 38)
            have L6 := GB.size
            replace GB := GB.alloc GB.size (.cells (cellsOf none_) 38)
            refine hK.out _ _ FA (fun hS => ?_)
            clear hK K
            generalize U46.alloc (.cells (cellsOf none_) 38) = U56 at F6 FA FO F7 GB hS ⊢
            generalize U46.heap.size = g6 at F6 l6A l6O l67 L6 ⊢
            refine wpAnyH_ready (rs := [7]) (by kernel_rfl) (by simp) ?_
            refine AllReadyH.cons rfl (fun K hK => ?_) (AllReadyH.nil)
            go_simp
            refine (HBX.out _).mono ?_
            rintro e w57 ⟨rfl, h57⟩
            replace FA := FA.below h57 FA.lt
            replace FO := FO.below h57 FO.lt
            replace F7 := F7.below h57 F7.lt
            replace F6 := F6.below h57 F6.lt
            replace GB := GB.trans (h57.mono GB.size)
            clear h57
            refine hK.out _ _ FA (fun hS => ?_)
            clear hK K
            refine wpAnyH_ready (rs := [8]) (by kernel_rfl) (by simp) ?_
            refine AllReadyH.cons rfl (fun K hK => ?_) (AllReadyH.nil)
            go_simp
            refine (HQ.out _).mono ?_
            rintro e w58 ⟨rfl, h58⟩
            replace FA := FA.below h58 FA.lt
            replace FO := FO.below h58 FO.lt
            replace F7 := F7.below h58 F7.lt
            replace F6 := F6.below h58 F6.lt
            replace GB := GB.trans (h58.mono GB.size)
            clear h58
            refine hK.out _ _ FA (fun hS => ?_)
            clear hK K
            refine wpAnyH_take (i := 9) (v := .tuple #[.agg (cellsOf Q.testBit), .agg (cellsOf R.testBit)]) rfl (by kernel_rfl) (by kernel_rfl) (by kernel_rfl) (fun _ _ _ h => h) (Or.inl ⟨by rfl, fun u hSw => (by go_simp)⟩) hS ?_
            refine wpAnyH_take (i := 10) (v := .agg (cellsOf Q.testBit)) rfl (by kernel_rfl) (by kernel_rfl) (by kernel_rfl) (fun _ _ _ h => h) (Or.inl ⟨by rfl, fun u hSw => (by go_simp)⟩) hS ?_
            refine wpAnyH_take (i := 11) (v := .agg (cellsOf R.testBit)) rfl (by kernel_rfl) (by kernel_rfl) (by kernel_rfl) (fun _ _ _ h => h) (Or.inl ⟨by rfl, fun u hSw => (by go_simp)⟩) hS ?_
            refine wpAnyH_ready (rs := [14]) (by kernel_rfl) (by simp) ?_
            refine AllReadyH.cons rfl (fun K hK => ?_) (AllReadyH.nil)
            have O59 := F6
            replace FA := FA.other (g' := g6) (cs' := cellsOf Q.testBit) (by omega)
            replace FO := FO.other (g' := g6) (cs' := cellsOf Q.testBit) (by omega)
            replace F7 := F7.other (g' := g6) (cs' := cellsOf Q.testBit) (by omega)
            replace F6 := F6.row (cs' := cellsOf Q.testBit)
            replace GB := below_row (g' := g6) (cs' := cellsOf Q.testBit) GB (by omega)
            refine keep_row rfl 38 (.tmp 6) (.tmp 18) rfl _ _ rfl rfl _ _ O59 (size_bits _) (by rw [cellsOf_size, cellsOf_size]) (cellsOf_one _) (hK.out _ _ FA (fun hS => ?_))
            clear hK K O59
            generalize w58.setRow (g6) (cellsOf Q.testBit) = U59 at FA FO F7 F6 GB hS ⊢
            refine wpAnyH_ready (rs := [15]) (by kernel_rfl) (by simp) ?_
            refine AllReadyH.cons rfl (fun K hK => ?_) (AllReadyH.nil)
            have O60 := F7
            replace FA := FA.other (g' := g7) (cs' := cellsOf R.testBit) (by omega)
            replace FO := FO.other (g' := g7) (cs' := cellsOf R.testBit) (by omega)
            replace F6 := F6.other (g' := g7) (cs' := cellsOf R.testBit) (by omega)
            replace F7 := F7.row (cs' := cellsOf R.testBit)
            replace GB := below_row (g' := g7) (cs' := cellsOf R.testBit) GB (by omega)
            refine keep_row rfl 38 (.tmp 7) (.tmp 19) rfl _ _ rfl rfl _ _ O60 (size_bits _) (by rw [cellsOf_size, cellsOf_size]) (cellsOf_one _) (hK.out _ _ FA (fun hS => ?_))
            clear hK K O60
            generalize U59.setRow (g7) (cellsOf R.testBit) = U60 at FA FO F7 F6 GB hS ⊢
            refine wpAnyH_done (by kernel_rfl) ?_ _
            go_wp2_with fail
            go_meet
            exact ⟨g6, g7, rfl, rfl, by omega, by omega, F6, F7, FO, GB⟩
      · skip
        go_simp
        have F6 := Blk.new w1 38 (cellsOf none_)
        have l6A : w.heap.size < w1.heap.size := FA.lt
        replace FA := FA.alloc (.cells (cellsOf none_) 38)
        have l6O : w.heap.size + 1 < w1.heap.size := FO.lt
        replace FO := FO.alloc (.cells (cellsOf none_) 38)
        have L6 := GB.size
        replace GB := GB.alloc GB.size (.cells (cellsOf none_) 38)
        refine hK.out _ _ FA (fun hS => ?_)
        clear hK K
        generalize w1.alloc (.cells (cellsOf none_) 38) = U61 at F6 FA FO GB hS ⊢
        generalize w1.heap.size = g6 at F6 l6A l6O L6 ⊢
        refine wpAnyH_ready (rs := [4, 13]) (by kernel_rfl) (by simp) ?_
        refine AllReadyH.cons rfl (fun K hK => ?_) (AllReadyH.cons rfl (fun K hK => ?_) (AllReadyH.nil))
        · skip
          go_simp
          refine (HPA.out _).mono ?_
          rintro e w62 ⟨rfl, h62⟩
          replace FA := FA.below h62 FA.lt
          replace FO := FO.below h62 FO.lt
          replace F6 := F6.below h62 F6.lt
          replace GB := GB.trans (h62.mono GB.size)
          clear h62
          refine hK.out _ _ FA (fun hS => ?_)
          clear hK K
          refine wpAnyH_ready (rs := [7, 13]) (by kernel_rfl) (by simp) ?_
          refine AllReadyH.cons rfl (fun K hK => ?_) (AllReadyH.cons rfl (fun K hK => ?_) (AllReadyH.nil))
          · skip
            go_simp
            refine (HBX.out _).mono ?_
            rintro e w63 ⟨rfl, h63⟩
            replace FA := FA.below h63 FA.lt
            replace FO := FO.below h63 FO.lt
            replace F6 := F6.below h63 F6.lt
            replace GB := GB.trans (h63.mono GB.size)
            clear h63
            refine hK.out _ _ FA (fun hS => ?_)
            clear hK K
            refine wpAnyH_ready (rs := [8, 13]) (by kernel_rfl) (by simp) ?_
            refine AllReadyH.cons rfl (fun K hK => ?_) (AllReadyH.cons rfl (fun K hK => ?_) (AllReadyH.nil))
            · skip
              go_simp
              refine (HQ.out _).mono ?_
              rintro e w64 ⟨rfl, h64⟩
              replace FA := FA.below h64 FA.lt
              replace FO := FO.below h64 FO.lt
              replace F6 := F6.below h64 F6.lt
              replace GB := GB.trans (h64.mono GB.size)
              clear h64
              refine hK.out _ _ FA (fun hS => ?_)
              clear hK K
              refine wpAnyH_take (i := 9) (v := .tuple #[.agg (cellsOf Q.testBit), .agg (cellsOf R.testBit)]) rfl (by kernel_rfl) (by kernel_rfl) (by kernel_rfl) (fun _ _ _ h => h) (Or.inl ⟨by rfl, fun u hSw => (by go_simp)⟩) hS ?_
              refine wpAnyH_take (i := 10) (v := .agg (cellsOf Q.testBit)) rfl (by kernel_rfl) (by kernel_rfl) (by kernel_rfl) (fun _ _ _ h => h) (Or.inl ⟨by rfl, fun u hSw => (by go_simp)⟩) hS ?_
              refine wpAnyH_take (i := 11) (v := .agg (cellsOf R.testBit)) rfl (by kernel_rfl) (by kernel_rfl) (by kernel_rfl) (fun _ _ _ h => h) (Or.inl ⟨by rfl, fun u hSw => (by go_simp)⟩) hS ?_
              refine wpAnyH_ready (rs := [13]) (by kernel_rfl) (by simp) ?_
              refine AllReadyH.cons rfl (fun K hK => ?_) (AllReadyH.nil)
              go_simp
              have F7 := Blk.new w64 38 (cellsOf none_)
              have l7A : w.heap.size < w64.heap.size := FA.lt
              replace FA := FA.alloc (.cells (cellsOf none_) 38)
              have l7O : w.heap.size + 1 < w64.heap.size := FO.lt
              replace FO := FO.alloc (.cells (cellsOf none_) 38)
              have l76 : g6 < w64.heap.size := F6.lt
              replace F6 := F6.alloc (.cells (cellsOf none_) 38)
              have L7 := GB.size
              replace GB := GB.alloc GB.size (.cells (cellsOf none_) 38)
              refine hK.out _ _ FA (fun hS => ?_)
              clear hK K
              generalize w64.alloc (.cells (cellsOf none_) 38) = U65 at F7 FA FO F6 GB hS ⊢
              generalize w64.heap.size = g7 at F7 l7A l7O l76 L7 ⊢
              refine wpAnyH_ready (rs := [14]) (by kernel_rfl) (by simp) ?_
              refine AllReadyH.cons rfl (fun K hK => ?_) (AllReadyH.nil)
              have O66 := F6
              replace FA := FA.other (g' := g6) (cs' := cellsOf Q.testBit) (by omega)
              replace FO := FO.other (g' := g6) (cs' := cellsOf Q.testBit) (by omega)
              replace F7 := F7.other (g' := g6) (cs' := cellsOf Q.testBit) (by omega)
              replace F6 := F6.row (cs' := cellsOf Q.testBit)
              replace GB := below_row (g' := g6) (cs' := cellsOf Q.testBit) GB (by omega)
              refine keep_row rfl 38 (.tmp 6) (.tmp 18) rfl _ _ rfl rfl _ _ O66 (size_bits _) (by rw [cellsOf_size, cellsOf_size]) (cellsOf_one _) (hK.out _ _ FA (fun hS => ?_))
              clear hK K O66
              generalize U65.setRow (g6) (cellsOf Q.testBit) = U66 at FA FO F6 F7 GB hS ⊢
              refine wpAnyH_ready (rs := [15]) (by kernel_rfl) (by simp) ?_
              refine AllReadyH.cons rfl (fun K hK => ?_) (AllReadyH.nil)
              have O67 := F7
              replace FA := FA.other (g' := g7) (cs' := cellsOf R.testBit) (by omega)
              replace FO := FO.other (g' := g7) (cs' := cellsOf R.testBit) (by omega)
              replace F6 := F6.other (g' := g7) (cs' := cellsOf R.testBit) (by omega)
              replace F7 := F7.row (cs' := cellsOf R.testBit)
              replace GB := below_row (g' := g7) (cs' := cellsOf R.testBit) GB (by omega)
              refine keep_row rfl 38 (.tmp 7) (.tmp 19) rfl _ _ rfl rfl _ _ O67 (size_bits _) (by rw [cellsOf_size, cellsOf_size]) (cellsOf_one _) (hK.out _ _ FA (fun hS => ?_))
              clear hK K O67
              generalize U66.setRow (g7) (cellsOf R.testBit) = U67 at FA FO F6 F7 GB hS ⊢
              refine wpAnyH_done (by kernel_rfl) ?_ _
              go_wp2_with fail
              go_meet
              exact ⟨g6, g7, rfl, rfl, by omega, by omega, F6, F7, FO, GB⟩
            · skip
              go_simp
              have F7 := Blk.new w63 38 (cellsOf none_)
              have l7A : w.heap.size < w63.heap.size := FA.lt
              replace FA := FA.alloc (.cells (cellsOf none_) 38)
              have l7O : w.heap.size + 1 < w63.heap.size := FO.lt
              replace FO := FO.alloc (.cells (cellsOf none_) 38)
              have l76 : g6 < w63.heap.size := F6.lt
              replace F6 := F6.alloc (.cells (cellsOf none_) 38)
              have L7 := GB.size
              replace GB := GB.alloc GB.size (.cells (cellsOf none_) 38)
              refine hK.out _ _ FA (fun hS => ?_)
              clear hK K
              generalize w63.alloc (.cells (cellsOf none_) 38) = U68 at F7 FA FO F6 GB hS ⊢
              generalize w63.heap.size = g7 at F7 l7A l7O l76 L7 ⊢
              refine wpAnyH_ready (rs := [8]) (by kernel_rfl) (by simp) ?_
              refine AllReadyH.cons rfl (fun K hK => ?_) (AllReadyH.nil)
              go_simp
              refine (HQ.out _).mono ?_
              rintro e w69 ⟨rfl, h69⟩
              replace FA := FA.below h69 FA.lt
              replace FO := FO.below h69 FO.lt
              replace F6 := F6.below h69 F6.lt
              replace F7 := F7.below h69 F7.lt
              replace GB := GB.trans (h69.mono GB.size)
              clear h69
              refine hK.out _ _ FA (fun hS => ?_)
              clear hK K
              refine wpAnyH_take (i := 9) (v := .tuple #[.agg (cellsOf Q.testBit), .agg (cellsOf R.testBit)]) rfl (by kernel_rfl) (by kernel_rfl) (by kernel_rfl) (fun _ _ _ h => h) (Or.inl ⟨by rfl, fun u hSw => (by go_simp)⟩) hS ?_
              refine wpAnyH_take (i := 10) (v := .agg (cellsOf Q.testBit)) rfl (by kernel_rfl) (by kernel_rfl) (by kernel_rfl) (fun _ _ _ h => h) (Or.inl ⟨by rfl, fun u hSw => (by go_simp)⟩) hS ?_
              refine wpAnyH_take (i := 11) (v := .agg (cellsOf R.testBit)) rfl (by kernel_rfl) (by kernel_rfl) (by kernel_rfl) (fun _ _ _ h => h) (Or.inl ⟨by rfl, fun u hSw => (by go_simp)⟩) hS ?_
              refine wpAnyH_ready (rs := [14]) (by kernel_rfl) (by simp) ?_
              refine AllReadyH.cons rfl (fun K hK => ?_) (AllReadyH.nil)
              have O70 := F6
              replace FA := FA.other (g' := g6) (cs' := cellsOf Q.testBit) (by omega)
              replace FO := FO.other (g' := g6) (cs' := cellsOf Q.testBit) (by omega)
              replace F7 := F7.other (g' := g6) (cs' := cellsOf Q.testBit) (by omega)
              replace F6 := F6.row (cs' := cellsOf Q.testBit)
              replace GB := below_row (g' := g6) (cs' := cellsOf Q.testBit) GB (by omega)
              refine keep_row rfl 38 (.tmp 6) (.tmp 18) rfl _ _ rfl rfl _ _ O70 (size_bits _) (by rw [cellsOf_size, cellsOf_size]) (cellsOf_one _) (hK.out _ _ FA (fun hS => ?_))
              clear hK K O70
              generalize w69.setRow (g6) (cellsOf Q.testBit) = U70 at FA FO F6 F7 GB hS ⊢
              refine wpAnyH_ready (rs := [15]) (by kernel_rfl) (by simp) ?_
              refine AllReadyH.cons rfl (fun K hK => ?_) (AllReadyH.nil)
              have O71 := F7
              replace FA := FA.other (g' := g7) (cs' := cellsOf R.testBit) (by omega)
              replace FO := FO.other (g' := g7) (cs' := cellsOf R.testBit) (by omega)
              replace F6 := F6.other (g' := g7) (cs' := cellsOf R.testBit) (by omega)
              replace F7 := F7.row (cs' := cellsOf R.testBit)
              replace GB := below_row (g' := g7) (cs' := cellsOf R.testBit) GB (by omega)
              refine keep_row rfl 38 (.tmp 7) (.tmp 19) rfl _ _ rfl rfl _ _ O71 (size_bits _) (by rw [cellsOf_size, cellsOf_size]) (cellsOf_one _) (hK.out _ _ FA (fun hS => ?_))
              clear hK K O71
              generalize U70.setRow (g7) (cellsOf R.testBit) = U71 at FA FO F6 F7 GB hS ⊢
              refine wpAnyH_done (by kernel_rfl) ?_ _
              go_wp2_with fail
              go_meet
              exact ⟨g6, g7, rfl, rfl, by omega, by omega, F6, F7, FO, GB⟩
          · skip
            go_simp
            have F7 := Blk.new w62 38 (cellsOf none_)
            have l7A : w.heap.size < w62.heap.size := FA.lt
            replace FA := FA.alloc (.cells (cellsOf none_) 38)
            have l7O : w.heap.size + 1 < w62.heap.size := FO.lt
            replace FO := FO.alloc (.cells (cellsOf none_) 38)
            have l76 : g6 < w62.heap.size := F6.lt
            replace F6 := F6.alloc (.cells (cellsOf none_) 38)
            have L7 := GB.size
            replace GB := GB.alloc GB.size (.cells (cellsOf none_) 38)
            refine hK.out _ _ FA (fun hS => ?_)
            clear hK K
            generalize w62.alloc (.cells (cellsOf none_) 38) = U72 at F7 FA FO F6 GB hS ⊢
            generalize w62.heap.size = g7 at F7 l7A l7O l76 L7 ⊢
            refine wpAnyH_ready (rs := [7]) (by kernel_rfl) (by simp) ?_
            refine AllReadyH.cons rfl (fun K hK => ?_) (AllReadyH.nil)
            go_simp
            refine (HBX.out _).mono ?_
            rintro e w73 ⟨rfl, h73⟩
            replace FA := FA.below h73 FA.lt
            replace FO := FO.below h73 FO.lt
            replace F6 := F6.below h73 F6.lt
            replace F7 := F7.below h73 F7.lt
            replace GB := GB.trans (h73.mono GB.size)
            clear h73
            refine hK.out _ _ FA (fun hS => ?_)
            clear hK K
            refine wpAnyH_ready (rs := [8]) (by kernel_rfl) (by simp) ?_
            refine AllReadyH.cons rfl (fun K hK => ?_) (AllReadyH.nil)
            go_simp
            refine (HQ.out _).mono ?_
            rintro e w74 ⟨rfl, h74⟩
            replace FA := FA.below h74 FA.lt
            replace FO := FO.below h74 FO.lt
            replace F6 := F6.below h74 F6.lt
            replace F7 := F7.below h74 F7.lt
            replace GB := GB.trans (h74.mono GB.size)
            clear h74
            refine hK.out _ _ FA (fun hS => ?_)
            clear hK K
            refine wpAnyH_take (i := 9) (v := .tuple #[.agg (cellsOf Q.testBit), .agg (cellsOf R.testBit)]) rfl (by kernel_rfl) (by kernel_rfl) (by kernel_rfl) (fun _ _ _ h => h) (Or.inl ⟨by rfl, fun u hSw => (by go_simp)⟩) hS ?_
            refine wpAnyH_take (i := 10) (v := .agg (cellsOf Q.testBit)) rfl (by kernel_rfl) (by kernel_rfl) (by kernel_rfl) (fun _ _ _ h => h) (Or.inl ⟨by rfl, fun u hSw => (by go_simp)⟩) hS ?_
            refine wpAnyH_take (i := 11) (v := .agg (cellsOf R.testBit)) rfl (by kernel_rfl) (by kernel_rfl) (by kernel_rfl) (fun _ _ _ h => h) (Or.inl ⟨by rfl, fun u hSw => (by go_simp)⟩) hS ?_
            refine wpAnyH_ready (rs := [14]) (by kernel_rfl) (by simp) ?_
            refine AllReadyH.cons rfl (fun K hK => ?_) (AllReadyH.nil)
            have O75 := F6
            replace FA := FA.other (g' := g6) (cs' := cellsOf Q.testBit) (by omega)
            replace FO := FO.other (g' := g6) (cs' := cellsOf Q.testBit) (by omega)
            replace F7 := F7.other (g' := g6) (cs' := cellsOf Q.testBit) (by omega)
            replace F6 := F6.row (cs' := cellsOf Q.testBit)
            replace GB := below_row (g' := g6) (cs' := cellsOf Q.testBit) GB (by omega)
            refine keep_row rfl 38 (.tmp 6) (.tmp 18) rfl _ _ rfl rfl _ _ O75 (size_bits _) (by rw [cellsOf_size, cellsOf_size]) (cellsOf_one _) (hK.out _ _ FA (fun hS => ?_))
            clear hK K O75
            generalize w74.setRow (g6) (cellsOf Q.testBit) = U75 at FA FO F6 F7 GB hS ⊢
            refine wpAnyH_ready (rs := [15]) (by kernel_rfl) (by simp) ?_
            refine AllReadyH.cons rfl (fun K hK => ?_) (AllReadyH.nil)
            have O76 := F7
            replace FA := FA.other (g' := g7) (cs' := cellsOf R.testBit) (by omega)
            replace FO := FO.other (g' := g7) (cs' := cellsOf R.testBit) (by omega)
            replace F6 := F6.other (g' := g7) (cs' := cellsOf R.testBit) (by omega)
            replace F7 := F7.row (cs' := cellsOf R.testBit)
            replace GB := below_row (g' := g7) (cs' := cellsOf R.testBit) GB (by omega)
            refine keep_row rfl 38 (.tmp 7) (.tmp 19) rfl _ _ rfl rfl _ _ O76 (size_bits _) (by rw [cellsOf_size, cellsOf_size]) (cellsOf_one _) (hK.out _ _ FA (fun hS => ?_))
            clear hK K O76
            generalize U75.setRow (g7) (cellsOf R.testBit) = U76 at FA FO F6 F7 GB hS ⊢
            refine wpAnyH_done (by kernel_rfl) ?_ _
            go_wp2_with fail
            go_meet
            exact ⟨g6, g7, rfl, rfl, by omega, by omega, F6, F7, FO, GB⟩
        · skip
          go_simp
          have F7 := Blk.new U61 38 (cellsOf none_)
          have l7A : w.heap.size < U61.heap.size := FA.lt
          replace FA := FA.alloc (.cells (cellsOf none_) 38)
          have l7O : w.heap.size + 1 < U61.heap.size := FO.lt
          replace FO := FO.alloc (.cells (cellsOf none_) 38)
          have l76 : g6 < U61.heap.size := F6.lt
          replace F6 := F6.alloc (.cells (cellsOf none_) 38)
          have L7 := GB.size
          replace GB := GB.alloc GB.size (.cells (cellsOf none_) 38)
          refine hK.out _ _ FA (fun hS => ?_)
          clear hK K
          generalize U61.alloc (.cells (cellsOf none_) 38) = U77 at F7 FA FO F6 GB hS ⊢
          generalize U61.heap.size = g7 at F7 l7A l7O l76 L7 ⊢
          refine wpAnyH_ready (rs := [4]) (by kernel_rfl) (by simp) ?_
          refine AllReadyH.cons rfl (fun K hK => ?_) (AllReadyH.nil)
          go_simp
          refine (HPA.out _).mono ?_
          rintro e w78 ⟨rfl, h78⟩
          replace FA := FA.below h78 FA.lt
          replace FO := FO.below h78 FO.lt
          replace F6 := F6.below h78 F6.lt
          replace F7 := F7.below h78 F7.lt
          replace GB := GB.trans (h78.mono GB.size)
          clear h78
          refine hK.out _ _ FA (fun hS => ?_)
          clear hK K
          refine wpAnyH_ready (rs := [7]) (by kernel_rfl) (by simp) ?_
          refine AllReadyH.cons rfl (fun K hK => ?_) (AllReadyH.nil)
          go_simp
          refine (HBX.out _).mono ?_
          rintro e w79 ⟨rfl, h79⟩
          replace FA := FA.below h79 FA.lt
          replace FO := FO.below h79 FO.lt
          replace F6 := F6.below h79 F6.lt
          replace F7 := F7.below h79 F7.lt
          replace GB := GB.trans (h79.mono GB.size)
          clear h79
          refine hK.out _ _ FA (fun hS => ?_)
          clear hK K
          refine wpAnyH_ready (rs := [8]) (by kernel_rfl) (by simp) ?_
          refine AllReadyH.cons rfl (fun K hK => ?_) (AllReadyH.nil)
          go_simp
          refine (HQ.out _).mono ?_
          rintro e w80 ⟨rfl, h80⟩
          replace FA := FA.below h80 FA.lt
          replace FO := FO.below h80 FO.lt
          replace F6 := F6.below h80 F6.lt
          replace F7 := F7.below h80 F7.lt
          replace GB := GB.trans (h80.mono GB.size)
          clear h80
          refine hK.out _ _ FA (fun hS => ?_)
          clear hK K
          refine wpAnyH_take (i := 9) (v := .tuple #[.agg (cellsOf Q.testBit), .agg (cellsOf R.testBit)]) rfl (by kernel_rfl) (by kernel_rfl) (by kernel_rfl) (fun _ _ _ h => h) (Or.inl ⟨by rfl, fun u hSw => (by go_simp)⟩) hS ?_
          refine wpAnyH_take (i := 10) (v := .agg (cellsOf Q.testBit)) rfl (by kernel_rfl) (by kernel_rfl) (by kernel_rfl) (fun _ _ _ h => h) (Or.inl ⟨by rfl, fun u hSw => (by go_simp)⟩) hS ?_
          refine wpAnyH_take (i := 11) (v := .agg (cellsOf R.testBit)) rfl (by kernel_rfl) (by kernel_rfl) (by kernel_rfl) (fun _ _ _ h => h) (Or.inl ⟨by rfl, fun u hSw => (by go_simp)⟩) hS ?_
          refine wpAnyH_ready (rs := [14]) (by kernel_rfl) (by simp) ?_
          refine AllReadyH.cons rfl (fun K hK => ?_) (AllReadyH.nil)
          have O81 := F6
          replace FA := FA.other (g' := g6) (cs' := cellsOf Q.testBit) (by omega)
          replace FO := FO.other (g' := g6) (cs' := cellsOf Q.testBit) (by omega)
          replace F7 := F7.other (g' := g6) (cs' := cellsOf Q.testBit) (by omega)
          replace F6 := F6.row (cs' := cellsOf Q.testBit)
          replace GB := below_row (g' := g6) (cs' := cellsOf Q.testBit) GB (by omega)
          refine keep_row rfl 38 (.tmp 6) (.tmp 18) rfl _ _ rfl rfl _ _ O81 (size_bits _) (by rw [cellsOf_size, cellsOf_size]) (cellsOf_one _) (hK.out _ _ FA (fun hS => ?_))
          clear hK K O81
          generalize w80.setRow (g6) (cellsOf Q.testBit) = U81 at FA FO F6 F7 GB hS ⊢
          refine wpAnyH_ready (rs := [15]) (by kernel_rfl) (by simp) ?_
          refine AllReadyH.cons rfl (fun K hK => ?_) (AllReadyH.nil)
          have O82 := F7
          replace FA := FA.other (g' := g7) (cs' := cellsOf R.testBit) (by omega)
          replace FO := FO.other (g' := g7) (cs' := cellsOf R.testBit) (by omega)
          replace F6 := F6.other (g' := g7) (cs' := cellsOf R.testBit) (by omega)
          replace F7 := F7.row (cs' := cellsOf R.testBit)
          replace GB := below_row (g' := g7) (cs' := cellsOf R.testBit) GB (by omega)
          refine keep_row rfl 38 (.tmp 7) (.tmp 19) rfl _ _ rfl rfl _ _ O82 (size_bits _) (by rw [cellsOf_size, cellsOf_size]) (cellsOf_one _) (hK.out _ _ FA (fun hS => ?_))
          clear hK K O82
          generalize U81.setRow (g7) (cellsOf R.testBit) = U82 at FA FO F6 F7 GB hS ⊢
          refine wpAnyH_done (by kernel_rfl) ?_ _
          go_wp2_with fail
          go_meet
          exact ⟨g6, g7, rfl, rfl, by omega, by omega, F6, F7, FO, GB⟩
      · skip
        go_simp
        have F7 := Blk.new w1 38 (cellsOf none_)
        have l7A : w.heap.size < w1.heap.size := FA.lt
        replace FA := FA.alloc (.cells (cellsOf none_) 38)
        have l7O : w.heap.size + 1 < w1.heap.size := FO.lt
        replace FO := FO.alloc (.cells (cellsOf none_) 38)
        have L7 := GB.size
        replace GB := GB.alloc GB.size (.cells (cellsOf none_) 38)
        refine hK.out _ _ FA (fun hS => ?_)
        clear hK K
        generalize w1.alloc (.cells (cellsOf none_) 38) = U83 at F7 FA FO GB hS ⊢
        generalize w1.heap.size = g7 at F7 l7A l7O L7 ⊢
        refine wpAnyH_ready (rs := [4, 12]) (by kernel_rfl) (by simp) ?_
        refine AllReadyH.cons rfl (fun K hK => ?_) (AllReadyH.cons rfl (fun K hK => ?_) (AllReadyH.nil))
        · skip
          go_simp
          refine (HPA.out _).mono ?_
          rintro e w84 ⟨rfl, h84⟩
          replace FA := FA.below h84 FA.lt
          replace FO := FO.below h84 FO.lt
          replace F7 := F7.below h84 F7.lt
          replace GB := GB.trans (h84.mono GB.size)
          clear h84
          refine hK.out _ _ FA (fun hS => ?_)
          clear hK K
          refine wpAnyH_ready (rs := [7, 12]) (by kernel_rfl) (by simp) ?_
          refine AllReadyH.cons rfl (fun K hK => ?_) (AllReadyH.cons rfl (fun K hK => ?_) (AllReadyH.nil))
          · skip
            go_simp
            refine (HBX.out _).mono ?_
            rintro e w85 ⟨rfl, h85⟩
            replace FA := FA.below h85 FA.lt
            replace FO := FO.below h85 FO.lt
            replace F7 := F7.below h85 F7.lt
            replace GB := GB.trans (h85.mono GB.size)
            clear h85
            refine hK.out _ _ FA (fun hS => ?_)
            clear hK K
            refine wpAnyH_ready (rs := [8, 12]) (by kernel_rfl) (by simp) ?_
            refine AllReadyH.cons rfl (fun K hK => ?_) (AllReadyH.cons rfl (fun K hK => ?_) (AllReadyH.nil))
            · skip
              go_simp
              refine (HQ.out _).mono ?_
              rintro e w86 ⟨rfl, h86⟩
              replace FA := FA.below h86 FA.lt
              replace FO := FO.below h86 FO.lt
              replace F7 := F7.below h86 F7.lt
              replace GB := GB.trans (h86.mono GB.size)
              clear h86
              refine hK.out _ _ FA (fun hS => ?_)
              clear hK K
              refine wpAnyH_take (i := 9) (v := .tuple #[.agg (cellsOf Q.testBit), .agg (cellsOf R.testBit)]) rfl (by kernel_rfl) (by kernel_rfl) (by kernel_rfl) (fun _ _ _ h => h) (Or.inl ⟨by rfl, fun u hSw => (by go_simp)⟩) hS ?_
              refine wpAnyH_take (i := 10) (v := .agg (cellsOf Q.testBit)) rfl (by kernel_rfl) (by kernel_rfl) (by kernel_rfl) (fun _ _ _ h => h) (Or.inl ⟨by rfl, fun u hSw => (by go_simp)⟩) hS ?_
              refine wpAnyH_take (i := 11) (v := .agg (cellsOf R.testBit)) rfl (by kernel_rfl) (by kernel_rfl) (by kernel_rfl) (fun _ _ _ h => h) (Or.inl ⟨by rfl, fun u hSw => (by go_simp)⟩) hS ?_
              refine wpAnyH_ready (rs := [12]) (by kernel_rfl) (by simp) ?_
              refine AllReadyH.cons rfl (fun K hK => ?_) (AllReadyH.nil)
              go_simp
              have F6 := Blk.new w86 38 (cellsOf none_)
              have l6A : w.heap.size < w86.heap.size := FA.lt
              replace FA := FA.alloc (.cells (cellsOf none_) 38)
              have l6O : w.heap.size + 1 < w86.heap.size := FO.lt
              replace FO := FO.alloc (.cells (cellsOf none_) 38)
              have l67 : g7 < w86.heap.size := F7.lt
              replace F7 := F7.alloc (.cells (cellsOf none_) 38)
              have L6 := GB.size
              replace GB := GB.alloc GB.size (.cells (cellsOf none_) 38)
              refine hK.out _ _ FA (fun hS => ?_)
              clear hK K
              generalize w86.alloc (.cells (cellsOf none_) 38) = U87 at F6 FA FO F7 GB hS ⊢
              generalize w86.heap.size = g6 at F6 l6A l6O l67 L6 ⊢
              refine wpAnyH_ready (rs := [14]) (by kernel_rfl) (by simp) ?_
              refine AllReadyH.cons rfl (fun K hK => ?_) (AllReadyH.nil)
              have O88 := F6
              replace FA := FA.other (g' := g6) (cs' := cellsOf Q.testBit) (by omega)
              replace FO := FO.other (g' := g6) (cs' := cellsOf Q.testBit) (by omega)
              replace F7 := F7.other (g' := g6) (cs' := cellsOf Q.testBit) (by omega)
              replace F6 := F6.row (cs' := cellsOf Q.testBit)
              replace GB := below_row (g' := g6) (cs' := cellsOf Q.testBit) GB (by omega)
              refine keep_row rfl 38 (.tmp 6) (.tmp 18) rfl _ _ rfl rfl _ _ O88 (size_bits _) (by rw [cellsOf_size, cellsOf_size]) (cellsOf_one _) (hK.out _ _ FA (fun hS => ?_))
              clear hK K O88
              generalize U87.setRow (g6) (cellsOf Q.testBit) = U88 at FA FO F7 F6 GB hS ⊢
              refine wpAnyH_ready (rs := [15]) (by kernel_rfl) (by simp) ?_
              refine AllReadyH.cons rfl (fun K hK => ?_) (AllReadyH.nil)
              have O89 := F7
              replace FA := FA.other (g' := g7) (cs' := cellsOf R.testBit) (by omega)
              replace FO := FO.other (g' := g7) (cs' := cellsOf R.testBit) (by omega)
              replace F6 := F6.other (g' := g7) (cs' := cellsOf R.testBit) (by omega)
              replace F7 := F7.row (cs' := cellsOf R.testBit)
              replace GB := below_row (g' := g7) (cs' := cellsOf R.testBit) GB (by omega)
              refine keep_row rfl 38 (.tmp 7) (.tmp 19) rfl _ _ rfl rfl _ _ O89 (size_bits _) (by rw [cellsOf_size, cellsOf_size]) (cellsOf_one _) (hK.out _ _ FA (fun hS => ?_))
              clear hK K O89
              generalize U88.setRow (g7) (cellsOf R.testBit) = U89 at FA FO F7 F6 GB hS ⊢
              refine wpAnyH_done (by kernel_rfl) ?_ _
              go_wp2_with fail
              go_meet
              exact ⟨g6, g7, rfl, rfl, by omega, by omega, F6, F7, FO, GB⟩
            · skip
              go_simp
              have F6 := Blk.new w85 38 (cellsOf none_)
              have l6A : w.heap.size < w85.heap.size := FA.lt
              replace FA := FA.alloc (.cells (cellsOf none_) 38)
              have l6O : w.heap.size + 1 < w85.heap.size := FO.lt
              replace FO := FO.alloc (.cells (cellsOf none_) 38)
              have l67 : g7 < w85.heap.size := F7.lt
              replace F7 := F7.alloc (.cells (cellsOf none_) 38)
              have L6 := GB.size
              replace GB := GB.alloc GB.size (.cells (cellsOf none_) 38)
              refine hK.out _ _ FA (fun hS => ?_)
              clear hK K
              generalize w85.alloc (.cells (cellsOf none_) 38) = U90 at F6 FA FO F7 GB hS ⊢
              generalize w85.heap.size = g6 at F6 l6A l6O l67 L6 ⊢
              refine wpAnyH_ready (rs := [8]) (by kernel_rfl) (by simp) ?_
              refine AllReadyH.cons rfl (fun K hK => ?_) (AllReadyH.nil)
              go_simp
              refine (HQ.out _).mono ?_
              rintro e w91 ⟨rfl, h91⟩
              replace FA := FA.below h91 FA.lt
              replace FO := FO.below h91 FO.lt
              replace F7 := F7.below h91 F7.lt
              replace F6 := F6.below h91 F6.lt
              replace GB := GB.trans (h91.mono GB.size)
              clear h91
              refine hK.out _ _ FA (fun hS => ?_)
              clear hK K
              refine wpAnyH_take (i := 9) (v := .tuple #[.agg (cellsOf Q.testBit), .agg (cellsOf R.testBit)]) rfl (by kernel_rfl) (by kernel_rfl) (by kernel_rfl) (fun _ _ _ h => h) (Or.inl ⟨by rfl, fun u hSw => (by go_simp)⟩) hS ?_
              refine wpAnyH_take (i := 10) (v := .agg (cellsOf Q.testBit)) rfl (by kernel_rfl) (by kernel_rfl) (by kernel_rfl) (fun _ _ _ h => h) (Or.inl ⟨by rfl, fun u hSw => (by go_simp)⟩) hS ?_
              refine wpAnyH_take (i := 11) (v := .agg (cellsOf R.testBit)) rfl (by kernel_rfl) (by kernel_rfl) (by kernel_rfl) (fun _ _ _ h => h) (Or.inl ⟨by rfl, fun u hSw => (by go_simp)⟩) hS ?_
              refine wpAnyH_ready (rs := [14]) (by kernel_rfl) (by simp) ?_
              refine AllReadyH.cons rfl (fun K hK => ?_) (AllReadyH.nil)
              have O92 := F6
              replace FA := FA.other (g' := g6) (cs' := cellsOf Q.testBit) (by omega)
              replace FO := FO.other (g' := g6) (cs' := cellsOf Q.testBit) (by omega)
              replace F7 := F7.other (g' := g6) (cs' := cellsOf Q.testBit) (by omega)
              replace F6 := F6.row (cs' := cellsOf Q.testBit)
              replace GB := below_row (g' := g6) (cs' := cellsOf Q.testBit) GB (by omega)
              refine keep_row rfl 38 (.tmp 6) (.tmp 18) rfl _ _ rfl rfl _ _ O92 (size_bits _) (by rw [cellsOf_size, cellsOf_size]) (cellsOf_one _) (hK.out _ _ FA (fun hS => ?_))
              clear hK K O92
              generalize w91.setRow (g6) (cellsOf Q.testBit) = U92 at FA FO F7 F6 GB hS ⊢
              refine wpAnyH_ready (rs := [15]) (by kernel_rfl) (by simp) ?_
              refine AllReadyH.cons rfl (fun K hK => ?_) (AllReadyH.nil)
              have O93 := F7
              replace FA := FA.other (g' := g7) (cs' := cellsOf R.testBit) (by omega)
              replace FO := FO.other (g' := g7) (cs' := cellsOf R.testBit) (by omega)
              replace F6 := F6.other (g' := g7) (cs' := cellsOf R.testBit) (by omega)
              replace F7 := F7.row (cs' := cellsOf R.testBit)
              replace GB := below_row (g' := g7) (cs' := cellsOf R.testBit) GB (by omega)
              refine keep_row rfl 38 (.tmp 7) (.tmp 19) rfl _ _ rfl rfl _ _ O93 (size_bits _) (by rw [cellsOf_size, cellsOf_size]) (cellsOf_one _) (hK.out _ _ FA (fun hS => ?_))
              clear hK K O93
              generalize U92.setRow (g7) (cellsOf R.testBit) = U93 at FA FO F7 F6 GB hS ⊢
              refine wpAnyH_done (by kernel_rfl) ?_ _
              go_wp2_with fail
              go_meet
              exact ⟨g6, g7, rfl, rfl, by omega, by omega, F6, F7, FO, GB⟩
          · skip
            go_simp
            have F6 := Blk.new w84 38 (cellsOf none_)
            have l6A : w.heap.size < w84.heap.size := FA.lt
            replace FA := FA.alloc (.cells (cellsOf none_) 38)
            have l6O : w.heap.size + 1 < w84.heap.size := FO.lt
            replace FO := FO.alloc (.cells (cellsOf none_) 38)
            have l67 : g7 < w84.heap.size := F7.lt
            replace F7 := F7.alloc (.cells (cellsOf none_) 38)
            have L6 := GB.size
            replace GB := GB.alloc GB.size (.cells (cellsOf none_) 38)
            refine hK.out _ _ FA (fun hS => ?_)
            clear hK K
            generalize w84.alloc (.cells (cellsOf none_) 38) = U94 at F6 FA FO F7 GB hS ⊢
            generalize w84.heap.size = g6 at F6 l6A l6O l67 L6 ⊢
            refine wpAnyH_ready (rs := [7]) (by kernel_rfl) (by simp) ?_
            refine AllReadyH.cons rfl (fun K hK => ?_) (AllReadyH.nil)
            go_simp
            refine (HBX.out _).mono ?_
            rintro e w95 ⟨rfl, h95⟩
            replace FA := FA.below h95 FA.lt
            replace FO := FO.below h95 FO.lt
            replace F7 := F7.below h95 F7.lt
            replace F6 := F6.below h95 F6.lt
            replace GB := GB.trans (h95.mono GB.size)
            clear h95
            refine hK.out _ _ FA (fun hS => ?_)
            clear hK K
            refine wpAnyH_ready (rs := [8]) (by kernel_rfl) (by simp) ?_
            refine AllReadyH.cons rfl (fun K hK => ?_) (AllReadyH.nil)
            go_simp
            refine (HQ.out _).mono ?_
            rintro e w96 ⟨rfl, h96⟩
            replace FA := FA.below h96 FA.lt
            replace FO := FO.below h96 FO.lt
            replace F7 := F7.below h96 F7.lt
            replace F6 := F6.below h96 F6.lt
            replace GB := GB.trans (h96.mono GB.size)
            clear h96
            refine hK.out _ _ FA (fun hS => ?_)
            clear hK K
            refine wpAnyH_take (i := 9) (v := .tuple #[.agg (cellsOf Q.testBit), .agg (cellsOf R.testBit)]) rfl (by kernel_rfl) (by kernel_rfl) (by kernel_rfl) (fun _ _ _ h => h) (Or.inl ⟨by rfl, fun u hSw => (by go_simp)⟩) hS ?_
            refine wpAnyH_take (i := 10) (v := .agg (cellsOf Q.testBit)) rfl (by kernel_rfl) (by kernel_rfl) (by kernel_rfl) (fun _ _ _ h => h) (Or.inl ⟨by rfl, fun u hSw => (by go_simp)⟩) hS ?_
            refine wpAnyH_take (i := 11) (v := .agg (cellsOf R.testBit)) rfl (by kernel_rfl) (by kernel_rfl) (by kernel_rfl) (fun _ _ _ h => h) (Or.inl ⟨by rfl, fun u hSw => (by go_simp)⟩) hS ?_
            refine wpAnyH_ready (rs := [14]) (by kernel_rfl) (by simp) ?_
            refine AllReadyH.cons rfl (fun K hK => ?_) (AllReadyH.nil)
            have O97 := F6
            replace FA := FA.other (g' := g6) (cs' := cellsOf Q.testBit) (by omega)
            replace FO := FO.other (g' := g6) (cs' := cellsOf Q.testBit) (by omega)
            replace F7 := F7.other (g' := g6) (cs' := cellsOf Q.testBit) (by omega)
            replace F6 := F6.row (cs' := cellsOf Q.testBit)
            replace GB := below_row (g' := g6) (cs' := cellsOf Q.testBit) GB (by omega)
            refine keep_row rfl 38 (.tmp 6) (.tmp 18) rfl _ _ rfl rfl _ _ O97 (size_bits _) (by rw [cellsOf_size, cellsOf_size]) (cellsOf_one _) (hK.out _ _ FA (fun hS => ?_))
            clear hK K O97
            generalize w96.setRow (g6) (cellsOf Q.testBit) = U97 at FA FO F7 F6 GB hS ⊢
            refine wpAnyH_ready (rs := [15]) (by kernel_rfl) (by simp) ?_
            refine AllReadyH.cons rfl (fun K hK => ?_) (AllReadyH.nil)
            have O98 := F7
            replace FA := FA.other (g' := g7) (cs' := cellsOf R.testBit) (by omega)
            replace FO := FO.other (g' := g7) (cs' := cellsOf R.testBit) (by omega)
            replace F6 := F6.other (g' := g7) (cs' := cellsOf R.testBit) (by omega)
            replace F7 := F7.row (cs' := cellsOf R.testBit)
            replace GB := below_row (g' := g7) (cs' := cellsOf R.testBit) GB (by omega)
            refine keep_row rfl 38 (.tmp 7) (.tmp 19) rfl _ _ rfl rfl _ _ O98 (size_bits _) (by rw [cellsOf_size, cellsOf_size]) (cellsOf_one _) (hK.out _ _ FA (fun hS => ?_))
            clear hK K O98
            generalize U97.setRow (g7) (cellsOf R.testBit) = U98 at FA FO F7 F6 GB hS ⊢
            refine wpAnyH_done (by kernel_rfl) ?_ _
            go_wp2_with fail
            go_meet
            exact ⟨g6, g7, rfl, rfl, by omega, by omega, F6, F7, FO, GB⟩
        · skip
          go_simp
          have F6 := Blk.new U83 38 (cellsOf none_)
          have l6A : w.heap.size < U83.heap.size := FA.lt
          replace FA := FA.alloc (.cells (cellsOf none_) 38)
          have l6O : w.heap.size + 1 < U83.heap.size := FO.lt
          replace FO := FO.alloc (.cells (cellsOf none_) 38)
          have l67 : g7 < U83.heap.size := F7.lt
          replace F7 := F7.alloc (.cells (cellsOf none_) 38)
          have L6 := GB.size
          replace GB := GB.alloc GB.size (.cells (cellsOf none_) 38)
          refine hK.out _ _ FA (fun hS => ?_)
          clear hK K
          generalize U83.alloc (.cells (cellsOf none_) 38) = U99 at F6 FA FO F7 GB hS ⊢
          generalize U83.heap.size = g6 at F6 l6A l6O l67 L6 ⊢
          refine wpAnyH_ready (rs := [4]) (by kernel_rfl) (by simp) ?_
          refine AllReadyH.cons rfl (fun K hK => ?_) (AllReadyH.nil)
          go_simp
          refine (HPA.out _).mono ?_
          rintro e w100 ⟨rfl, h100⟩
          replace FA := FA.below h100 FA.lt
          replace FO := FO.below h100 FO.lt
          replace F7 := F7.below h100 F7.lt
          replace F6 := F6.below h100 F6.lt
          replace GB := GB.trans (h100.mono GB.size)
          clear h100
          refine hK.out _ _ FA (fun hS => ?_)
          clear hK K
          refine wpAnyH_ready (rs := [7]) (by kernel_rfl) (by simp) ?_
          refine AllReadyH.cons rfl (fun K hK => ?_) (AllReadyH.nil)
          go_simp
          refine (HBX.out _).mono ?_
          rintro e w101 ⟨rfl, h101⟩
          replace FA := FA.below h101 FA.lt
          replace FO := FO.below h101 FO.lt
          replace F7 := F7.below h101 F7.lt
          replace F6 := F6.below h101 F6.lt
          replace GB := GB.trans (h101.mono GB.size)
          clear h101
          refine hK.out _ _ FA (fun hS => ?_)
          clear hK K
          refine wpAnyH_ready (rs := [8]) (by kernel_rfl) (by simp) ?_
          refine AllReadyH.cons rfl (fun K hK => ?_) (AllReadyH.nil)
          go_simp
          refine (HQ.out _).mono ?_
          rintro e w102 ⟨rfl, h102⟩
          replace FA := FA.below h102 FA.lt
          replace FO := FO.below h102 FO.lt
          replace F7 := F7.below h102 F7.lt
          replace F6 := F6.below h102 F6.lt
          replace GB := GB.trans (h102.mono GB.size)
          clear h102
          refine hK.out _ _ FA (fun hS => ?_)
          clear hK K
          refine wpAnyH_take (i := 9) (v := .tuple #[.agg (cellsOf Q.testBit), .agg (cellsOf R.testBit)]) rfl (by kernel_rfl) (by kernel_rfl) (by kernel_rfl) (fun _ _ _ h => h) (Or.inl ⟨by rfl, fun u hSw => (by go_simp)⟩) hS ?_
          refine wpAnyH_take (i := 10) (v := .agg (cellsOf Q.testBit)) rfl (by kernel_rfl) (by kernel_rfl) (by kernel_rfl) (fun _ _ _ h => h) (Or.inl ⟨by rfl, fun u hSw => (by go_simp)⟩) hS ?_
          refine wpAnyH_take (i := 11) (v := .agg (cellsOf R.testBit)) rfl (by kernel_rfl) (by kernel_rfl) (by kernel_rfl) (fun _ _ _ h => h) (Or.inl ⟨by rfl, fun u hSw => (by go_simp)⟩) hS ?_
          refine wpAnyH_ready (rs := [14]) (by kernel_rfl) (by simp) ?_
          refine AllReadyH.cons rfl (fun K hK => ?_) (AllReadyH.nil)
          have O103 := F6
          replace FA := FA.other (g' := g6) (cs' := cellsOf Q.testBit) (by omega)
          replace FO := FO.other (g' := g6) (cs' := cellsOf Q.testBit) (by omega)
          replace F7 := F7.other (g' := g6) (cs' := cellsOf Q.testBit) (by omega)
          replace F6 := F6.row (cs' := cellsOf Q.testBit)
          replace GB := below_row (g' := g6) (cs' := cellsOf Q.testBit) GB (by omega)
          refine keep_row rfl 38 (.tmp 6) (.tmp 18) rfl _ _ rfl rfl _ _ O103 (size_bits _) (by rw [cellsOf_size, cellsOf_size]) (cellsOf_one _) (hK.out _ _ FA (fun hS => ?_))
          clear hK K O103
          generalize w102.setRow (g6) (cellsOf Q.testBit) = U103 at FA FO F7 F6 GB hS ⊢
          refine wpAnyH_ready (rs := [15]) (by kernel_rfl) (by simp) ?_
          refine AllReadyH.cons rfl (fun K hK => ?_) (AllReadyH.nil)
          have O104 := F7
          replace FA := FA.other (g' := g7) (cs' := cellsOf R.testBit) (by omega)
          replace FO := FO.other (g' := g7) (cs' := cellsOf R.testBit) (by omega)
          replace F6 := F6.other (g' := g7) (cs' := cellsOf R.testBit) (by omega)
          replace F7 := F7.row (cs' := cellsOf R.testBit)
          replace GB := below_row (g' := g7) (cs' := cellsOf R.testBit) GB (by omega)
          refine keep_row rfl 38 (.tmp 7) (.tmp 19) rfl _ _ rfl rfl _ _ O104 (size_bits _) (by rw [cellsOf_size, cellsOf_size]) (cellsOf_one _) (hK.out _ _ FA (fun hS => ?_))
          clear hK K O104
          generalize U103.setRow (g7) (cellsOf R.testBit) = U104 at FA FO F7 F6 GB hS ⊢
          refine wpAnyH_done (by kernel_rfl) ?_ _
          go_wp2_with fail
          go_meet
          exact ⟨g6, g7, rfl, rfl, by omega, by omega, F6, F7, FO, GB⟩
    · skip
      go_simp
      have F6 := Blk.new V 38 (cellsOf none_)
      have l6A : w.heap.size < V.heap.size := FA.lt
      replace FA := FA.alloc (.cells (cellsOf none_) 38)
      have l6O : w.heap.size + 1 < V.heap.size := FO.lt
      replace FO := FO.alloc (.cells (cellsOf none_) 38)
      have L6 := GB.size
      replace GB := GB.alloc GB.size (.cells (cellsOf none_) 38)
      refine hK.out _ _ FA (fun hS => ?_)
      clear hK K
      generalize V.alloc (.cells (cellsOf none_) 38) = U105 at F6 FA FO GB hS ⊢
      generalize V.heap.size = g6 at F6 l6A l6O L6 ⊢
      refine wpAnyH_ready (rs := [2, 13]) (by kernel_rfl) (by simp) ?_
      refine AllReadyH.cons rfl (fun K hK => ?_) (AllReadyH.cons rfl (fun K hK => ?_) (AllReadyH.nil))
      · skip
        go_simp
        refine (HOA.out _).mono ?_
        rintro e w106 ⟨rfl, h106⟩
        replace FA := FA.below h106 FA.lt
        replace FO := FO.below h106 FO.lt
        replace F6 := F6.below h106 F6.lt
        replace GB := GB.trans (h106.mono GB.size)
        clear h106
        refine hK.out _ _ FA (fun hS => ?_)
        clear hK K
        refine wpAnyH_ready (rs := [4, 13]) (by kernel_rfl) (by simp) ?_
        refine AllReadyH.cons rfl (fun K hK => ?_) (AllReadyH.cons rfl (fun K hK => ?_) (AllReadyH.nil))
        · skip
          go_simp
          refine (HPA.out _).mono ?_
          rintro e w107 ⟨rfl, h107⟩
          replace FA := FA.below h107 FA.lt
          replace FO := FO.below h107 FO.lt
          replace F6 := F6.below h107 F6.lt
          replace GB := GB.trans (h107.mono GB.size)
          clear h107
          refine hK.out _ _ FA (fun hS => ?_)
          clear hK K
          refine wpAnyH_ready (rs := [7, 13]) (by kernel_rfl) (by simp) ?_
          refine AllReadyH.cons rfl (fun K hK => ?_) (AllReadyH.cons rfl (fun K hK => ?_) (AllReadyH.nil))
          · skip
            go_simp
            refine (HBX.out _).mono ?_
            rintro e w108 ⟨rfl, h108⟩
            replace FA := FA.below h108 FA.lt
            replace FO := FO.below h108 FO.lt
            replace F6 := F6.below h108 F6.lt
            replace GB := GB.trans (h108.mono GB.size)
            clear h108
            refine hK.out _ _ FA (fun hS => ?_)
            clear hK K
            refine wpAnyH_ready (rs := [8, 13]) (by kernel_rfl) (by simp) ?_
            refine AllReadyH.cons rfl (fun K hK => ?_) (AllReadyH.cons rfl (fun K hK => ?_) (AllReadyH.nil))
            · skip
              go_simp
              refine (HQ.out _).mono ?_
              rintro e w109 ⟨rfl, h109⟩
              replace FA := FA.below h109 FA.lt
              replace FO := FO.below h109 FO.lt
              replace F6 := F6.below h109 F6.lt
              replace GB := GB.trans (h109.mono GB.size)
              clear h109
              refine hK.out _ _ FA (fun hS => ?_)
              clear hK K
              refine wpAnyH_take (i := 9) (v := .tuple #[.agg (cellsOf Q.testBit), .agg (cellsOf R.testBit)]) rfl (by kernel_rfl) (by kernel_rfl) (by kernel_rfl) (fun _ _ _ h => h) (Or.inl ⟨by rfl, fun u hSw => (by go_simp)⟩) hS ?_
              refine wpAnyH_take (i := 10) (v := .agg (cellsOf Q.testBit)) rfl (by kernel_rfl) (by kernel_rfl) (by kernel_rfl) (fun _ _ _ h => h) (Or.inl ⟨by rfl, fun u hSw => (by go_simp)⟩) hS ?_
              refine wpAnyH_take (i := 11) (v := .agg (cellsOf R.testBit)) rfl (by kernel_rfl) (by kernel_rfl) (by kernel_rfl) (fun _ _ _ h => h) (Or.inl ⟨by rfl, fun u hSw => (by go_simp)⟩) hS ?_
              refine wpAnyH_ready (rs := [13]) (by kernel_rfl) (by simp) ?_
              refine AllReadyH.cons rfl (fun K hK => ?_) (AllReadyH.nil)
              go_simp
              have F7 := Blk.new w109 38 (cellsOf none_)
              have l7A : w.heap.size < w109.heap.size := FA.lt
              replace FA := FA.alloc (.cells (cellsOf none_) 38)
              have l7O : w.heap.size + 1 < w109.heap.size := FO.lt
              replace FO := FO.alloc (.cells (cellsOf none_) 38)
              have l76 : g6 < w109.heap.size := F6.lt
              replace F6 := F6.alloc (.cells (cellsOf none_) 38)
              have L7 := GB.size
              replace GB := GB.alloc GB.size (.cells (cellsOf none_) 38)
              refine hK.out _ _ FA (fun hS => ?_)
              clear hK K
              generalize w109.alloc (.cells (cellsOf none_) 38) = U110 at F7 FA FO F6 GB hS ⊢
              generalize w109.heap.size = g7 at F7 l7A l7O l76 L7 ⊢
              refine wpAnyH_ready (rs := [14]) (by kernel_rfl) (by simp) ?_
              refine AllReadyH.cons rfl (fun K hK => ?_) (AllReadyH.nil)
              have O111 := F6
              replace FA := FA.other (g' := g6) (cs' := cellsOf Q.testBit) (by omega)
              replace FO := FO.other (g' := g6) (cs' := cellsOf Q.testBit) (by omega)
              replace F7 := F7.other (g' := g6) (cs' := cellsOf Q.testBit) (by omega)
              replace F6 := F6.row (cs' := cellsOf Q.testBit)
              replace GB := below_row (g' := g6) (cs' := cellsOf Q.testBit) GB (by omega)
              refine keep_row rfl 38 (.tmp 6) (.tmp 18) rfl _ _ rfl rfl _ _ O111 (size_bits _) (by rw [cellsOf_size, cellsOf_size]) (cellsOf_one _) (hK.out _ _ FA (fun hS => ?_))
              clear hK K O111
              generalize U110.setRow (g6) (cellsOf Q.testBit) = U111 at FA FO F6 F7 GB hS ⊢
              refine wpAnyH_ready (rs := [15]) (by kernel_rfl) (by simp) ?_
              refine AllReadyH.cons rfl (fun K hK => ?_) (AllReadyH.nil)
              have O112 := F7
              replace FA := FA.other (g' := g7) (cs' := cellsOf R.testBit) (by omega)
              replace FO := FO.other (g' := g7) (cs' := cellsOf R.testBit) (by omega)
              replace F6 := F6.other (g' := g7) (cs' := cellsOf R.testBit) (by omega)
              replace F7 := F7.row (cs' := cellsOf R.testBit)
              replace GB := below_row (g' := g7) (cs' := cellsOf R.testBit) GB (by omega)
              refine keep_row rfl 38 (.tmp 7) (.tmp 19) rfl _ _ rfl rfl _ _ O112 (size_bits _) (by rw [cellsOf_size, cellsOf_size]) (cellsOf_one _) (hK.out _ _ FA (fun hS => ?_))
              clear hK K O112
              generalize U111.setRow (g7) (cellsOf R.testBit) = U112 at FA FO F6 F7 GB hS ⊢
              refine wpAnyH_done (by kernel_rfl) ?_ _
              go_wp2_with fail
              go_meet
              exact ⟨g6, g7, rfl, rfl, by omega, by omega, F6, F7, FO, GB⟩
            · skip
              go_simp
              have F7 := Blk.new w108 38 (cellsOf none_)
              have l7A : w.heap.size < w108.heap.size := FA.lt
              replace FA := FA.alloc (.cells (cellsOf none_) 38)
              have l7O : w.heap.size + 1 < w108.heap.size := FO.lt
              replace FO := FO.alloc (.cells (cellsOf none_) 38)
              have l76 : g6 < w108.heap.size := F6.lt
              replace F6 := F6.alloc (.cells (cellsOf none_) 38)
              have L7 := GB.size
              replace GB := GB.alloc GB.size (.cells (cellsOf none_) 38)
              refine hK.out _ _ FA (fun hS => ?_)
              clear hK K
              generalize w108.alloc (.cells (cellsOf none_) 38) = U113 at F7 FA FO F6 GB hS ⊢
              generalize w108.heap.size = g7 at F7 l7A l7O l76 L7 ⊢
              refine wpAnyH_ready (rs := [8]) (by kernel_rfl) (by simp) ?_
              refine AllReadyH.cons rfl (fun K hK => ?_) (AllReadyH.nil)
              go_simp
              refine (HQ.out _).mono ?_
              rintro e w114 ⟨rfl, h114⟩
              replace FA := FA.below h114 FA.lt
              replace FO := FO.below h114 FO.lt
              replace F6 := F6.below h114 F6.lt
              replace F7 := F7.below h114 F7.lt
              replace GB := GB.trans (h114.mono GB.size)
              clear h114
              refine hK.out _ _ FA (fun hS => ?_)
              clear hK K
              refine wpAnyH_take (i := 9) (v := .tuple #[.agg (cellsOf Q.testBit), .agg (cellsOf R.testBit)]) rfl (by kernel_rfl) (by kernel_rfl) (by kernel_rfl) (fun _ _ _ h => h) (Or.inl ⟨by rfl, fun u hSw => (by go_simp)⟩) hS ?_
              refine wpAnyH_take (i := 10) (v := .agg (cellsOf Q.testBit)) rfl (by kernel_rfl) (by kernel_rfl) (by kernel_rfl) (fun _ _ _ h => h) (Or.inl ⟨by rfl, fun u hSw => (by go_simp)⟩) hS ?_
              refine wpAnyH_take (i := 11) (v := .agg (cellsOf R.testBit)) rfl (by kernel_rfl) (by kernel_rfl) (by kernel_rfl) (fun _ _ _ h => h) (Or.inl ⟨by rfl, fun u hSw => (by go_simp)⟩) hS ?_
              refine wpAnyH_ready (rs := [14]) (by kernel_rfl) (by simp) ?_
              refine AllReadyH.cons rfl (fun K hK => ?_) (AllReadyH.nil)
              have O115 := F6
              replace FA := FA.other (g' := g6) (cs' := cellsOf Q.testBit) (by omega)
              replace FO := FO.other (g' := g6) (cs' := cellsOf Q.testBit) (by omega)
              replace F7 := F7.other (g' := g6) (cs' := cellsOf Q.testBit) (by omega)
              replace F6 := F6.row (cs' := cellsOf Q.testBit)
              replace GB := below_row (g' := g6) (cs' := cellsOf Q.testBit) GB (by omega)
              refine keep_row rfl 38 (.tmp 6) (.tmp 18) rfl _ _ rfl rfl _ _ O115 (size_bits _) (by rw [cellsOf_size, cellsOf_size]) (cellsOf_one _) (hK.out _ _ FA (fun hS => ?_))
              clear hK K O115
              generalize w114.setRow (g6) (cellsOf Q.testBit) = U115 at FA FO F6 F7 GB hS ⊢
              refine wpAnyH_ready (rs := [15]) (by kernel_rfl) (by simp) ?_
              refine AllReadyH.cons rfl (fun K hK => ?_) (AllReadyH.nil)
              have O116 := F7
              replace FA := FA.other (g' := g7) (cs' := cellsOf R.testBit) (by omega)
              replace FO := FO.other (g' := g7) (cs' := cellsOf R.testBit) (by omega)
              replace F6 := F6.other (g' := g7) (cs' := cellsOf R.testBit) (by omega)
              replace F7 := F7.row (cs' := cellsOf R.testBit)
              replace GB := below_row (g' := g7) (cs' := cellsOf R.testBit) GB (by omega)
              refine keep_row rfl 38 (.tmp 7) (.tmp 19) rfl _ _ rfl rfl _ _ O116 (size_bits _) (by rw [cellsOf_size, cellsOf_size]) (cellsOf_one _) (hK.out _ _ FA (fun hS => ?_))
              clear hK K O116
              generalize U115.setRow (g7) (cellsOf R.testBit) = U116 at FA FO F6 F7 GB hS ⊢
              refine wpAnyH_done (by kernel_rfl) ?_ _
              go_wp2_with fail
              go_meet
              exact ⟨g6, g7, rfl, rfl, by omega, by omega, F6, F7, FO, GB⟩
          · skip
            go_simp
            have F7 := Blk.new w107 38 (cellsOf none_)
            have l7A : w.heap.size < w107.heap.size := FA.lt
            replace FA := FA.alloc (.cells (cellsOf none_) 38)
            have l7O : w.heap.size + 1 < w107.heap.size := FO.lt
            replace FO := FO.alloc (.cells (cellsOf none_) 38)
            have l76 : g6 < w107.heap.size := F6.lt
            replace F6 := F6.alloc (.cells (cellsOf none_) 38)
            have L7 := GB.size
            replace GB := GB.alloc GB.size (.cells (cellsOf none_) 38)
            refine hK.out _ _ FA (fun hS => ?_)
            clear hK K
            generalize w107.alloc (.cells (cellsOf none_) 38) = U117 at F7 FA FO F6 GB hS ⊢
            generalize w107.heap.size = g7 at F7 l7A l7O l76 L7 ⊢
            refine wpAnyH_ready (rs := [7]) (by kernel_rfl) (by simp) ?_
            refine AllReadyH.cons rfl (fun K hK => ?_) (AllReadyH.nil)
            go_simp
            refine (HBX.out _).mono ?_
            rintro e w118 ⟨rfl, h118⟩
            replace FA := FA.below h118 FA.lt
            replace FO := FO.below h118 FO.lt
            replace F6 := F6.below h118 F6.lt
            replace F7 := F7.below h118 F7.lt
            replace GB := GB.trans (h118.mono GB.size)
            clear h118
            refine hK.out _ _ FA (fun hS => ?_)
            clear hK K
            refine wpAnyH_ready (rs := [8]) (by kernel_rfl) (by simp) ?_
            refine AllReadyH.cons rfl (fun K hK => ?_) (AllReadyH.nil)
            go_simp
            refine (HQ.out _).mono ?_
            rintro e w119 ⟨rfl, h119⟩
            replace FA := FA.below h119 FA.lt
            replace FO := FO.below h119 FO.lt
            replace F6 := F6.below h119 F6.lt
            replace F7 := F7.below h119 F7.lt
            replace GB := GB.trans (h119.mono GB.size)
            clear h119
            refine hK.out _ _ FA (fun hS => ?_)
            clear hK K
            refine wpAnyH_take (i := 9) (v := .tuple #[.agg (cellsOf Q.testBit), .agg (cellsOf R.testBit)]) rfl (by kernel_rfl) (by kernel_rfl) (by kernel_rfl) (fun _ _ _ h => h) (Or.inl ⟨by rfl, fun u hSw => (by go_simp)⟩) hS ?_
            refine wpAnyH_take (i := 10) (v := .agg (cellsOf Q.testBit)) rfl (by kernel_rfl) (by kernel_rfl) (by kernel_rfl) (fun _ _ _ h => h) (Or.inl ⟨by rfl, fun u hSw => (by go_simp)⟩) hS ?_
            refine wpAnyH_take (i := 11) (v := .agg (cellsOf R.testBit)) rfl (by kernel_rfl) (by kernel_rfl) (by kernel_rfl) (fun _ _ _ h => h) (Or.inl ⟨by rfl, fun u hSw => (by go_simp)⟩) hS ?_
            refine wpAnyH_ready (rs := [14]) (by kernel_rfl) (by simp) ?_
            refine AllReadyH.cons rfl (fun K hK => ?_) (AllReadyH.nil)
            have O120 := F6
            replace FA := FA.other (g' := g6) (cs' := cellsOf Q.testBit) (by omega)
            replace FO := FO.other (g' := g6) (cs' := cellsOf Q.testBit) (by omega)
            replace F7 := F7.other (g' := g6) (cs' := cellsOf Q.testBit) (by omega)
            replace F6 := F6.row (cs' := cellsOf Q.testBit)
            replace GB := below_row (g' := g6) (cs' := cellsOf Q.testBit) GB (by omega)
            refine keep_row rfl 38 (.tmp 6) (.tmp 18) rfl _ _ rfl rfl _ _ O120 (size_bits _) (by rw [cellsOf_size, cellsOf_size]) (cellsOf_one _) (hK.out _ _ FA (fun hS => ?_))
            clear hK K O120
            generalize w119.setRow (g6) (cellsOf Q.testBit) = U120 at FA FO F6 F7 GB hS ⊢
            refine wpAnyH_ready (rs := [15]) (by kernel_rfl) (by simp) ?_
            refine AllReadyH.cons rfl (fun K hK => ?_) (AllReadyH.nil)
            have O121 := F7
            replace FA := FA.other (g' := g7) (cs' := cellsOf R.testBit) (by omega)
            replace FO := FO.other (g' := g7) (cs' := cellsOf R.testBit) (by omega)
            replace F6 := F6.other (g' := g7) (cs' := cellsOf R.testBit) (by omega)
            replace F7 := F7.row (cs' := cellsOf R.testBit)
            replace GB := below_row (g' := g7) (cs' := cellsOf R.testBit) GB (by omega)
            refine keep_row rfl 38 (.tmp 7) (.tmp 19) rfl _ _ rfl rfl _ _ O121 (size_bits _) (by rw [cellsOf_size, cellsOf_size]) (cellsOf_one _) (hK.out _ _ FA (fun hS => ?_))
            clear hK K O121
            generalize U120.setRow (g7) (cellsOf R.testBit) = U121 at FA FO F6 F7 GB hS ⊢
            refine wpAnyH_done (by kernel_rfl) ?_ _
            go_wp2_with fail
            go_meet
            exact ⟨g6, g7, rfl, rfl, by omega, by omega, F6, F7, FO, GB⟩
        · skip
          go_simp
          have F7 := Blk.new w106 38 (cellsOf none_)
          have l7A : w.heap.size < w106.heap.size := FA.lt
          replace FA := FA.alloc (.cells (cellsOf none_) 38)
          have l7O : w.heap.size + 1 < w106.heap.size := FO.lt
          replace FO := FO.alloc (.cells (cellsOf none_) 38)
          have l76 : g6 < w106.heap.size := F6.lt
          replace F6 := F6.alloc (.cells (cellsOf none_) 38)
          have L7 := GB.size
          replace GB := GB.alloc GB.size (.cells (cellsOf none_) 38)
          refine hK.out _ _ FA (fun hS => ?_)
          clear hK K
          generalize w106.alloc (.cells (cellsOf none_) 38) = U122 at F7 FA FO F6 GB hS ⊢
          generalize w106.heap.size = g7 at F7 l7A l7O l76 L7 ⊢
          refine wpAnyH_ready (rs := [4]) (by kernel_rfl) (by simp) ?_
          refine AllReadyH.cons rfl (fun K hK => ?_) (AllReadyH.nil)
          go_simp
          refine (HPA.out _).mono ?_
          rintro e w123 ⟨rfl, h123⟩
          replace FA := FA.below h123 FA.lt
          replace FO := FO.below h123 FO.lt
          replace F6 := F6.below h123 F6.lt
          replace F7 := F7.below h123 F7.lt
          replace GB := GB.trans (h123.mono GB.size)
          clear h123
          refine hK.out _ _ FA (fun hS => ?_)
          clear hK K
          refine wpAnyH_ready (rs := [7]) (by kernel_rfl) (by simp) ?_
          refine AllReadyH.cons rfl (fun K hK => ?_) (AllReadyH.nil)
          go_simp
          refine (HBX.out _).mono ?_
          rintro e w124 ⟨rfl, h124⟩
          replace FA := FA.below h124 FA.lt
          replace FO := FO.below h124 FO.lt
          replace F6 := F6.below h124 F6.lt
          replace F7 := F7.below h124 F7.lt
          replace GB := GB.trans (h124.mono GB.size)
          clear h124
          refine hK.out _ _ FA (fun hS => ?_)
          clear hK K
          refine wpAnyH_ready (rs := [8]) (by kernel_rfl) (by simp) ?_
          refine AllReadyH.cons rfl (fun K hK => ?_) (AllReadyH.nil)
          go_simp
          refine (HQ.out _).mono ?_
          rintro e w125 ⟨rfl, h125⟩
          replace FA := FA.below h125 FA.lt
          replace FO := FO.below h125 FO.lt
          replace F6 := F6.below h125 F6.lt
          replace F7 := F7.below h125 F7.lt
          replace GB := GB.trans (h125.mono GB.size)
          clear h125
          refine hK.out _ _ FA (fun hS => ?_)
          clear hK K
          refine wpAnyH_take (i := 9) (v := .tuple #[.agg (cellsOf Q.testBit), .agg (cellsOf R.testBit)]) rfl (by kernel_rfl) (by kernel_rfl) (by kernel_rfl) (fun _ _ _ h => h) (Or.inl ⟨by rfl, fun u hSw => (by go_simp)⟩) hS ?_
          refine wpAnyH_take (i := 10) (v := .agg (cellsOf Q.testBit)) rfl (by kernel_rfl) (by kernel_rfl) (by kernel_rfl) (fun _ _ _ h => h) (Or.inl ⟨by rfl, fun u hSw => (by go_simp)⟩) hS ?_
          refine wpAnyH_take (i := 11) (v := .agg (cellsOf R.testBit)) rfl (by kernel_rfl) (by kernel_rfl) (by kernel_rfl) (fun _ _ _ h => h) (Or.inl ⟨by rfl, fun u hSw => (by go_simp)⟩) hS ?_
          refine wpAnyH_ready (rs := [14]) (by kernel_rfl) (by simp) ?_
          refine AllReadyH.cons rfl (fun K hK => ?_) (AllReadyH.nil)
          have O126 := F6
          replace FA := FA.other (g' := g6) (cs' := cellsOf Q.testBit) (by omega)
          replace FO := FO.other (g' := g6) (cs' := cellsOf Q.testBit) (by omega)
          replace F7 := F7.other (g' := g6) (cs' := cellsOf Q.testBit) (by omega)
          replace F6 := F6.row (cs' := cellsOf Q.testBit)
          replace GB := below_row (g' := g6) (cs' := cellsOf Q.testBit) GB (by omega)
          refine keep_row rfl 38 (.tmp 6) (.tmp 18) rfl _ _ rfl rfl _ _ O126 (size_bits _) (by rw [cellsOf_size, cellsOf_size]) (cellsOf_one _) (hK.out _ _ FA (fun hS => ?_))
          clear hK K O126
          generalize w125.setRow (g6) (cellsOf Q.testBit) = U126 at FA FO F6 F7 GB hS ⊢
          refine wpAnyH_ready (rs := [15]) (by kernel_rfl) (by simp) ?_
          refine AllReadyH.cons rfl (fun K hK => ?_) (AllReadyH.nil)
          have O127 := F7
          replace FA := FA.other (g' := g7) (cs' := cellsOf R.testBit) (by omega)
          replace FO := FO.other (g' := g7) (cs' := cellsOf R.testBit) (by omega)
          replace F6 := F6.other (g' := g7) (cs' := cellsOf R.testBit) (by omega)
          replace F7 := F7.row (cs' := cellsOf R.testBit)
          replace GB := below_row (g' := g7) (cs' := cellsOf R.testBit) GB (by omega)
          refine keep_row rfl 38 (.tmp 7) (.tmp 19) rfl _ _ rfl rfl _ _ O127 (size_bits _) (by rw [cellsOf_size, cellsOf_size]) (cellsOf_one _) (hK.out _ _ FA (fun hS => ?_))
          clear hK K O127
          generalize U126.setRow (g7) (cellsOf R.testBit) = U127 at FA FO F6 F7 GB hS ⊢
          refine wpAnyH_done (by kernel_rfl) ?_ _
          go_wp2_with fail
          go_meet
          exact ⟨g6, g7, rfl, rfl, by omega, by omega, F6, F7, FO, GB⟩
      · skip
        go_simp
        have F7 := Blk.new U105 38 (cellsOf none_)
        have l7A : w.heap.size < U105.heap.size := FA.lt
        replace FA := FA.alloc (.cells (cellsOf none_) 38)
        have l7O : w.heap.size + 1 < U105.heap.size := FO.lt
        replace FO := FO.alloc (.cells (cellsOf none_) 38)
        have l76 : g6 < U105.heap.size := F6.lt
        replace F6 := F6.alloc (.cells (cellsOf none_) 38)
        have L7 := GB.size
        replace GB := GB.alloc GB.size (.cells (cellsOf none_) 38)
        refine hK.out _ _ FA (fun hS => ?_)
        clear hK K
        generalize U105.alloc (.cells (cellsOf none_) 38) = U128 at F7 FA FO F6 GB hS ⊢
        generalize U105.heap.size = g7 at F7 l7A l7O l76 L7 ⊢
        refine wpAnyH_ready (rs := [2]) (by kernel_rfl) (by simp) ?_
        refine AllReadyH.cons rfl (fun K hK => ?_) (AllReadyH.nil)
        go_simp
        refine (HOA.out _).mono ?_
        rintro e w129 ⟨rfl, h129⟩
        replace FA := FA.below h129 FA.lt
        replace FO := FO.below h129 FO.lt
        replace F6 := F6.below h129 F6.lt
        replace F7 := F7.below h129 F7.lt
        replace GB := GB.trans (h129.mono GB.size)
        clear h129
        refine hK.out _ _ FA (fun hS => ?_)
        clear hK K
        refine wpAnyH_ready (rs := [4]) (by kernel_rfl) (by simp) ?_
        refine AllReadyH.cons rfl (fun K hK => ?_) (AllReadyH.nil)
        go_simp
        refine (HPA.out _).mono ?_
        rintro e w130 ⟨rfl, h130⟩
        replace FA := FA.below h130 FA.lt
        replace FO := FO.below h130 FO.lt
        replace F6 := F6.below h130 F6.lt
        replace F7 := F7.below h130 F7.lt
        replace GB := GB.trans (h130.mono GB.size)
        clear h130
        refine hK.out _ _ FA (fun hS => ?_)
        clear hK K
        refine wpAnyH_ready (rs := [7]) (by kernel_rfl) (by simp) ?_
        refine AllReadyH.cons rfl (fun K hK => ?_) (AllReadyH.nil)
        go_simp
        refine (HBX.out _).mono ?_
        rintro e w131 ⟨rfl, h131⟩
        replace FA := FA.below h131 FA.lt
        replace FO := FO.below h131 FO.lt
        replace F6 := F6.below h131 F6.lt
        replace F7 := F7.below h131 F7.lt
        replace GB := GB.trans (h131.mono GB.size)
        clear h131
        refine hK.out _ _ FA (fun hS => ?_)
        clear hK K
        refine wpAnyH_ready (rs := [8]) (by kernel_rfl) (by simp) ?_
        refine AllReadyH.cons rfl (fun K hK => ?_) (AllReadyH.nil)
        go_simp
        refine (HQ.out _).mono ?_
        rintro e w132 ⟨rfl, h132⟩
        replace FA := FA.below h132 FA.lt
        replace FO := FO.below h132 FO.lt
        replace F6 := F6.below h132 F6.lt
        replace F7 := F7.below h132 F7.lt
        replace GB := GB.trans (h132.mono GB.size)
        clear h132
        refine hK.out _ _ FA (fun hS => ?_)
        clear hK K
        refine wpAnyH_take (i := 9) (v := .tuple #[.agg (cellsOf Q.testBit), .agg (cellsOf R.testBit)]) rfl (by kernel_rfl) (by kernel_rfl) (by kernel_rfl) (fun _ _ _ h => h) (Or.inl ⟨by rfl, fun u hSw => (by go_simp)⟩) hS ?_
        refine wpAnyH_take (i := 10) (v := .agg (cellsOf Q.testBit)) rfl (by kernel_rfl) (by kernel_rfl) (by kernel_rfl) (fun _ _ _ h => h) (Or.inl ⟨by rfl, fun u hSw => (by go_simp)⟩) hS ?_
        refine wpAnyH_take (i := 11) (v := .agg (cellsOf R.testBit)) rfl (by kernel_rfl) (by kernel_rfl) (by kernel_rfl) (fun _ _ _ h => h) (Or.inl ⟨by rfl, fun u hSw => (by go_simp)⟩) hS ?_
        refine wpAnyH_ready (rs := [14]) (by kernel_rfl) (by simp) ?_
        refine AllReadyH.cons rfl (fun K hK => ?_) (AllReadyH.nil)
        have O133 := F6
        replace FA := FA.other (g' := g6) (cs' := cellsOf Q.testBit) (by omega)
        replace FO := FO.other (g' := g6) (cs' := cellsOf Q.testBit) (by omega)
        replace F7 := F7.other (g' := g6) (cs' := cellsOf Q.testBit) (by omega)
        replace F6 := F6.row (cs' := cellsOf Q.testBit)
        replace GB := below_row (g' := g6) (cs' := cellsOf Q.testBit) GB (by omega)
        refine keep_row rfl 38 (.tmp 6) (.tmp 18) rfl _ _ rfl rfl _ _ O133 (size_bits _) (by rw [cellsOf_size, cellsOf_size]) (cellsOf_one _) (hK.out _ _ FA (fun hS => ?_))
        clear hK K O133
        generalize w132.setRow (g6) (cellsOf Q.testBit) = U133 at FA FO F6 F7 GB hS ⊢
        refine wpAnyH_ready (rs := [15]) (by kernel_rfl) (by simp) ?_
        refine AllReadyH.cons rfl (fun K hK => ?_) (AllReadyH.nil)
        have O134 := F7
        replace FA := FA.other (g' := g7) (cs' := cellsOf R.testBit) (by omega)
        replace FO := FO.other (g' := g7) (cs' := cellsOf R.testBit) (by omega)
        replace F6 := F6.other (g' := g7) (cs' := cellsOf R.testBit) (by omega)
        replace F7 := F7.row (cs' := cellsOf R.testBit)
        replace GB := below_row (g' := g7) (cs' := cellsOf R.testBit) GB (by omega)
        refine keep_row rfl 38 (.tmp 7) (.tmp 19) rfl _ _ rfl rfl _ _ O134 (size_bits _) (by rw [cellsOf_size, cellsOf_size]) (cellsOf_one _) (hK.out _ _ FA (fun hS => ?_))
        clear hK K O134
        generalize U133.setRow (g7) (cellsOf R.testBit) = U134 at FA FO F6 F7 GB hS ⊢
        refine wpAnyH_done (by kernel_rfl) ?_ _
        go_wp2_with fail
        go_meet
        exact ⟨g6, g7, rfl, rfl, by omega, by omega, F6, F7, FO, GB⟩
    · skip
      go_simp
      have F7 := Blk.new V 38 (cellsOf none_)
      have l7A : w.heap.size < V.heap.size := FA.lt
      replace FA := FA.alloc (.cells (cellsOf none_) 38)
      have l7O : w.heap.size + 1 < V.heap.size := FO.lt
      replace FO := FO.alloc (.cells (cellsOf none_) 38)
      have L7 := GB.size
      replace GB := GB.alloc GB.size (.cells (cellsOf none_) 38)
      refine hK.out _ _ FA (fun hS => ?_)
      clear hK K
      generalize V.alloc (.cells (cellsOf none_) 38) = U135 at F7 FA FO GB hS ⊢
      generalize V.heap.size = g7 at F7 l7A l7O L7 ⊢
      refine wpAnyH_ready (rs := [2, 12]) (by kernel_rfl) (by simp) ?_
      refine AllReadyH.cons rfl (fun K hK => ?_) (AllReadyH.cons rfl (fun K hK => ?_) (AllReadyH.nil))
      · skip
        go_simp
        refine (HOA.out _).mono ?_
        rintro e w136 ⟨rfl, h136⟩
        replace FA := FA.below h136 FA.lt
        replace FO := FO.below h136 FO.lt
        replace F7 := F7.below h136 F7.lt
        replace GB := GB.trans (h136.mono GB.size)
        clear h136
        refine hK.out _ _ FA (fun hS => ?_)
        clear hK K
        refine wpAnyH_ready (rs := [4, 12]) (by kernel_rfl) (by simp) ?_
        refine AllReadyH.cons rfl (fun K hK => ?_) (AllReadyH.cons rfl (fun K hK => ?_) (AllReadyH.nil))
        · skip
          go_simp
          refine (HPA.out _).mono ?_
          rintro e w137 ⟨rfl, h137⟩
          replace FA := FA.below h137 FA.lt
          replace FO := FO.below h137 FO.lt
          replace F7 := F7.below h137 F7.lt
          replace GB := GB.trans (h137.mono GB.size)
          clear h137
          refine hK.out _ _ FA (fun hS => ?_)
          clear hK K
          refine wpAnyH_ready (rs := [7, 12]) (by kernel_rfl) (by simp) ?_
          refine AllReadyH.cons rfl (fun K hK => ?_) (AllReadyH.cons rfl (fun K hK => ?_) (AllReadyH.nil))
          · skip
            go_simp
            refine (HBX.out _).mono ?_
            rintro e w138 ⟨rfl, h138⟩
            replace FA := FA.below h138 FA.lt
            replace FO := FO.below h138 FO.lt
            replace F7 := F7.below h138 F7.lt
            replace GB := GB.trans (h138.mono GB.size)
            clear h138
            refine hK.out _ _ FA (fun hS => ?_)
            clear hK K
            refine wpAnyH_ready (rs := [8, 12]) (by kernel_rfl) (by simp) ?_
            refine AllReadyH.cons rfl (fun K hK => ?_) (AllReadyH.cons rfl (fun K hK => ?_) (AllReadyH.nil))
            · skip
              go_simp
              refine (HQ.out _).mono ?_
              rintro e w139 ⟨rfl, h139⟩
              replace FA := FA.below h139 FA.lt
              replace FO := FO.below h139 FO.lt
              replace F7 := F7.below h139 F7.lt
              replace GB := GB.trans (h139.mono GB.size)
              clear h139
              refine hK.out _ _ FA (fun hS => ?_)
              clear hK K
              refine wpAnyH_take (i := 9) (v := .tuple #[.agg (cellsOf Q.testBit), .agg (cellsOf R.testBit)]) rfl (by kernel_rfl) (by kernel_rfl) (by kernel_rfl) (fun _ _ _ h => h) (Or.inl ⟨by rfl, fun u hSw => (by go_simp)⟩) hS ?_
              refine wpAnyH_take (i := 10) (v := .agg (cellsOf Q.testBit)) rfl (by kernel_rfl) (by kernel_rfl) (by kernel_rfl) (fun _ _ _ h => h) (Or.inl ⟨by rfl, fun u hSw => (by go_simp)⟩) hS ?_
              refine wpAnyH_take (i := 11) (v := .agg (cellsOf R.testBit)) rfl (by kernel_rfl) (by kernel_rfl) (by kernel_rfl) (fun _ _ _ h => h) (Or.inl ⟨by rfl, fun u hSw => (by go_simp)⟩) hS ?_
              refine wpAnyH_ready (rs := [12]) (by kernel_rfl) (by simp) ?_
              refine AllReadyH.cons rfl (fun K hK => ?_) (AllReadyH.nil)
              go_simp
              have F6 := Blk.new w139 38 (cellsOf none_)
              have l6A : w.heap.size < w139.heap.size := FA.lt
              replace FA := FA.alloc (.cells (cellsOf none_) 38)
              have l6O : w.heap.size + 1 < w139.heap.size := FO.lt
              replace FO := FO.alloc (.cells (cellsOf none_) 38)
              have l67 : g7 < w139.heap.size := F7.lt
              replace F7 := F7.alloc (.cells (cellsOf none_) 38)
              have L6 := GB.size
              replace GB := GB.alloc GB.size (.cells (cellsOf none_) 38)
              refine hK.out _ _ FA (fun hS => ?_)
              clear hK K
              generalize w139.alloc (.cells (cellsOf none_) 38) = U140 at F6 FA FO F7 GB hS ⊢
              generalize w139.heap.size = g6 at F6 l6A l6O l67 L6 ⊢
              refine wpAnyH_ready (rs := [14]) (by kernel_rfl) (by simp) ?_
              refine AllReadyH.cons rfl (fun K hK => ?_) (AllReadyH.nil)
              have O141 := F6
              replace FA := FA.other (g' := g6) (cs' := cellsOf Q.testBit) (by omega)
              replace FO := FO.other (g' := g6) (cs' := cellsOf Q.testBit) (by omega)
              replace F7 := F7.other (g' := g6) (cs' := cellsOf Q.testBit) (by omega)
              replace F6 := F6.row (cs' := cellsOf Q.testBit)
              replace GB := below_row (g' := g6) (cs' := cellsOf Q.testBit) GB (by omega)
              refine keep_row rfl 38 (.tmp 6) (.tmp 18) rfl _ _ rfl rfl _ _ O141 (size_bits _) (by rw [cellsOf_size, cellsOf_size]) (cellsOf_one _) (hK.out _ _ FA (fun hS => ?_))
              clear hK K O141
              generalize U140.setRow (g6) (cellsOf Q.testBit) = U141 at FA FO F7 F6 GB hS ⊢
              refine wpAnyH_ready (rs := [15]) (by kernel_rfl) (by simp) ?_
              refine AllReadyH.cons rfl (fun K hK => ?_) (AllReadyH.nil)
              have O142 := F7
              replace FA := FA.other (g' := g7) (cs' := cellsOf R.testBit) (by omega)
              replace FO := FO.other (g' := g7) (cs' := cellsOf R.testBit) (by omega)
              replace F6 := F6.other (g' := g7) (cs' := cellsOf R.testBit) (by omega)
              replace F7 := F7.row (cs' := cellsOf R.testBit)
              replace GB := below_row (g' := g7) (cs' := cellsOf R.testBit) GB (by omega)
              refine keep_row rfl 38 (.tmp 7) (.tmp 19) rfl _ _ rfl rfl _ _ O142 (size_bits _) (by rw [cellsOf_size, cellsOf_size]) (cellsOf_one _) (hK.out _ _ FA (fun hS => ?_))
              clear hK K O142
              generalize U141.setRow (g7) (cellsOf R.testBit) = U142 at FA FO F7 F6 GB hS ⊢
              refine wpAnyH_done (by kernel_rfl) ?_ _
              go_wp2_with fail
              go_meet
              exact ⟨g6, g7, rfl, rfl, by omega, by omega, F6, F7, FO, GB⟩
            · skip
              go_simp
              have F6 := Blk.new w138 38 (cellsOf none_)
              have l6A : w.heap.size < w138.heap.size := FA.lt
              replace FA := FA.alloc (.cells (cellsOf none_) 38)
              have l6O : w.heap.size + 1 < w138.heap.size := FO.lt
              replace FO := FO.alloc (.cells (cellsOf none_) 38)
              have l67 : g7 < w138.heap.size := F7.lt
              replace F7 := F7.alloc (.cells (cellsOf none_) 38)
              have L6 := GB.size
              replace GB := GB.alloc GB.size (.cells (cellsOf none_) 38)
              refine hK.out _ _ FA (fun hS => ?_)
              clear hK K
              generalize w138.alloc (.cells (cellsOf none_) 38) = U143 at F6 FA FO F7 GB hS ⊢
              generalize w138.heap.size = g6 at F6 l6A l6O l67 L6 ⊢
              refine wpAnyH_ready (rs := [8]) (by kernel_rfl) (by simp) ?_
              refine AllReadyH.cons rfl (fun K hK => ?_) (AllReadyH.nil)
              go_simp
              refine (HQ.out _).mono ?_
              rintro e w144 ⟨rfl, h144⟩
              replace FA := FA.below h144 FA.lt
              replace FO := FO.below h144 FO.lt
              replace F7 := F7.below h144 F7.lt
              replace F6 := F6.below h144 F6.lt
              replace GB := GB.trans (h144.mono GB.size)
              clear h144
              refine hK.out _ _ FA (fun hS => ?_)
              clear hK K
              refine wpAnyH_take (i := 9) (v := .tuple #[.agg (cellsOf Q.testBit), .agg (cellsOf R.testBit)]) rfl (by kernel_rfl) (by kernel_rfl) (by kernel_rfl) (fun _ _ _ h => h) (Or.inl ⟨by rfl, fun u hSw => (by go_simp)⟩) hS ?_
              refine wpAnyH_take (i := 10) (v := .agg (cellsOf Q.testBit)) rfl (by kernel_rfl) (by kernel_rfl) (by kernel_rfl) (fun _ _ _ h => h) (Or.inl ⟨by rfl, fun u hSw => (by go_simp)⟩) hS ?_
              refine wpAnyH_take (i := 11) (v := .agg (cellsOf R.testBit)) rfl (by kernel_rfl) (by kernel_rfl) (by kernel_rfl) (fun _ _ _ h => h) (Or.inl ⟨by rfl, fun u hSw => (by go_simp)⟩) hS ?_
              refine wpAnyH_ready (rs := [14]) (by kernel_rfl) (by simp) ?_
              refine AllReadyH.cons rfl (fun K hK => ?_) (AllReadyH.nil)
              have O145 := F6
              replace FA := FA.other (g' := g6) (cs' := cellsOf Q.testBit) (by omega)
              replace FO := FO.other (g' := g6) (cs' := cellsOf Q.testBit) (by omega)
              replace F7 := F7.other (g' := g6) (cs' := cellsOf Q.testBit) (by omega)
              replace F6 := F6.row (cs' := cellsOf Q.testBit)
              replace GB := below_row (g' := g6) (cs' := cellsOf Q.testBit) GB (by omega)
              refine keep_row rfl 38 (.tmp 6) (.tmp 18) rfl _ _ rfl rfl _ _ O145 (size_bits _) (by rw [cellsOf_size, cellsOf_size]) (cellsOf_one _) (hK.out _ _ FA (fun hS => ?_))
              clear hK K O145
              generalize w144.setRow (g6) (cellsOf Q.testBit) = U145 at FA FO F7 F6 GB hS ⊢
              refine wpAnyH_ready (rs := [15]) (by kernel_rfl) (by simp) ?_
              refine AllReadyH.cons rfl (fun K hK => ?_) (AllReadyH.nil)
              have O146 := F7
              replace FA := FA.other (g' := g7) (cs' := cellsOf R.testBit) (by omega)
              replace FO := FO.other (g' := g7) (cs' := cellsOf R.testBit) (by omega)
              replace F6 := F6.other (g' := g7) (cs' := cellsOf R.testBit) (by omega)
              replace F7 := F7.row (cs' := cellsOf R.testBit)
              replace GB := below_row (g' := g7) (cs' := cellsOf R.testBit) GB (by omega)
              refine keep_row rfl 38 (.tmp 7) (.tmp 19) rfl _ _ rfl rfl _ _ O146 (size_bits _) (by rw [cellsOf_size, cellsOf_size]) (cellsOf_one _) (hK.out _ _ FA (fun hS => ?_))
              clear hK K O146
              generalize U145.setRow (g7) (cellsOf R.testBit) = U146 at FA FO F7 F6 GB hS ⊢
              refine wpAnyH_done (by kernel_rfl) ?_ _
              go_wp2_with fail
              go_meet
              exact ⟨g6, g7, rfl, rfl, by omega, by omega, F6, F7, FO, GB⟩
          · skip
            go_simp
            have F6 := Blk.new w137 38 (cellsOf none_)
            have l6A : w.heap.size < w137.heap.size := FA.lt
            replace FA := FA.alloc (.cells (cellsOf none_) 38)
            have l6O : w.heap.size + 1 < w137.heap.size := FO.lt
            replace FO := FO.alloc (.cells (cellsOf none_) 38)
            have l67 : g7 < w137.heap.size := F7.lt
            replace F7 := F7.alloc (.cells (cellsOf none_) 38)
            have L6 := GB.size
            replace GB := GB.alloc GB.size (.cells (cellsOf none_) 38)
            refine hK.out _ _ FA (fun hS => ?_)
            clear hK K
            generalize w137.alloc (.cells (cellsOf none_) 38) = U147 at F6 FA FO F7 GB hS ⊢
            generalize w137.heap.size = g6 at F6 l6A l6O l67 L6 ⊢
            refine wpAnyH_ready (rs := [7]) (by kernel_rfl) (by simp) ?_
            refine AllReadyH.cons rfl (fun K hK => ?_) (AllReadyH.nil)
            go_simp
            refine (HBX.out _).mono ?_
            rintro e w148 ⟨rfl, h148⟩
            replace FA := FA.below h148 FA.lt
            replace FO := FO.below h148 FO.lt
            replace F7 := F7.below h148 F7.lt
            replace F6 := F6.below h148 F6.lt
            replace GB := GB.trans (h148.mono GB.size)
            clear h148
            refine hK.out _ _ FA (fun hS => ?_)
            clear hK K
            refine wpAnyH_ready (rs := [8]) (by kernel_rfl) (by simp) ?_
            refine AllReadyH.cons rfl (fun K hK => ?_) (AllReadyH.nil)
            go_simp
            refine (HQ.out _).mono ?_
            rintro e w149 ⟨rfl, h149⟩
            replace FA := FA.below h149 FA.lt
            replace FO := FO.below h149 FO.lt
            replace F7 := F7.below h149 F7.lt
            replace F6 := F6.below h149 F6.lt
            replace GB := GB.trans (h149.mono GB.size)
            clear h149
            refine hK.out _ _ FA (fun hS => ?_)
            clear hK K
            refine wpAnyH_take (i := 9) (v := .tuple #[.agg (cellsOf Q.testBit), .agg (cellsOf R.testBit)]) rfl (by kernel_rfl) (by kernel_rfl) (by kernel_rfl) (fun _ _ _ h => h) (Or.inl ⟨by rfl, fun u hSw => (by go_simp)⟩) hS ?_
            refine wpAnyH_take (i := 10) (v := .agg (cellsOf Q.testBit)) rfl (by kernel_rfl) (by kernel_rfl) (by kernel_rfl) (fun _ _ _ h => h) (Or.inl ⟨by rfl, fun u hSw => (by go_simp)⟩) hS ?_
            refine wpAnyH_take (i := 11) (v := .agg (cellsOf R.testBit)) rfl (by kernel_rfl) (by kernel_rfl) (by kernel_rfl) (fun _ _ _ h => h) (Or.inl ⟨by rfl, fun u hSw => (by go_simp)⟩) hS ?_
            refine wpAnyH_ready (rs := [14]) (by kernel_rfl) (by simp) ?_
            refine AllReadyH.cons rfl (fun K hK => ?_) (AllReadyH.nil)
            have O150 := F6
            replace FA := FA.other (g' := g6) (cs' := cellsOf Q.testBit) (by omega)
            replace FO := FO.other (g' := g6) (cs' := cellsOf Q.testBit) (by omega)
            replace F7 := F7.other (g' := g6) (cs' := cellsOf Q.testBit) (by omega)
            replace F6 := F6.row (cs' := cellsOf Q.testBit)
            replace GB := below_row (g' := g6) (cs' := cellsOf Q.testBit) GB (by omega)
            refine keep_row rfl 38 (.tmp 6) (.tmp 18) rfl _ _ rfl rfl _ _ O150 (size_bits _) (by rw [cellsOf_size, cellsOf_size]) (cellsOf_one _) (hK.out _ _ FA (fun hS => ?_))
            clear hK K O150
            generalize w149.setRow (g6) (cellsOf Q.testBit) = U150 at FA FO F7 F6 GB hS ⊢
            refine wpAnyH_ready (rs := [15]) (by kernel_rfl) (by simp) ?_
            refine AllReadyH.cons rfl (fun K hK => ?_) (AllReadyH.nil)
            have O151 := F7
            replace FA := FA.other (g' := g7) (cs' := cellsOf R.testBit) (by omega)
            replace FO := FO.other (g' := g7) (cs' := cellsOf R.testBit) (by omega)
            replace F6 := F6.other (g' := g7) (cs' := cellsOf R.testBit) (by omega)
            replace F7 := F7.row (cs' := cellsOf R.testBit)
            replace GB := below_row (g' := g7) (cs' := cellsOf R.testBit) GB (by omega)
            refine keep_row rfl 38 (.tmp 7) (.tmp 19) rfl _ _ rfl rfl _ _ O151 (size_bits _) (by rw [cellsOf_size, cellsOf_size]) (cellsOf_one _) (hK.out _ _ FA (fun hS => ?_))
            clear hK K O151
            generalize U150.setRow (g7) (cellsOf R.testBit) = U151 at FA FO F7 F6 GB hS ⊢
            refine wpAnyH_done (by kernel_rfl) ?_ _
            go_wp2_with fail
            go_meet
            exact ⟨g6, g7, rfl, rfl, by omega, by omega, F6, F7, FO, GB⟩
        · skip
          go_simp
          have F6 := Blk.new w136 38 (cellsOf none_)
          have l6A : w.heap.size < w136.heap.size := FA.lt
          replace FA := FA.alloc (.cells (cellsOf none_) 38)
          have l6O : w.heap.size + 1 < w136.heap.size := FO.lt
          replace FO := FO.alloc (.cells (cellsOf none_) 38)
          have l67 : g7 < w136.heap.size := F7.lt
          replace F7 := F7.alloc (.cells (cellsOf none_) 38)
          have L6 := GB.size
          replace GB := GB.alloc GB.size (.cells (cellsOf none_) 38)
          refine hK.out _ _ FA (fun hS => ?_)
          clear hK K
          generalize w136.alloc (.cells (cellsOf none_) 38) = U152 at F6 FA FO F7 GB hS ⊢
          generalize w136.heap.size = g6 at F6 l6A l6O l67 L6 ⊢
          refine wpAnyH_ready (rs := [4]) (by kernel_rfl) (by simp) ?_
          refine AllReadyH.cons rfl (fun K hK => ?_) (AllReadyH.nil)
          go_simp
          refine (HPA.out _).mono ?_
          rintro e w153 ⟨rfl, h153⟩
          replace FA := FA.below h153 FA.lt
          replace FO := FO.below h153 FO.lt
          replace F7 := F7.below h153 F7.lt
          replace F6 := F6.below h153 F6.lt
          replace GB := GB.trans (h153.mono GB.size)
          clear h153
          refine hK.out _ _ FA (fun hS => ?_)
          clear hK K
          refine wpAnyH_ready (rs := [7]) (by kernel_rfl) (by simp) ?_
          refine AllReadyH.cons rfl (fun K hK => ?_) (AllReadyH.nil)
          go_simp
          refine (HBX.out _).mono ?_
          rintro e w154 ⟨rfl, h154⟩
          replace FA := FA.below h154 FA.lt
          replace FO := FO.below h154 FO.lt
          replace F7 := F7.below h154 F7.lt
          replace F6 := F6.below h154 F6.lt
          replace GB := GB.trans (h154.mono GB.size)
          clear h154
          refine hK.out _ _ FA (fun hS => ?_)
          clear hK K
          refine wpAnyH_ready (rs := [8]) (by kernel_rfl) (by simp) ?_
          refine AllReadyH.cons rfl (fun K hK => ?_) (AllReadyH.nil)
          go_simp
          refine (HQ.out _).mono ?_
          rintro e w155 ⟨rfl, h155⟩
          replace FA := FA.below h155 FA.lt
          replace FO := FO.below h155 FO.lt
          replace F7 := F7.below h155 F7.lt
          replace F6 := F6.below h155 F6.lt
          replace GB := GB.trans (h155.mono GB.size)
          clear h155
          refine hK.out _ _ FA (fun hS => ?_)
          clear hK K
          refine wpAnyH_take (i := 9) (v := .tuple #[.agg (cellsOf Q.testBit), .agg (cellsOf R.testBit)]) rfl (by kernel_rfl) (by kernel_rfl) (by kernel_rfl) (fun _ _ _ h => h) (Or.inl ⟨by rfl, fun u hSw => (by go_simp)⟩) hS ?_
          refine wpAnyH_take (i := 10) (v := .agg (cellsOf Q.testBit)) rfl (by kernel_rfl) (by kernel_rfl) (by kernel_rfl) (fun _ _ _ h => h) (Or.inl ⟨by rfl, fun u hSw => (by go_simp)⟩) hS ?_
          refine wpAnyH_take (i := 11) (v := .agg (cellsOf R.testBit)) rfl (by kernel_rfl) (by kernel_rfl) (by kernel_rfl) (fun _ _ _ h => h) (Or.inl ⟨by rfl, fun u hSw => (by go_simp)⟩) hS ?_
          refine wpAnyH_ready (rs := [14]) (by kernel_rfl) (by simp) ?_
          refine AllReadyH.cons rfl (fun K hK => ?_) (AllReadyH.nil)
          have O156 := F6
          replace FA := FA.other (g' := g6) (cs' := cellsOf Q.testBit) (by omega)
          replace FO := FO.other (g' := g6) (cs' := cellsOf Q.testBit) (by omega)
          replace F7 := F7.other (g' := g6) (cs' := cellsOf Q.testBit) (by omega)
          replace F6 := F6.row (cs' := cellsOf Q.testBit)
          replace GB := below_row (g' := g6) (cs' := cellsOf Q.testBit) GB (by omega)
          refine keep_row rfl 38 (.tmp 6) (.tmp 18) rfl _ _ rfl rfl _ _ O156 (size_bits _) (by rw [cellsOf_size, cellsOf_size]) (cellsOf_one _) (hK.out _ _ FA (fun hS => ?_))
          clear hK K O156
          generalize w155.setRow (g6) (cellsOf Q.testBit) = U156 at FA FO F7 F6 GB hS ⊢
          refine wpAnyH_ready (rs := [15]) (by kernel_rfl) (by simp) ?_
          refine AllReadyH.cons rfl (fun K hK => ?_) (AllReadyH.nil)
          have O157 := F7
          replace FA := FA.other (g' := g7) (cs' := cellsOf R.testBit) (by omega)
          replace FO := FO.other (g' := g7) (cs' := cellsOf R.testBit) (by omega)
          replace F6 := F6.other (g' := g7) (cs' := cellsOf R.testBit) (by omega)
          replace F7 := F7.row (cs' := cellsOf R.testBit)
          replace GB := below_row (g' := g7) (cs' := cellsOf R.testBit) GB (by omega)
          refine keep_row rfl 38 (.tmp 7) (.tmp 19) rfl _ _ rfl rfl _ _ O157 (size_bits _) (by rw [cellsOf_size, cellsOf_size]) (cellsOf_one _) (hK.out _ _ FA (fun hS => ?_))
          clear hK K O157
          generalize U156.setRow (g7) (cellsOf R.testBit) = U157 at FA FO F7 F6 GB hS ⊢
          refine wpAnyH_done (by kernel_rfl) ?_ _
          go_wp2_with fail
          go_meet
          exact ⟨g6, g7, rfl, rfl, by omega, by omega, F6, F7, FO, GB⟩
      · skip
        go_simp
        have F6 := Blk.new U135 38 (cellsOf none_)
        have l6A : w.heap.size < U135.heap.size := FA.lt
        replace FA := FA.alloc (.cells (cellsOf none_) 38)
        have l6O : w.heap.size + 1 < U135.heap.size := FO.lt
        replace FO := FO.alloc (.cells (cellsOf none_) 38)
        have l67 : g7 < U135.heap.size := F7.lt
        replace F7 := F7.alloc (.cells (cellsOf none_) 38)
        have L6 := GB.size
        replace GB := GB.alloc GB.size (.cells (cellsOf none_) 38)
        refine hK.out _ _ FA (fun hS => ?_)
        clear hK K
        generalize U135.alloc (.cells (cellsOf none_) 38) = U158 at F6 FA FO F7 GB hS ⊢
        generalize U135.heap.size = g6 at F6 l6A l6O l67 L6 ⊢
        refine wpAnyH_ready (rs := [2]) (by kernel_rfl) (by simp) ?_
        refine AllReadyH.cons rfl (fun K hK => ?_) (AllReadyH.nil)
        go_simp
        refine (HOA.out _).mono ?_
        rintro e w159 ⟨rfl, h159⟩
        replace FA := FA.below h159 FA.lt
        replace FO := FO.below h159 FO.lt
        replace F7 := F7.below h159 F7.lt
        replace F6 := F6.below h159 F6.lt
        replace GB := GB.trans (h159.mono GB.size)
        clear h159
        refine hK.out _ _ FA (fun hS => ?_)
        clear hK K
        refine wpAnyH_ready (rs := [4]) (by kernel_rfl) (by simp) ?_
        refine AllReadyH.cons rfl (fun K hK => ?_) (AllReadyH.nil)
        go_simp
        refine (HPA.out _).mono ?_
        rintro e w160 ⟨rfl, h160⟩
        replace FA := FA.below h160 FA.lt
        replace FO := FO.below h160 FO.lt
        replace F7 := F7.below h160 F7.lt
        replace F6 := F6.below h160 F6.lt
        replace GB := GB.trans (h160.mono GB.size)
        clear h160
        refine hK.out _ _ FA (fun hS => ?_)
        clear hK K
        refine wpAnyH_ready (rs := [7]) (by kernel_rfl) (by simp) ?_
        refine AllReadyH.cons rfl (fun K hK => ?_) (AllReadyH.nil)
        go_simp
        refine (HBX.out _).mono ?_
        rintro e w161 ⟨rfl, h161⟩
        replace FA := FA.below h161 FA.lt
        replace FO := FO.below h161 FO.lt
        replace F7 := F7.below h161 F7.lt
        replace F6 := F6.below h161 F6.lt
        replace GB := GB.trans (h161.mono GB.size)
        clear h161
        refine hK.out _ _ FA (fun hS => ?_)
        clear hK K
        refine wpAnyH_ready (rs := [8]) (by kernel_rfl) (by simp) ?_
        refine AllReadyH.cons rfl (fun K hK => ?_) (AllReadyH.nil)
        go_simp
        refine (HQ.out _).mono ?_
        rintro e w162 ⟨rfl, h162⟩
        replace FA := FA.below h162 FA.lt
        replace FO := FO.below h162 FO.lt
        replace F7 := F7.below h162 F7.lt
        replace F6 := F6.below h162 F6.lt
        replace GB := GB.trans (h162.mono GB.size)
        clear h162
        refine hK.out _ _ FA (fun hS => ?_)
        clear hK K
        refine wpAnyH_take (i := 9) (v := .tuple #[.agg (cellsOf Q.testBit), .agg (cellsOf R.testBit)]) rfl (by kernel_rfl) (by kernel_rfl) (by kernel_rfl) (fun _ _ _ h => h) (Or.inl ⟨by rfl, fun u hSw => (by go_simp)⟩) hS ?_
        refine wpAnyH_take (i := 10) (v := .agg (cellsOf Q.testBit)) rfl (by kernel_rfl) (by kernel_rfl) (by kernel_rfl) (fun _ _ _ h => h) (Or.inl ⟨by rfl, fun u hSw => (by go_simp)⟩) hS ?_
        refine wpAnyH_take (i := 11) (v := .agg (cellsOf R.testBit)) rfl (by kernel_rfl) (by kernel_rfl) (by kernel_rfl) (fun _ _ _ h => h) (Or.inl ⟨by rfl, fun u hSw => (by go_simp)⟩) hS ?_
        refine wpAnyH_ready (rs := [14]) (by kernel_rfl) (by simp) ?_
        refine AllReadyH.cons rfl (fun K hK => ?_) (AllReadyH.nil)
        have O163 := F6
        replace FA := FA.other (g' := g6) (cs' := cellsOf Q.testBit) (by omega)
        replace FO := FO.other (g' := g6) (cs' := cellsOf Q.testBit) (by omega)
        replace F7 := F7.other (g' := g6) (cs' := cellsOf Q.testBit) (by omega)
        replace F6 := F6.row (cs' := cellsOf Q.testBit)
        replace GB := below_row (g' := g6) (cs' := cellsOf Q.testBit) GB (by omega)
        refine keep_row rfl 38 (.tmp 6) (.tmp 18) rfl _ _ rfl rfl _ _ O163 (size_bits _) (by rw [cellsOf_size, cellsOf_size]) (cellsOf_one _) (hK.out _ _ FA (fun hS => ?_))
        clear hK K O163
        generalize w162.setRow (g6) (cellsOf Q.testBit) = U163 at FA FO F7 F6 GB hS ⊢
        refine wpAnyH_ready (rs := [15]) (by kernel_rfl) (by simp) ?_
        refine AllReadyH.cons rfl (fun K hK => ?_) (AllReadyH.nil)
        have O164 := F7
        replace FA := FA.other (g' := g7) (cs' := cellsOf R.testBit) (by omega)
        replace FO := FO.other (g' := g7) (cs' := cellsOf R.testBit) (by omega)
        replace F6 := F6.other (g' := g7) (cs' := cellsOf R.testBit) (by omega)
        replace F7 := F7.row (cs' := cellsOf R.testBit)
        replace GB := below_row (g' := g7) (cs' := cellsOf R.testBit) GB (by omega)
        refine keep_row rfl 38 (.tmp 7) (.tmp 19) rfl _ _ rfl rfl _ _ O164 (size_bits _) (by rw [cellsOf_size, cellsOf_size]) (cellsOf_one _) (hK.out _ _ FA (fun hS => ?_))
        clear hK K O164
        generalize U163.setRow (g7) (cellsOf R.testBit) = U164 at FA FO F7 F6 GB hS ⊢
        refine wpAnyH_done (by kernel_rfl) ?_ _
        go_wp2_with fail
        go_meet
        exact ⟨g6, g7, rfl, rfl, by omega, by omega, F6, F7, FO, GB⟩
  case rest =>
    clear FA FO GB HOA HPA HBX HQ
    obtain ⟨g6, g7, rfl, rfl, l6, l7, F6, F7, FO, GB⟩ := hcut
    by_cases hr : R = 0
    · have HR0 := Lib.hid hr
      obtain rfl : S = Q := by have := HR.out.2.2; rw [if_pos hr] at this; omega
      clear hr
      go_wp2_with (first
        | (refine BigFrame.wpList_want rfl (fun K hK => wp_load_row 38 (.tmp 7) rfl _ rfl _ _ (0, 0) _ F7 Try.underlying38 rfl (size_bits _) (hK _ _ ?_)))
        | (refine BigFrame.wpList_want rfl (fun K hK => wp_neq_row (.tmp 20) (.tmp 21) 38 rfl _ _ rfl rfl (bits_none HR0.out) (hK _ _ ?_)))
        | (refine wpList_load_row rfl 38 (.tmp 6) rfl _ rfl _ _ (0, 0) _ F6 Try.underlying38 rfl (size_bits _) ?_))
      refine (HN.out _).mono ?_
      rintro e w9 ⟨rfl, h9⟩
      have K8 := FO.below h9 FO.lt
      have KB := GB.trans (h9.mono GB.size)
      clear h9
      have x0 := K8.cell 0
      have x1 := K8.cell 1
      have f0 := K8.frozen 0
      have f1 := K8.frozen 1
      have x0' : w9.cell? ⟨w.heap.size + 1, 0, none⟩ = some (.int .u64 0) := x0
      have x1' : w9.cell? ⟨w.heap.size + 1, 1, none⟩ = some (.int .u64 0) := x1
      clear x0 x1
      have hl9 := K8.lt
      have HK := Lib.hid (And.intro (K8.set2 (x := .int .u64 (rh : Int)) (y := .int .u64 (rl : Int))) ((KB.setCell (p := ⟨w.heap.size + 1, 0, none⟩) (by simp) (.int .u64 (rh : Int))).setCell (p := ⟨w.heap.size + 1, 1, none⟩) (by simp) (.int .u64 (rl : Int))))
      clear K8 KB
      go_wp2_with fail
      exact bodyPost_ret (v := .tuple #[.agg #[.int .u64 (rh : Int), .int .u64 (rl : Int)], .bool rb]) (results_cell_row_tmp Try.results25 _ _ _ _ _ _ rfl HK.out.1 Try.underlying24 rfl (by kernel_rfl)) rfl ⟨rfl, HK.out.2⟩
    · have HR0 := Lib.hid hr
      have hS1 : Q + 1 = S := by have := HR.out.2.2; rw [if_neg hr] at this; omega
      rw [← hS1] at HN
      clear hr hS1
      go_wp2_with (first
        | (refine BigFrame.wpList_want rfl (fun K hK => wp_load_row 38 (.tmp 7) rfl _ rfl _ _ (0, 0) _ F7 Try.underlying38 rfl (size_bits _) (hK _ _ ?_)))
        | (refine BigFrame.wpList_want rfl (fun K hK => wp_neq_row (.tmp 20) (.tmp 21) 38 rfl _ _ rfl rfl (bits_some (Nat.lt_trans HR.out.1 HR.out.2.1) HR0.out) (hK _ _ ?_))))
      clear F7
      refine wp_region_any (by kernel_rfl) ?_
      change wpAny _ _ _ _ _ _ _ (World.drew _)
      replace F6 : Blk (World.drew _) _ _ _ := F6
      replace FO : Blk (World.drew _) _ _ _ := FO
      replace GB := GB.drew
      generalize World.drew _ = V at F6 FO GB ⊢
      refine wpAny_ready (rs := [0, 1]) (by kernel_rfl) (by simp) ?_
      refine AllReady.cons rfl (fun K hK => ?_) (AllReady.cons rfl (fun K hK => ?_) AllReady.nil)
      · skip
        refine step_load_row rfl 38 (.tmp 6) rfl _ rfl _ _ (0, 0) _ F6 Try.underlying38 rfl (size_bits _) (hK _ _ ?_)
        clear hK K
        refine wpAny_ready (rs := [1]) (by kernel_rfl) (by simp) ?_
        refine AllReady.cons rfl (fun K hK => ?_) AllReady.nil
        go_simp
        refine (HB1.out _).mono ?_
        rintro e w6 ⟨rfl, h6⟩
        refine hK _ _ ?_
        clear hK K
        replace GB := GB.trans (h6.mono GB.size)
        replace F6 := F6.below h6 F6.lt
        replace FO := FO.below h6 FO.lt
        clear h6
        refine wpAny_ready (rs := [2]) (by kernel_rfl) (by simp) ?_
        refine AllReady.cons rfl (fun K hK => ?_) AllReady.nil
        go_simp
        refine (HS.out _).mono ?_
        rintro e w7 ⟨rfl, h7⟩
        refine hK _ _ ?_
        clear hK K
        replace GB := GB.trans (h7.mono GB.size)
        replace F6 := F6.below h7 F6.lt
        replace FO := FO.below h7 FO.lt
        clear h7
        refine wpAny_ready (rs := [3]) (by kernel_rfl) (by simp) ?_
        refine AllReady.cons rfl (fun K hK => ?_) AllReady.nil
        refine step_store_row rfl 38 (.tmp 6) (.tmp 25) rfl _ _ rfl rfl _ _ F6 (size_bits _) (by rw [cellsOf_size, cellsOf_size]) (cellsOf_one _) (hK _ _ ?_)
        clear hK K
        refine wpAny_done (by kernel_rfl) ?_ _
        have G6 := F6.row (cs' := cellsOf (Q + 1).testBit)
        have GO := FO.other (g' := g6) (cs' := cellsOf (Q + 1).testBit) (by omega)
        have GG := below_row (g' := g6) (cs' := cellsOf (Q + 1).testBit) GB (by omega)
        clear F6 FO GB
        go_wp2_with (first
          | (refine wpList_load_row rfl 38 (.tmp 6) rfl _ rfl _ _ (0, 0) _ G6 Try.underlying38 rfl (size_bits _) ?_))
        refine (HN.out _).mono ?_
        rintro e w9 ⟨rfl, h9⟩
        have K8 := GO.below h9 GO.lt
        have KB := GG.trans (h9.mono GG.size)
        clear h9
        have x0 := K8.cell 0
        have x1 := K8.cell 1
        have f0 := K8.frozen 0
        have f1 := K8.frozen 1
        have x0' : w9.cell? ⟨w.heap.size + 1, 0, none⟩ = some (.int .u64 0) := x0
        have x1' : w9.cell? ⟨w.heap.size + 1, 1, none⟩ = some (.int .u64 0) := x1
        clear x0 x1
        have hl9 := K8.lt
        have HK := Lib.hid (And.intro (K8.set2 (x := .int .u64 (rh : Int)) (y := .int .u64 (rl : Int))) ((KB.setCell (p := ⟨w.heap.size + 1, 0, none⟩) (by simp) (.int .u64 (rh : Int))).setCell (p := ⟨w.heap.size + 1, 1, none⟩) (by simp) (.int .u64 (rl : Int))))
        clear K8 KB
        go_wp2_with fail
        exact bodyPost_ret (v := .tuple #[.agg #[.int .u64 (rh : Int), .int .u64 (rl : Int)], .bool rb]) (results_cell_row_tmp Try.results25 _ _ _ _ _ _ rfl HK.out.1 Try.underlying24 rfl (by kernel_rfl)) rfl ⟨rfl, HK.out.2⟩
      · skip
        go_simp
        refine (HB1.out _).mono ?_
        rintro e w6 ⟨rfl, h6⟩
        refine hK _ _ ?_
        clear hK K
        replace GB := GB.trans (h6.mono GB.size)
        replace F6 := F6.below h6 F6.lt
        replace FO := FO.below h6 FO.lt
        clear h6
        refine wpAny_ready (rs := [0]) (by kernel_rfl) (by simp) ?_
        refine AllReady.cons rfl (fun K hK => ?_) AllReady.nil
        refine step_load_row rfl 38 (.tmp 6) rfl _ rfl _ _ (0, 0) _ F6 Try.underlying38 rfl (size_bits _) (hK _ _ ?_)
        clear hK K
        refine wpAny_ready (rs := [2]) (by kernel_rfl) (by simp) ?_
        refine AllReady.cons rfl (fun K hK => ?_) AllReady.nil
        go_simp
        refine (HS.out _).mono ?_
        rintro e w7 ⟨rfl, h7⟩
        refine hK _ _ ?_
        clear hK K
        replace GB := GB.trans (h7.mono GB.size)
        replace F6 := F6.below h7 F6.lt
        replace FO := FO.below h7 FO.lt
        clear h7
        refine wpAny_ready (rs := [3]) (by kernel_rfl) (by simp) ?_
        refine AllReady.cons rfl (fun K hK => ?_) AllReady.nil
        refine step_store_row rfl 38 (.tmp 6) (.tmp 25) rfl _ _ rfl rfl _ _ F6 (size_bits _) (by rw [cellsOf_size, cellsOf_size]) (cellsOf_one _) (hK _ _ ?_)
        clear hK K
        refine wpAny_done (by kernel_rfl) ?_ _
        have G6 := F6.row (cs' := cellsOf (Q + 1).testBit)
        have GO := FO.other (g' := g6) (cs' := cellsOf (Q + 1).testBit) (by omega)
        have GG := below_row (g' := g6) (cs' := cellsOf (Q + 1).testBit) GB (by omega)
        clear F6 FO GB
        go_wp2_with (first
          | (refine wpList_load_row rfl 38 (.tmp 6) rfl _ rfl _ _ (0, 0) _ G6 Try.underlying38 rfl (size_bits _) ?_))
        refine (HN.out _).mono ?_
        rintro e w9 ⟨rfl, h9⟩
        have K8 := GO.below h9 GO.lt
        have KB := GG.trans (h9.mono GG.size)
        clear h9
        have x0 := K8.cell 0
        have x1 := K8.cell 1
        have f0 := K8.frozen 0
        have f1 := K8.frozen 1
        have x0' : w9.cell? ⟨w.heap.size + 1, 0, none⟩ = some (.int .u64 0) := x0
        have x1' : w9.cell? ⟨w.heap.size + 1, 1, none⟩ = some (.int .u64 0) := x1
        clear x0 x1
        have hl9 := K8.lt
        have HK := Lib.hid (And.intro (K8.set2 (x := .int .u64 (rh : Int)) (y := .int .u64 (rl : Int))) ((KB.setCell (p := ⟨w.heap.size + 1, 0, none⟩) (by simp) (.int .u64 (rh : Int))).setCell (p := ⟨w.heap.size + 1, 1, none⟩) (by simp) (.int .u64 (rl : Int))))
        clear K8 KB
        go_wp2_with fail
        exact bodyPost_ret (v := .tuple #[.agg #[.int .u64 (rh : Int), .int .u64 (rl : Int)], .bool rb]) (results_cell_row_tmp Try.results25 _ _ _ _ _ _ rfl HK.out.1 Try.underlying24 rfl (by kernel_rfl)) rfl ⟨rfl, HK.out.2⟩

end Go.Proofs.Ytodhkdaipmeblaa
