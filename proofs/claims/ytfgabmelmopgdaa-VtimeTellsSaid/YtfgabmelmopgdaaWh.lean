/-
  The contracts of the landed wide's scaling. No statement is proved here.
-/
import Derived.Test.YtfgabmelmopgdaaWg
namespace Go.Proofs.Ytfgabmelmopgdaa
open Go.RowKit

/-- a times m over d, rounded down, or up -/
def scaleN (a m d : Nat) (up : Bool) : Nat := a * m / d + (if up = true ∧ a * m % d ≠ 0 then 1 else 0)
set_option maxRecDepth 100000 in
theorem scaleN_down (a m d : Nat) : scaleN a m d false = a * m / d := by unfold scaleN; rw [if_neg (fun h => by simp at h), Nat.add_zero]
set_option maxRecDepth 100000 in
theorem scaleN_even {a m d : Nat} (up : Bool) (h : a * m % d = 0) : scaleN a m d up = a * m / d := by unfold scaleN; rw [if_neg (fun h2 => h2.2 h), Nat.add_zero]
set_option maxRecDepth 100000 in
theorem scaleN_up {a m d : Nat} (h : a * m % d ≠ 0) : scaleN a m d true = a * m / d + 1 := by unfold scaleN; rw [if_pos ⟨rfl, h⟩]
set_option maxRecDepth 100000 in
theorem scaleN_ge (a m d : Nat) (up : Bool) : a * m / d ≤ scaleN a m d up := Nat.le_add_right _ _

set_option maxRecDepth 100000 in
theorem scale_nought (hi lo m : Nat) (w : World) :
    Calls Try.prog 81 #[.agg #[.int .u64 (hi : Int), .int .u64 (lo : Int)], .int .u64 (m : Int), .int .u64 0] w (Ans (.tuple #[.agg #[.int .u64 0, .int .u64 0], .int .i64 130]) w) := by
  go_enter Try.func81, Try.ntmps81
  go_wp2
  exact bodyPost_ret (v := .tuple #[.agg #[.int .u64 0, .int .u64 0], .int .i64 130]) (by simp [results, Try.results81, go_sem]) rfl ⟨rfl, (blks2 w _ _ _ _).2.2⟩

set_option maxRecDepth 100000 in
/-- a product of 128 and 64 bits, in words -/
theorem product_words {ah al m : Nat} (hah : ah < 18446744073709551616) (hal : al < 18446744073709551616) (hm : m < 18446744073709551616) :
    ∃ lh ll ph pl uh ul : Nat, al * m = lh * 18446744073709551616 + ll ∧ ll < 18446744073709551616 ∧ lh < 18446744073709551616 ∧ ah * m = ph * 18446744073709551616 + pl ∧ pl < 18446744073709551616 ∧ ph < 18446744073709551616 ∧
      ph * 18446744073709551616 + pl + (0 * 18446744073709551616 + lh) = uh * 18446744073709551616 + ul ∧ ul < 18446744073709551616 ∧ uh < 18446744073709551616 ∧
      (ah * 18446744073709551616 + al) * m = (uh * 18446744073709551616 + ul) * 18446744073709551616 + ll := by
  have h1 : al * m ≤ 18446744073709551615 * 18446744073709551615 := Nat.mul_le_mul (by omega) (by omega)
  have h2 : ah * m ≤ 18446744073709551615 * 18446744073709551615 := Nat.mul_le_mul (by omega) (by omega)
  have h3 : (ah * 18446744073709551616 + al) * m = ah * m * 18446744073709551616 + al * m := by rw [Nat.add_mul, Nat.mul_right_comm]
  rw [h3]
  obtain ⟨L, hL⟩ : ∃ L, al * m = L := ⟨_, rfl⟩
  obtain ⟨H, hH⟩ : ∃ H, ah * m = H := ⟨_, rfl⟩
  rw [hL] at h1 ⊢
  rw [hH] at h2 ⊢
  clear h3 hL hH hah hal hm
  refine ⟨L / 18446744073709551616, L % 18446744073709551616, H / 18446744073709551616, H % 18446744073709551616, (H + L / 18446744073709551616) / 18446744073709551616, (H + L / 18446744073709551616) % 18446744073709551616, ?_⟩
  omega

set_option maxRecDepth 100000 in
theorem scale_big {N uh ul ll d : Nat} (hd : 0 < d) (h : d ≤ uh) (e : N = (uh * 18446744073709551616 + ul) * 18446744073709551616 + ll) : 340282366920938463463374607431768211456 ≤ N / d := by
  rw [Nat.le_div_iff_mul_le hd, e]
  omega

set_option maxHeartbeats 2000000 in
set_option maxRecDepth 100000 in
theorem scale_any (ah al m d zh zl : Nat) (c : Int) (hah : ah < 18446744073709551616) (hal : al < 18446744073709551616) (hm : m < 18446744073709551616) (hd0 : 0 < d) (hd : d < 18446744073709551616)
    (hN : Num (scaleN (ah * 18446744073709551616 + al) m d true) zh zl c) (w : World) :
    Calls Try.prog 81 #[.agg #[.int .u64 (ah : Int), .int .u64 (al : Int)], .int .u64 (m : Int), .int .u64 (d : Int)] w (Ans (.tuple #[.agg #[.int .u64 (zh : Int), .int .u64 (zl : Int)], .int .i64 c]) w) := by
  obtain ⟨lh, ll, ph, pl, uh, ul, e1, hll, hlh, e2, hpl, hph, e3, hul, huh, e4⟩ := product_words hah hal hm
  have HL := Lib.hid (fun u => mul_any al m lh ll hal hm hll e1 u)
  have HP := Lib.hid (fun u => mul_any ah m ph pl hah hm hpl e2 u)
  have HO := Lib.hid (fun u => of_wide lh u)
  have HA : Hid (∀ u, Calls Try.prog 62 #[.agg #[.int .u64 (ph : Int), .int .u64 (pl : Int)], .agg #[.int .u64 0, .int .u64 (lh : Int)]] u (Ans (.tuple #[.agg #[.int .u64 (uh : Int), .int .u64 (ul : Int)], .int .i64 0]) u)) :=
    Lib.hid (fun u => add_fits ph pl 0 lh uh ul hpl hlh hul huh e3 u)
  have hw := div_words (hi := uh * 18446744073709551616 + ul) (lo := ll) hd0
  rw [← e4] at hw
  obtain ⟨U, hU⟩ : ∃ U, uh * 18446744073709551616 + ul = U := ⟨_, rfl⟩
  have e0 : ((d : Int) == 0) = false := by simp; omega
  obtain ⟨b1, b2, bb⟩ := blks2 w 34 34 #[.int .u64 (ah : Int), .int .u64 (al : Int)] #[.int .u64 0, .int .u64 0]
  have HB := Lib.hid (And.intro b1 (And.intro b2 bb))
  have HM := Lib.hid (And.intro hw (And.intro hU (And.intro hll (And.intro hd0 (And.intro hd hN)))))
  have HV := Lib.hid (And.intro hul (And.intro huh e4))
  clear hah hal hm hd0 hd hN e1 e2 e3 e4 hll hlh hpl hph hul huh b1 b2 bb hw hU
  go_enter Try.func81, Try.ntmps81
  go_wp2_with fail
  refine (HL.out _).mono ?_
  rintro e w1 ⟨rfl, h1⟩
  have FA := HB.out.1.below h1 HB.out.1.lt
  have FO := HB.out.2.1.below h1 HB.out.2.1.lt
  have GB := HB.out.2.2.trans (h1.mono HB.out.2.2.size)
  clear h1
  go_upto_region 4 with fail
  have FL := Blk.new w1 34 #[.int .u64 (lh : Int), .int .u64 (ll : Int)]
  have l1 := FA.lt
  have l2 := FO.lt
  replace FA := FA.alloc (.cells #[.int .u64 (lh : Int), .int .u64 (ll : Int)] 34)
  replace FO := FO.alloc (.cells #[.int .u64 (lh : Int), .int .u64 (ll : Int)] 34)
  replace GB := GB.alloc GB.size (.cells #[.int .u64 (lh : Int), .int .u64 (ll : Int)] 34)
  generalize w1.alloc (.cells #[.int .u64 (lh : Int), .int .u64 (ll : Int)] 34) = V0 at FA FO FL GB ⊢
  generalize w1.heap.size = gL at FL l1 l2 ⊢
  replace FA : Blk V0.drew _ _ _ := FA
  replace FO : Blk V0.drew _ _ _ := FO
  replace FL : Blk V0.drew _ _ _ := FL
  replace GB := GB.drew
  go_cut [9] (fun s9 wx => ∃ g9 : Nat, s9 = .pointer (some ⟨g9, 0, none⟩) ∧ gL < g9 ∧ Blk wx g9 34 #[.int .u64 (uh : Int), .int .u64 (ul : Int)] ∧ Blk wx gL 34 #[.int .u64 (lh : Int), .int .u64 (ll : Int)] ∧ Blk wx (w.heap.size + 1) 34 #[.int .u64 0, .int .u64 0] ∧ Below w.heap.size w wx)
  case first =>
    refine wp_region_held_drew (S := fun W => Blk W w.heap.size 34 #[.int .u64 (ah : Int), .int .u64 (al : Int)] ∧ Blk W gL 34 #[.int .u64 (lh : Int), .int .u64 (ll : Int)]) (by kernel_rfl) ⟨FA, FL⟩ (fun hS => ?_)
    generalize V0.drew = V at FA FO FL GB hS ⊢
    refine wpAnyH_take (i := 0) (v := .pointer (some ⟨w.heap.size, 0, none⟩)) rfl (by kernel_rfl) (by kernel_rfl) (by kernel_rfl) (fun _ _ _ h => h) (Or.inl ⟨by rfl, fun u hSw => (by go_simp)⟩) hS ?_
    refine wpAnyH_take (i := 1) (v := .int .u64 (ah : Int)) rfl (by kernel_rfl) (by kernel_rfl) (by kernel_rfl) (fun _ _ _ h => h) (Or.inl ⟨by rfl, fun u hSw => (by have c : u.cell? ⟨w.heap.size, 0, none⟩ = some (.int .u64 (ah : Int)) := hSw.1.cell 0; go_simp)⟩) hS ?_
    refine wpAnyH_take (i := 2) (v := .int .u64 (m : Int)) rfl (by kernel_rfl) (by kernel_rfl) (by kernel_rfl) (fun _ _ _ h => h) (Or.inl ⟨by rfl, fun u hSw => (by go_simp)⟩) hS ?_
    refine wpAnyH_take (i := 4) (v := .pointer (some ⟨gL, 0, none⟩)) rfl (by kernel_rfl) (by kernel_rfl) (by kernel_rfl) (fun _ _ _ h => h) (Or.inl ⟨by rfl, fun u hSw => (by go_simp)⟩) hS ?_
    refine wpAnyH_take (i := 5) (v := .int .u64 (lh : Int)) rfl (by kernel_rfl) (by kernel_rfl) (by kernel_rfl) (fun _ _ _ h => h) (Or.inl ⟨by rfl, fun u hSw => (by have c : u.cell? ⟨gL, 0, none⟩ = some (.int .u64 (lh : Int)) := hSw.2.cell 0; go_simp)⟩) hS ?_
    refine wpAnyH_ready (rs := [3, 11]) (by kernel_rfl) (by simp) ?_
    refine AllReadyH.cons rfl (fun K hK => ?_) (AllReadyH.cons rfl (fun K hK => ?_) (AllReadyH.nil))
    · skip
      go_simp
      refine (HP.out _).mono ?_
      rintro e w1 ⟨rfl, h1⟩
      replace FA := FA.below h1 FA.lt
      replace FL := FL.below h1 FL.lt
      replace FO := FO.below h1 FO.lt
      replace GB := GB.trans (h1.mono GB.size)
      clear h1
      refine hK.out _ _ ⟨FA, FL⟩ (fun hS => ?_)
      clear hK K
      refine wpAnyH_ready (rs := [6, 11]) (by kernel_rfl) (by simp) ?_
      refine AllReadyH.cons rfl (fun K hK => ?_) (AllReadyH.cons rfl (fun K hK => ?_) (AllReadyH.nil))
      · skip
        go_simp
        refine (HO.out _).mono ?_
        rintro e w2 ⟨rfl, h2⟩
        replace FA := FA.below h2 FA.lt
        replace FL := FL.below h2 FL.lt
        replace FO := FO.below h2 FO.lt
        replace GB := GB.trans (h2.mono GB.size)
        clear h2
        refine hK.out _ _ ⟨FA, FL⟩ (fun hS => ?_)
        clear hK K
        refine wpAnyH_ready (rs := [7, 11]) (by kernel_rfl) (by simp) ?_
        refine AllReadyH.cons rfl (fun K hK => ?_) (AllReadyH.cons rfl (fun K hK => ?_) (AllReadyH.nil))
        · skip
          go_simp
          refine (HA.out _).mono ?_
          rintro e w3 ⟨rfl, h3⟩
          replace FA := FA.below h3 FA.lt
          replace FL := FL.below h3 FL.lt
          replace FO := FO.below h3 FO.lt
          replace GB := GB.trans (h3.mono GB.size)
          clear h3
          refine hK.out _ _ ⟨FA, FL⟩ (fun hS => ?_)
          clear hK K
          refine wpAnyH_take (i := 8) (v := .tuple #[.agg #[.int .u64 (uh : Int), .int .u64 (ul : Int)], .int .i64 0]) rfl (by kernel_rfl) (by kernel_rfl) (by kernel_rfl) (fun _ _ _ h => h) (Or.inl ⟨by rfl, fun u hSw => (by go_simp)⟩) hS ?_
          refine wpAnyH_take (i := 9) (v := .agg #[.int .u64 (uh : Int), .int .u64 (ul : Int)]) rfl (by kernel_rfl) (by kernel_rfl) (by kernel_rfl) (fun _ _ _ h => h) (Or.inl ⟨by rfl, fun u hSw => (by go_simp)⟩) hS ?_
          refine wpAnyH_take (i := 10) (v := .int .i64 0) rfl (by kernel_rfl) (by kernel_rfl) (by kernel_rfl) (fun _ _ _ h => h) (Or.inl ⟨by rfl, fun u hSw => (by go_simp)⟩) hS ?_
          refine wpAnyH_ready (rs := [11]) (by kernel_rfl) (by simp) ?_
          refine AllReadyH.cons rfl (fun K hK => ?_) (AllReadyH.nil)
          go_simp
          have F9 := Blk.new w3 34 (#[.int .u64 0, .int .u64 0])
          have l9A : w.heap.size < w3.heap.size := FA.lt
          replace FA := FA.alloc (.cells (#[.int .u64 0, .int .u64 0]) 34)
          have l9L : gL < w3.heap.size := FL.lt
          replace FL := FL.alloc (.cells (#[.int .u64 0, .int .u64 0]) 34)
          have l9O : w.heap.size + 1 < w3.heap.size := FO.lt
          replace FO := FO.alloc (.cells (#[.int .u64 0, .int .u64 0]) 34)
          have L9 := GB.size
          replace GB := GB.alloc GB.size (.cells (#[.int .u64 0, .int .u64 0]) 34)
          refine hK.out _ _ ⟨FA, FL⟩ (fun hS => ?_)
          clear hK K
          generalize w3.alloc (.cells (#[.int .u64 0, .int .u64 0]) 34) = U4 at F9 FA FL FO GB hS ⊢
          generalize w3.heap.size = g9 at F9 l9A l9L l9O L9 ⊢
          refine wpAnyH_ready (rs := [12]) (by kernel_rfl) (by simp) ?_
          refine AllReadyH.cons rfl (fun K hK => ?_) (AllReadyH.nil)
          have O5 := F9
          replace FA := FA.other (g' := g9) (cs' := #[.int .u64 (uh : Int), .int .u64 (ul : Int)]) (by omega)
          replace FL := FL.other (g' := g9) (cs' := #[.int .u64 (uh : Int), .int .u64 (ul : Int)]) (by omega)
          replace FO := FO.other (g' := g9) (cs' := #[.int .u64 (uh : Int), .int .u64 (ul : Int)]) (by omega)
          replace F9 := F9.row (cs' := #[.int .u64 (uh : Int), .int .u64 (ul : Int)])
          replace GB := below_row (g' := g9) (cs' := #[.int .u64 (uh : Int), .int .u64 (ul : Int)]) GB (by omega)
          refine keep_row rfl 34 (.tmp 9) (.tmp 31) rfl _ _ rfl rfl _ _ O5 (by kernel_rfl) rfl (by simp [Value.oneCell']) (hK.out _ _ ⟨FA, FL⟩ (fun hS => ?_))
          clear hK K O5
          generalize U4.setRow (g9) (#[.int .u64 (uh : Int), .int .u64 (ul : Int)]) = U5 at FA FL FO F9 GB hS ⊢
          refine wpAnyH_ready (rs := [13]) (by kernel_rfl) (by simp) ?_
          refine AllReadyH.cons rfl (fun K hK => ?_) (AllReadyH.nil)
          go_simp
          refine hK.out _ _ ⟨FA, FL⟩ (fun hS => ?_)
          clear hK K
          refine wpAnyH_done (by kernel_rfl) ?_ _
          go_wp2_with fail
          go_meet
          exact ⟨g9, rfl, by omega, F9, FL, FO, GB⟩
        · skip
          go_simp
          have F9 := Blk.new w2 34 (#[.int .u64 0, .int .u64 0])
          have l9A : w.heap.size < w2.heap.size := FA.lt
          replace FA := FA.alloc (.cells (#[.int .u64 0, .int .u64 0]) 34)
          have l9L : gL < w2.heap.size := FL.lt
          replace FL := FL.alloc (.cells (#[.int .u64 0, .int .u64 0]) 34)
          have l9O : w.heap.size + 1 < w2.heap.size := FO.lt
          replace FO := FO.alloc (.cells (#[.int .u64 0, .int .u64 0]) 34)
          have L9 := GB.size
          replace GB := GB.alloc GB.size (.cells (#[.int .u64 0, .int .u64 0]) 34)
          refine hK.out _ _ ⟨FA, FL⟩ (fun hS => ?_)
          clear hK K
          generalize w2.alloc (.cells (#[.int .u64 0, .int .u64 0]) 34) = U7 at F9 FA FL FO GB hS ⊢
          generalize w2.heap.size = g9 at F9 l9A l9L l9O L9 ⊢
          refine wpAnyH_ready (rs := [7]) (by kernel_rfl) (by simp) ?_
          refine AllReadyH.cons rfl (fun K hK => ?_) (AllReadyH.nil)
          go_simp
          refine (HA.out _).mono ?_
          rintro e w8 ⟨rfl, h8⟩
          replace FA := FA.below h8 FA.lt
          replace FL := FL.below h8 FL.lt
          replace FO := FO.below h8 FO.lt
          replace F9 := F9.below h8 F9.lt
          replace GB := GB.trans (h8.mono GB.size)
          clear h8
          refine hK.out _ _ ⟨FA, FL⟩ (fun hS => ?_)
          clear hK K
          refine wpAnyH_take (i := 8) (v := .tuple #[.agg #[.int .u64 (uh : Int), .int .u64 (ul : Int)], .int .i64 0]) rfl (by kernel_rfl) (by kernel_rfl) (by kernel_rfl) (fun _ _ _ h => h) (Or.inl ⟨by rfl, fun u hSw => (by go_simp)⟩) hS ?_
          refine wpAnyH_take (i := 9) (v := .agg #[.int .u64 (uh : Int), .int .u64 (ul : Int)]) rfl (by kernel_rfl) (by kernel_rfl) (by kernel_rfl) (fun _ _ _ h => h) (Or.inl ⟨by rfl, fun u hSw => (by go_simp)⟩) hS ?_
          refine wpAnyH_take (i := 10) (v := .int .i64 0) rfl (by kernel_rfl) (by kernel_rfl) (by kernel_rfl) (fun _ _ _ h => h) (Or.inl ⟨by rfl, fun u hSw => (by go_simp)⟩) hS ?_
          refine wpAnyH_ready (rs := [12]) (by kernel_rfl) (by simp) ?_
          refine AllReadyH.cons rfl (fun K hK => ?_) (AllReadyH.nil)
          have O9 := F9
          replace FA := FA.other (g' := g9) (cs' := #[.int .u64 (uh : Int), .int .u64 (ul : Int)]) (by omega)
          replace FL := FL.other (g' := g9) (cs' := #[.int .u64 (uh : Int), .int .u64 (ul : Int)]) (by omega)
          replace FO := FO.other (g' := g9) (cs' := #[.int .u64 (uh : Int), .int .u64 (ul : Int)]) (by omega)
          replace F9 := F9.row (cs' := #[.int .u64 (uh : Int), .int .u64 (ul : Int)])
          replace GB := below_row (g' := g9) (cs' := #[.int .u64 (uh : Int), .int .u64 (ul : Int)]) GB (by omega)
          refine keep_row rfl 34 (.tmp 9) (.tmp 31) rfl _ _ rfl rfl _ _ O9 (by kernel_rfl) rfl (by simp [Value.oneCell']) (hK.out _ _ ⟨FA, FL⟩ (fun hS => ?_))
          clear hK K O9
          generalize w8.setRow (g9) (#[.int .u64 (uh : Int), .int .u64 (ul : Int)]) = U9 at FA FL FO F9 GB hS ⊢
          refine wpAnyH_ready (rs := [13]) (by kernel_rfl) (by simp) ?_
          refine AllReadyH.cons rfl (fun K hK => ?_) (AllReadyH.nil)
          go_simp
          refine hK.out _ _ ⟨FA, FL⟩ (fun hS => ?_)
          clear hK K
          refine wpAnyH_done (by kernel_rfl) ?_ _
          go_wp2_with fail
          go_meet
          exact ⟨g9, rfl, by omega, F9, FL, FO, GB⟩
      · skip
        go_simp
        have F9 := Blk.new w1 34 (#[.int .u64 0, .int .u64 0])
        have l9A : w.heap.size < w1.heap.size := FA.lt
        replace FA := FA.alloc (.cells (#[.int .u64 0, .int .u64 0]) 34)
        have l9L : gL < w1.heap.size := FL.lt
        replace FL := FL.alloc (.cells (#[.int .u64 0, .int .u64 0]) 34)
        have l9O : w.heap.size + 1 < w1.heap.size := FO.lt
        replace FO := FO.alloc (.cells (#[.int .u64 0, .int .u64 0]) 34)
        have L9 := GB.size
        replace GB := GB.alloc GB.size (.cells (#[.int .u64 0, .int .u64 0]) 34)
        refine hK.out _ _ ⟨FA, FL⟩ (fun hS => ?_)
        clear hK K
        generalize w1.alloc (.cells (#[.int .u64 0, .int .u64 0]) 34) = U11 at F9 FA FL FO GB hS ⊢
        generalize w1.heap.size = g9 at F9 l9A l9L l9O L9 ⊢
        refine wpAnyH_ready (rs := [6]) (by kernel_rfl) (by simp) ?_
        refine AllReadyH.cons rfl (fun K hK => ?_) (AllReadyH.nil)
        go_simp
        refine (HO.out _).mono ?_
        rintro e w12 ⟨rfl, h12⟩
        replace FA := FA.below h12 FA.lt
        replace FL := FL.below h12 FL.lt
        replace FO := FO.below h12 FO.lt
        replace F9 := F9.below h12 F9.lt
        replace GB := GB.trans (h12.mono GB.size)
        clear h12
        refine hK.out _ _ ⟨FA, FL⟩ (fun hS => ?_)
        clear hK K
        refine wpAnyH_ready (rs := [7]) (by kernel_rfl) (by simp) ?_
        refine AllReadyH.cons rfl (fun K hK => ?_) (AllReadyH.nil)
        go_simp
        refine (HA.out _).mono ?_
        rintro e w13 ⟨rfl, h13⟩
        replace FA := FA.below h13 FA.lt
        replace FL := FL.below h13 FL.lt
        replace FO := FO.below h13 FO.lt
        replace F9 := F9.below h13 F9.lt
        replace GB := GB.trans (h13.mono GB.size)
        clear h13
        refine hK.out _ _ ⟨FA, FL⟩ (fun hS => ?_)
        clear hK K
        refine wpAnyH_take (i := 8) (v := .tuple #[.agg #[.int .u64 (uh : Int), .int .u64 (ul : Int)], .int .i64 0]) rfl (by kernel_rfl) (by kernel_rfl) (by kernel_rfl) (fun _ _ _ h => h) (Or.inl ⟨by rfl, fun u hSw => (by go_simp)⟩) hS ?_
        refine wpAnyH_take (i := 9) (v := .agg #[.int .u64 (uh : Int), .int .u64 (ul : Int)]) rfl (by kernel_rfl) (by kernel_rfl) (by kernel_rfl) (fun _ _ _ h => h) (Or.inl ⟨by rfl, fun u hSw => (by go_simp)⟩) hS ?_
        refine wpAnyH_take (i := 10) (v := .int .i64 0) rfl (by kernel_rfl) (by kernel_rfl) (by kernel_rfl) (fun _ _ _ h => h) (Or.inl ⟨by rfl, fun u hSw => (by go_simp)⟩) hS ?_
        refine wpAnyH_ready (rs := [12]) (by kernel_rfl) (by simp) ?_
        refine AllReadyH.cons rfl (fun K hK => ?_) (AllReadyH.nil)
        have O14 := F9
        replace FA := FA.other (g' := g9) (cs' := #[.int .u64 (uh : Int), .int .u64 (ul : Int)]) (by omega)
        replace FL := FL.other (g' := g9) (cs' := #[.int .u64 (uh : Int), .int .u64 (ul : Int)]) (by omega)
        replace FO := FO.other (g' := g9) (cs' := #[.int .u64 (uh : Int), .int .u64 (ul : Int)]) (by omega)
        replace F9 := F9.row (cs' := #[.int .u64 (uh : Int), .int .u64 (ul : Int)])
        replace GB := below_row (g' := g9) (cs' := #[.int .u64 (uh : Int), .int .u64 (ul : Int)]) GB (by omega)
        refine keep_row rfl 34 (.tmp 9) (.tmp 31) rfl _ _ rfl rfl _ _ O14 (by kernel_rfl) rfl (by simp [Value.oneCell']) (hK.out _ _ ⟨FA, FL⟩ (fun hS => ?_))
        clear hK K O14
        generalize w13.setRow (g9) (#[.int .u64 (uh : Int), .int .u64 (ul : Int)]) = U14 at FA FL FO F9 GB hS ⊢
        refine wpAnyH_ready (rs := [13]) (by kernel_rfl) (by simp) ?_
        refine AllReadyH.cons rfl (fun K hK => ?_) (AllReadyH.nil)
        go_simp
        refine hK.out _ _ ⟨FA, FL⟩ (fun hS => ?_)
        clear hK K
        refine wpAnyH_done (by kernel_rfl) ?_ _
        go_wp2_with fail
        go_meet
        exact ⟨g9, rfl, by omega, F9, FL, FO, GB⟩
    · skip
      go_simp
      have F9 := Blk.new V 34 (#[.int .u64 0, .int .u64 0])
      have l9A : w.heap.size < V.heap.size := FA.lt
      replace FA := FA.alloc (.cells (#[.int .u64 0, .int .u64 0]) 34)
      have l9L : gL < V.heap.size := FL.lt
      replace FL := FL.alloc (.cells (#[.int .u64 0, .int .u64 0]) 34)
      have l9O : w.heap.size + 1 < V.heap.size := FO.lt
      replace FO := FO.alloc (.cells (#[.int .u64 0, .int .u64 0]) 34)
      have L9 := GB.size
      replace GB := GB.alloc GB.size (.cells (#[.int .u64 0, .int .u64 0]) 34)
      refine hK.out _ _ ⟨FA, FL⟩ (fun hS => ?_)
      clear hK K
      generalize V.alloc (.cells (#[.int .u64 0, .int .u64 0]) 34) = U16 at F9 FA FL FO GB hS ⊢
      generalize V.heap.size = g9 at F9 l9A l9L l9O L9 ⊢
      refine wpAnyH_ready (rs := [3]) (by kernel_rfl) (by simp) ?_
      refine AllReadyH.cons rfl (fun K hK => ?_) (AllReadyH.nil)
      go_simp
      refine (HP.out _).mono ?_
      rintro e w17 ⟨rfl, h17⟩
      replace FA := FA.below h17 FA.lt
      replace FL := FL.below h17 FL.lt
      replace FO := FO.below h17 FO.lt
      replace F9 := F9.below h17 F9.lt
      replace GB := GB.trans (h17.mono GB.size)
      clear h17
      refine hK.out _ _ ⟨FA, FL⟩ (fun hS => ?_)
      clear hK K
      refine wpAnyH_ready (rs := [6]) (by kernel_rfl) (by simp) ?_
      refine AllReadyH.cons rfl (fun K hK => ?_) (AllReadyH.nil)
      go_simp
      refine (HO.out _).mono ?_
      rintro e w18 ⟨rfl, h18⟩
      replace FA := FA.below h18 FA.lt
      replace FL := FL.below h18 FL.lt
      replace FO := FO.below h18 FO.lt
      replace F9 := F9.below h18 F9.lt
      replace GB := GB.trans (h18.mono GB.size)
      clear h18
      refine hK.out _ _ ⟨FA, FL⟩ (fun hS => ?_)
      clear hK K
      refine wpAnyH_ready (rs := [7]) (by kernel_rfl) (by simp) ?_
      refine AllReadyH.cons rfl (fun K hK => ?_) (AllReadyH.nil)
      go_simp
      refine (HA.out _).mono ?_
      rintro e w19 ⟨rfl, h19⟩
      replace FA := FA.below h19 FA.lt
      replace FL := FL.below h19 FL.lt
      replace FO := FO.below h19 FO.lt
      replace F9 := F9.below h19 F9.lt
      replace GB := GB.trans (h19.mono GB.size)
      clear h19
      refine hK.out _ _ ⟨FA, FL⟩ (fun hS => ?_)
      clear hK K
      refine wpAnyH_take (i := 8) (v := .tuple #[.agg #[.int .u64 (uh : Int), .int .u64 (ul : Int)], .int .i64 0]) rfl (by kernel_rfl) (by kernel_rfl) (by kernel_rfl) (fun _ _ _ h => h) (Or.inl ⟨by rfl, fun u hSw => (by go_simp)⟩) hS ?_
      refine wpAnyH_take (i := 9) (v := .agg #[.int .u64 (uh : Int), .int .u64 (ul : Int)]) rfl (by kernel_rfl) (by kernel_rfl) (by kernel_rfl) (fun _ _ _ h => h) (Or.inl ⟨by rfl, fun u hSw => (by go_simp)⟩) hS ?_
      refine wpAnyH_take (i := 10) (v := .int .i64 0) rfl (by kernel_rfl) (by kernel_rfl) (by kernel_rfl) (fun _ _ _ h => h) (Or.inl ⟨by rfl, fun u hSw => (by go_simp)⟩) hS ?_
      refine wpAnyH_ready (rs := [12]) (by kernel_rfl) (by simp) ?_
      refine AllReadyH.cons rfl (fun K hK => ?_) (AllReadyH.nil)
      have O20 := F9
      replace FA := FA.other (g' := g9) (cs' := #[.int .u64 (uh : Int), .int .u64 (ul : Int)]) (by omega)
      replace FL := FL.other (g' := g9) (cs' := #[.int .u64 (uh : Int), .int .u64 (ul : Int)]) (by omega)
      replace FO := FO.other (g' := g9) (cs' := #[.int .u64 (uh : Int), .int .u64 (ul : Int)]) (by omega)
      replace F9 := F9.row (cs' := #[.int .u64 (uh : Int), .int .u64 (ul : Int)])
      replace GB := below_row (g' := g9) (cs' := #[.int .u64 (uh : Int), .int .u64 (ul : Int)]) GB (by omega)
      refine keep_row rfl 34 (.tmp 9) (.tmp 31) rfl _ _ rfl rfl _ _ O20 (by kernel_rfl) rfl (by simp [Value.oneCell']) (hK.out _ _ ⟨FA, FL⟩ (fun hS => ?_))
      clear hK K O20
      generalize w19.setRow (g9) (#[.int .u64 (uh : Int), .int .u64 (ul : Int)]) = U20 at FA FL FO F9 GB hS ⊢
      refine wpAnyH_ready (rs := [13]) (by kernel_rfl) (by simp) ?_
      refine AllReadyH.cons rfl (fun K hK => ?_) (AllReadyH.nil)
      go_simp
      refine hK.out _ _ ⟨FA, FL⟩ (fun hS => ?_)
      clear hK K
      refine wpAnyH_done (by kernel_rfl) ?_ _
      go_wp2_with fail
      go_meet
      exact ⟨g9, rfl, by omega, F9, FL, FO, GB⟩
  case rest =>
    clear FA FO FL GB l1 l2 HL HP HO HA HB
    obtain ⟨g9, rfl, hg, F9, FL, FO, GB⟩ := hcut
    obtain ⟨hw, hU, hll, hd0, hd, hN⟩ := HM.out
    obtain ⟨hul, huh, e4⟩ := HV.out
    have q0 : wc.cell? ⟨g9, 0, none⟩ = some (.int .u64 (uh : Int)) := F9.cell 0
    have q1 : wc.cell? ⟨g9, 1, none⟩ = some (.int .u64 (ul : Int)) := F9.cell 1
    by_cases hdu : d ≤ uh
    · have hb : decide (d ≤ uh) = true := decide_eq_true hdu
      have hbig := scale_big hd0 hdu e4
      have hge := scaleN_ge (ah * 18446744073709551616 + al) m d true
      have hc : c = 131 ∧ zh = 0 ∧ zl = 0 := by
        rcases hN with ⟨_, e, h1, h2⟩ | ⟨h1, h2, h3, _⟩
        · exfalso
          rw [e] at hge
          have := Nat.le_trans hbig hge
          clear hbig hge e hw hU e4
          omega
        · exact ⟨h1, h2, h3⟩
      obtain ⟨rfl, rfl, rfl⟩ := hc
      have x0 : wc.cell? ⟨w.heap.size + 1, 0, none⟩ = some (.int .u64 0) := FO.cell 0
      have x1 : wc.cell? ⟨w.heap.size + 1, 1, none⟩ = some (.int .u64 0) := FO.cell 1
      have f0 := FO.frozen 0
      have f1 := FO.frozen 1
      have HK := Lib.hid (And.intro (FO.set2 (x := .int .u64 0) (y := .int .u64 0)) (below_pair (x := .int .u64 0) (y := .int .u64 0) GB (show w.heap.size ≤ w.heap.size + 1 by omega)))
      clear hw hU hll hd0 hd hN hul huh e4 hdu hbig hge HM HV F9 FL FO GB hg
      go_wp2
      exact bodyPost_ret (v := .tuple #[.agg #[.int .u64 0, .int .u64 0], .int .i64 131]) (results_row2 Try.results81 _ _ _ _ _ _ rfl HK.out.1 Try.underlying34 rfl (by kernel_rfl)) rfl ⟨rfl, HK.out.2⟩
    · have hb : decide (d ≤ uh) = false := decide_eq_false hdu
      have hud : uh < d := by omega
      obtain ⟨h, hh⟩ : ∃ h, U / d = h := ⟨_, rfl⟩
      obtain ⟨x, hx⟩ : ∃ x, U % d = x := ⟨_, rfl⟩
      have hxd : x < d := by rw [← hx]; exact Nat.mod_lt _ hd0
      obtain ⟨l, hl⟩ : ∃ l, (x * 18446744073709551616 + ll) / d = l := ⟨_, rfl⟩
      obtain ⟨r, hr⟩ : ∃ r, (x * 18446744073709551616 + ll) % d = r := ⟨_, rfl⟩
      have hhb : h < 18446744073709551616 := by
        have := word_lt (d := d) (lo := ul) hud hul
        rw [hU, hh] at this
        exact this
      have hlb : l < 18446744073709551616 := by rw [← hl]; exact word_lt hxd hll
      have HD1 := Lib.hid (fun u => div64_any uh ul d h x hul hd hud (by rw [hU]; exact hh) (by rw [hU]; exact hx) u)
      have HD2 := Lib.hid (fun u => div64_any x ll d l r hll hd hxd hl hr u)
      rw [hU, hh, hx, hl, hr] at hw
      have HR : Hid (∀ u, Calls Try.prog 97 #[.agg #[.int .u64 (h : Int), .int .u64 (l : Int)], .int .u64 (r : Int)] u (Ans (.tuple #[.agg #[.int .u64 (zh : Int), .int .u64 (zl : Int)], .int .i64 c]) u)) := by
        rcases Nat.eq_zero_or_pos r with h0 | h0
        · rw [scaleN_even true (by rw [hw.2]; exact h0), hw.1] at hN
          rcases hN with ⟨rfl, e, h1, h2⟩ | ⟨_, _, _, h4⟩
          · obtain rfl : h = zh := by omega
            obtain rfl : l = zl := by omega
            subst h0
            exact Lib.hid (fun u => round_none h l u)
          · omega
        · rw [scaleN_up (by rw [hw.2]; omega), hw.1] at hN
          exact Lib.hid (fun u => round_some h l r zh zl c hhb hlb h0 hN u)
      clear hw hU hll hd0 hd hN hul huh e4 hdu hud hh hx hxd hl hr hhb hlb HM HV
      go_wp2_with fail
      refine (HD1.out _).mono ?_
      rintro e w2 ⟨rfl, h2⟩
      replace FL := FL.below h2 FL.lt
      replace FO := FO.below h2 FO.lt
      replace GB := GB.trans (h2.mono GB.size)
      have y1 : w2.cell? ⟨gL, 1, none⟩ = some (.int .u64 (ll : Int)) := FL.cell 1
      clear h2 q0 q1 F9
      go_wp2_with fail
      refine (HD2.out _).mono ?_
      rintro e w3 ⟨rfl, h3⟩
      replace FO := FO.below h3 FO.lt
      replace GB := GB.trans (h3.mono GB.size)
      clear h3 y1 FL
      go_wp2_with fail
      refine (HR.out _).mono ?_
      rintro e w4 ⟨rfl, h4⟩
      replace FO := FO.below h4 FO.lt
      replace GB := GB.trans (h4.mono GB.size)
      have x0 : w4.cell? ⟨w.heap.size + 1, 0, none⟩ = some (.int .u64 0) := FO.cell 0
      have x1 : w4.cell? ⟨w.heap.size + 1, 1, none⟩ = some (.int .u64 0) := FO.cell 1
      have f0 := FO.frozen 0
      have f1 := FO.frozen 1
      have HK := Lib.hid (And.intro (FO.set2 (x := .int .u64 (zh : Int)) (y := .int .u64 (zl : Int))) (below_pair (x := .int .u64 (zh : Int)) (y := .int .u64 (zl : Int)) GB (show w.heap.size ≤ w.heap.size + 1 by omega)))
      clear h4 FO GB hg
      go_wp2
      exact bodyPost_ret (v := .tuple #[.agg #[.int .u64 (zh : Int), .int .u64 (zl : Int)], .int .i64 c]) (results_row2 Try.results81 _ _ _ _ _ _ rfl HK.out.1 Try.underlying34 rfl (by kernel_rfl)) rfl ⟨rfl, HK.out.2⟩

end Go.Proofs.Ytfgabmelmopgdaa
