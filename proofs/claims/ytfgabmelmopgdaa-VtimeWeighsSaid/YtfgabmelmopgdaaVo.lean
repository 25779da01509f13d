/-
  VtimeWeighs' walk. No statement is proved here.
-/
import Derived.Test.YtfgabmelmopgdaaVn
import Derived.Deep.DeepCutAuto
namespace Go.Proofs.Ytfgabmelmopgdaa
open Go.RowKit

set_option maxRecDepth 100000 in
set_option maxHeartbeats 32000000 in
theorem weighs_walk (A : Option Addr) (n c : Nat) (qs : List Rn) (id : Int) (X : Nat) (each : Int) (w : World) (hR : Reads w w.heap.size 5 A n (flat rv qs)) (hnc : n ≤ c) (hU : UQ qs) (hX : X < 2 ^ 64) :
    Calls Try.prog 8 #[.agg #[.slice A n c], .int .i64 id, .agg #[.int .u64 (X : Int), .int .i64 each]] w (Said (.bool true) w) := by
  have HWk := Lib.hid (fun (u : World) => wakes_any u)
  have HSh := Lib.hid (fun (u : World) (h : Below w.heap.size w u) => short_any A n c qs u ((hR.below h).more h.size) hnc)
  obtain ⟨n5, hn5⟩ : ∃ k, min n 17 = k := ⟨_, rfl⟩
  obtain ⟨qs5, hq5⟩ : ∃ k, qs.take 17 = k := ⟨_, rfl⟩
  have HU5 : Hid (UQ qs5) := Lib.hid (by rw [← hq5]; exact take_uq hU 17)
  have HN5 : Hid (n5 ≤ 17) := Lib.hid (by omega)
  rw [hn5, hq5] at HSh
  have HX := Lib.hid hX
  obtain ⟨K0, K1, GB⟩ := blks2 w 26 68 #[.slice A n c] #[.int .u64 (X : Int), .int .i64 each]
  -- the values
  have HGe := Lib.hid (fun (A : Option Addr) (n c : Nat) (l : List Rn) (u : World) (h : QR u A n c l) => get_any A n c l id u h)
  have HWe := Lib.hid (fun (A : Option Addr) (n c : Nat) (l : List Rn) (A2 : Option Addr) (c2 x : Nat) (e : Int) (u : World) (h : QR u A n c l) (hI : IR u A2 1 [id]) (hx : x < 2 ^ 64) => weigh_any A n c l A2 1 c2 [id] x e u h hI hx)
  obtain ⟨⟨⟨r1, r2, r3, r4, r5⟩, ok⟩, hg⟩ : ∃ g, getQ qs5 id = g := ⟨_, rfl⟩
  obtain ⟨⟨L1, E1⟩, hW1⟩ : ∃ R, weighQS qs5 [id] X each = R := ⟨_, rfl⟩
  have HG1 := Lib.hid hg
  have HW1 := Lib.hid hW1
  clear hR hnc hU hX hn5 hq5 hg hW1
  go_enter Try.func8, Try.ntmps8
  go_wp2_with fail
  refine (HWk.out _).mono ?_
  rintro e w1 ⟨rfl, h9⟩
  replace K0 := K0.below h9 K0.lt
  replace K1 := K1.below h9 K1.lt
  replace GB := GB.trans (h9.mono GB.size)
  clear h9
  clear HWk
  go_upto_region 3 with fail
  go_cut [7, 8, 9] (fun s7 s8 s9 X7 => ∃ (g7 : Nat) (A5 : Option Addr) (c5 : Nat), s7 = .pointer (some ⟨g7, 0, none⟩) ∧ s8 = .int .u64 (X : Int) ∧ s9 = .int .i64 each ∧ Blk X7 g7 26 #[.slice A5 n5 c5] ∧ QR X7 A5 n5 c5 qs5 ∧ Blk X7 w.heap.size 26 #[.slice A n c] ∧ Blk X7 (w.heap.size + 1) 68 #[.int .u64 (X : Int), .int .i64 each] ∧ Below w.heap.size w X7)
  case first =>
    clear HGe HWe HG1 HW1
    replace K0 : Blk w1.drew _ _ _ := K0
    replace K1 : Blk w1.drew _ _ _ := K1
    replace GB := GB.drew
    refine wp_region_held_drew (S := fun u => Below w.heap.size w u ∧ Blk u w.heap.size 26 #[.slice A n c] ∧ Blk u (w.heap.size + 1) 68 #[.int .u64 (X : Int), .int .i64 each]) (by kernel_rfl) ⟨GB, K0, K1⟩ (fun hS => ?_)
    obtain ⟨V, hV⟩ : ∃ V, w1.drew = V := ⟨_, rfl⟩
    rw [hV] at K0 K1 GB hS ⊢
    clear hV
    refine wpAnyH_take (i := 0) (v := .agg #[.slice A n c]) rfl (by kernel_rfl) (by kernel_rfl) (by kernel_rfl) (fun _ _ _ h => h) (Or.inl ⟨by kernel_rfl, fun u hSw => (by have q0 := hSw.2.1.cell 0; go_simp)⟩) hS ?_
    change wpAnyH _ _ _ _ _ _ _ (Act.put _ (some 23) _) _
    simp only [Act.put]
    refine wpAnyH_take (i := 2) (v := .pointer (some ⟨w.heap.size + 1, 0, none⟩)) rfl (by kernel_rfl) (by kernel_rfl) (by kernel_rfl) (fun _ _ _ h => h) (Or.inl ⟨by kernel_rfl, fun u hSw => (by go_simp)⟩) hS ?_
    change wpAnyH _ _ _ _ _ _ _ (Act.put _ (some 25) _) _
    simp only [Act.put]
    refine wpAnyH_take (i := 3) (v := .int .u64 (X : Int)) rfl (by kernel_rfl) (by kernel_rfl) (by kernel_rfl) (fun _ _ _ h => h) (Or.inl ⟨by kernel_rfl, fun u hSw => (by have q0 := hSw.2.2.cell 0; go_simp)⟩) hS ?_
    change wpAnyH _ _ _ _ _ _ _ (Act.put _ (some 26) _) _
    simp only [Act.put]
    refine wpAnyH_take (i := 4) (v := .pointer (some ⟨w.heap.size + 1, 1, none⟩)) rfl (by kernel_rfl) (by kernel_rfl) (by kernel_rfl) (fun _ _ _ h => h) (Or.inl ⟨by kernel_rfl, fun u hSw => (by go_simp)⟩) hS ?_
    change wpAnyH _ _ _ _ _ _ _ (Act.put _ (some 27) _) _
    simp only [Act.put]
    refine wpAnyH_take (i := 5) (v := .int .i64 each) rfl (by kernel_rfl) (by kernel_rfl) (by kernel_rfl) (fun _ _ _ h => h) (Or.inl ⟨by kernel_rfl, fun u hSw => (by have q0 := hSw.2.2.cell 1; go_simp)⟩) hS ?_
    change wpAnyH _ _ _ _ _ _ _ (Act.put _ (some 28) _) _
    simp only [Act.put]
    refine wpAnyH_ready (rs := [1, 6]) (by kernel_rfl) (by simp) ?_
    refine AllReadyH.cons rfl (fun K hK => ?_) (AllReadyH.cons rfl (fun K hK => ?_) (AllReadyH.nil))
    · skip
      go_simp
      refine (HSh.out _ GB).mono ?_
      rintro e1 w1 ⟨A5, c5, rfl, own5, h9⟩
      replace K0 := K0.below h9 K0.lt
      replace K1 := K1.below h9 K1.lt
      replace GB := GB.trans (h9.mono GB.size)
      have G5 := qr_own own5 (by have := HN5.out; omega) HU5.out
      clear own5 h9
      refine hK.out _ _ ⟨GB, K0, K1⟩ (fun hS => ?_)
      clear hK K
      refine wpAnyH_ready (rs := [6]) (by kernel_rfl) (by simp) ?_
      refine AllReadyH.cons rfl (fun K hK => ?_) AllReadyH.nil
      have K7 := Blk.new w1 26 #[.slice none 0 0]
      have hg7 := GB.size
      have hK0lt := K0.lt
      have hK1lt := K1.lt
      have GB2 := GB.alloc GB.size (.cells #[.slice none 0 0] 26)
      replace K0 := K0.alloc (.cells #[.slice none 0 0] 26)
      replace K1 := K1.alloc (.cells #[.slice none 0 0] 26)
      replace G5 := G5.below ((Below.refl _ w1).alloc (Nat.le_refl _) (.cells #[.slice none 0 0] 26))
      go_simp
      generalize w1.alloc (.cells #[.slice none 0 0] 26) = Xa2 at K7 GB2 K0 K1 G5 ⊢
      replace GB := GB2
      clear GB2
      refine hK.out _ _ ⟨GB, K0, K1⟩ (fun hS => ?_)
      clear hK K
      refine wpAnyH_ready (rs := [7]) (by kernel_rfl) (by simp) ?_
      refine AllReadyH.cons rfl (fun K hK => ?_) AllReadyH.nil
      have d0 := K7.cell 0
      have f0 := K7.frozen 0
      have HP := put1 (x := .slice A5 n5 c5) K7 GB hg7
      have G55 := qr_box G5 K7 (.slice A5 n5 c5)
      have K0f := K0.far (p := ⟨w1.heap.size, 0, none⟩) (by have := hK0lt; simp; omega) (.slice A5 n5 c5)
      have K1f := K1.far (p := ⟨w1.heap.size, 0, none⟩) (by have := hK1lt; simp; omega) (.slice A5 n5 c5)
      replace GB := HP.2
      replace K0 := K0f
      clear K0f
      replace K1 := K1f
      clear K1f
      go_simp
      refine hK.out _ _ ⟨GB, K0, K1⟩ (fun hS => ?_)
      clear hK K d0 f0 K7 G5
      refine wpAnyH_take (i := 8) (v := .int .u64 (X : Int)) rfl (by kernel_rfl) (by kernel_rfl) (by kernel_rfl) (fun _ _ _ h => h) (Or.inl ⟨by kernel_rfl, fun u hSw => (by go_simp)⟩) hS ?_
      change wpAnyH _ _ _ _ _ _ _ (Act.put _ (some 8) _) _
      simp only [Act.put]
      refine wpAnyH_take (i := 9) (v := .int .i64 each) rfl (by kernel_rfl) (by kernel_rfl) (by kernel_rfl) (fun _ _ _ h => h) (Or.inl ⟨by kernel_rfl, fun u hSw => (by go_simp)⟩) hS ?_
      change wpAnyH _ _ _ _ _ _ _ (Act.put _ (some 9) _) _
      simp only [Act.put]
      refine wpAnyH_done (by kernel_rfl) ?_ _
      clear hS
      go_wp2_with fail
      go_meet
      exact ⟨_, _, _, rfl, rfl, rfl, HP.1, G55, K0, K1, GB⟩
    · skip
      have K7 := Blk.new V 26 #[.slice none 0 0]
      have hg7 := GB.size
      have hK0lt := K0.lt
      have hK1lt := K1.lt
      have GB2 := GB.alloc GB.size (.cells #[.slice none 0 0] 26)
      replace K0 := K0.alloc (.cells #[.slice none 0 0] 26)
      replace K1 := K1.alloc (.cells #[.slice none 0 0] 26)
      go_simp
      generalize V.alloc (.cells #[.slice none 0 0] 26) = Xa4 at K7 GB2 K0 K1 ⊢
      replace GB := GB2
      clear GB2
      refine hK.out _ _ ⟨GB, K0, K1⟩ (fun hS => ?_)
      clear hK K
      refine wpAnyH_ready (rs := [1]) (by kernel_rfl) (by simp) ?_
      refine AllReadyH.cons rfl (fun K hK => ?_) AllReadyH.nil
      go_simp
      refine (HSh.out _ GB).mono ?_
      rintro e5 w5 ⟨A5, c5, rfl, own5, h9⟩
      replace K0 := K0.below h9 K0.lt
      replace K1 := K1.below h9 K1.lt
      replace K7 := K7.below h9 K7.lt
      replace GB := GB.trans (h9.mono GB.size)
      have G5 := qr_own own5 (by have := HN5.out; omega) HU5.out
      clear own5 h9
      refine hK.out _ _ ⟨GB, K0, K1⟩ (fun hS => ?_)
      clear hK K
      refine wpAnyH_ready (rs := [7]) (by kernel_rfl) (by simp) ?_
      refine AllReadyH.cons rfl (fun K hK => ?_) AllReadyH.nil
      have d0 := K7.cell 0
      have f0 := K7.frozen 0
      have HP := put1 (x := .slice A5 n5 c5) K7 GB hg7
      have G55 := qr_box G5 K7 (.slice A5 n5 c5)
      have K0f := K0.far (p := ⟨V.heap.size, 0, none⟩) (by have := hK0lt; simp; omega) (.slice A5 n5 c5)
      have K1f := K1.far (p := ⟨V.heap.size, 0, none⟩) (by have := hK1lt; simp; omega) (.slice A5 n5 c5)
      replace GB := HP.2
      replace K0 := K0f
      clear K0f
      replace K1 := K1f
      clear K1f
      go_simp
      refine hK.out _ _ ⟨GB, K0, K1⟩ (fun hS => ?_)
      clear hK K d0 f0 K7 G5
      refine wpAnyH_take (i := 8) (v := .int .u64 (X : Int)) rfl (by kernel_rfl) (by kernel_rfl) (by kernel_rfl) (fun _ _ _ h => h) (Or.inl ⟨by kernel_rfl, fun u hSw => (by go_simp)⟩) hS ?_
      change wpAnyH _ _ _ _ _ _ _ (Act.put _ (some 8) _) _
      simp only [Act.put]
      refine wpAnyH_take (i := 9) (v := .int .i64 each) rfl (by kernel_rfl) (by kernel_rfl) (by kernel_rfl) (fun _ _ _ h => h) (Or.inl ⟨by kernel_rfl, fun u hSw => (by go_simp)⟩) hS ?_
      change wpAnyH _ _ _ _ _ _ _ (Act.put _ (some 9) _) _
      simp only [Act.put]
      refine wpAnyH_done (by kernel_rfl) ?_ _
      clear hS
      go_wp2_with fail
      go_meet
      exact ⟨_, _, _, rfl, rfl, rfl, HP.1, G55, K0, K1, GB⟩
  case rest =>
    obtain ⟨g7, A5, c5, rfl, rfl, rfl, K7, G5, _, _, GB⟩ := hcut
    rename World => X7
    clear HSh K0 K1
    have HL5 := Lib.hid G5.len
    have GG := Lib.hid (HGe.out A5 n5 c5 qs5 X7 G5)
    rw [HG1.out] at GG
    unfold agR at GG
    have zK70 := K7.cell 0
    go_wp2_with fail
    refine GG.out.mono ?_
    rintro r w11 ⟨rfl, h9⟩
    clear GG
    replace K7 := K7.below h9 K7.lt
    replace G5 := G5.below h9
    replace GB := GB.trans (h9.mono GB.size)
    clear h9
    clear zK70
    have K10 := Blk.new w11 40 #[.int .i64 r1, .int .i64 r2, .int .u64 (r3 : Int), .int .u64 (r4 : Int), .int .u64 (r5 : Int)]
    replace K7 := K7.alloc (.cells #[.int .i64 r1, .int .i64 r2, .int .u64 (r3 : Int), .int .u64 (r4 : Int), .int .u64 (r5 : Int)] 40)
    replace G5 := G5.below ((Below.refl _ _).alloc (Nat.le_refl _) (.cells #[.int .i64 r1, .int .i64 r2, .int .u64 (r3 : Int), .int .u64 (r4 : Int), .int .u64 (r5 : Int)] 40))
    replace GB := GB.alloc GB.size (.cells #[.int .i64 r1, .int .i64 r2, .int .u64 (r3 : Int), .int .u64 (r4 : Int), .int .u64 (r5 : Int)] 40)
    go_upto_region 5 with fail
    obtain ⟨X8, hX8⟩ : ∃ X8, w11.alloc (.cells #[.int .i64 r1, .int .i64 r2, .int .u64 (r3 : Int), .int .u64 (r4 : Int), .int .u64 (r5 : Int)] 40) = X8 := ⟨_, rfl⟩
    obtain ⟨g10, hg10⟩ : ∃ g, w11.heap.size = g := ⟨_, rfl⟩
    rw [hX8] at K7 K10 G5 GB ⊢
    rw [hg10] at K10 ⊢
    clear hX8 hg10
    have zK70 := K7.cell 0
    have HIr : Hid (IR (X8.alloc (.cells #[.int .i64 id] 3)) (some ⟨X8.heap.size, 0, none⟩) 1 [id]) := Lib.hid ⟨reads_int1 X8 3 id rfl, by decide⟩
    replace K7 := K7.alloc (.cells #[.int .i64 id] 3)
    replace K10 := K10.alloc (.cells #[.int .i64 id] 3)
    replace G5 := G5.below ((Below.refl _ X8).alloc (Nat.le_refl _) (.cells #[.int .i64 id] 3))
    replace GB := GB.alloc GB.size (.cells #[.int .i64 id] 3)
    have WW := Lib.hid (HWe.out A5 n5 c5 qs5 (some ⟨X8.heap.size, 0, none⟩) 1 X each _ G5 HIr.out HX.out)
    rw [HW1.out] at WW
    go_wp2_with fail
    refine WW.out.mono ?_
    rintro r w12 ⟨A6, n6, c6, rfl, hl6, own6, h9⟩
    clear WW HIr
    replace K7 := K7.below h9 K7.lt
    replace K10 := K10.below h9 K10.lt
    replace G5 := G5.below h9
    replace GB := GB.trans (h9.mono GB.size)
    clear h9 zK70 K7 G5
    have K12 := Blk.new w12 26 #[.slice A6 n6 c6]
    replace K10 := K10.alloc (.cells #[.slice A6 n6 c6] 26)
    replace GB := GB.alloc GB.size (.cells #[.slice A6 n6 c6] 26)
    have own7 := own6.alloc (.cells #[.slice A6 n6 c6] 26)
    clear own6
    go_upto_region 6 with fail
    obtain ⟨X9, hX9⟩ : ∃ X9, w12.alloc (.cells #[.slice A6 n6 c6] 26) = X9 := ⟨_, rfl⟩
    obtain ⟨g12, hg12⟩ : ∃ g, w12.heap.size = g := ⟨_, rfl⟩
    rw [hX9] at K10 K12 GB own7 ⊢
    rw [hg12] at K12 ⊢
    clear hX9 hg12
    by_cases he : E1 = 0
    · have hw := HW1.out
      obtain ⟨r, hr, hk, hx, hee, ho, hl⟩ := weigh_one (qs := qs5) (id := id) (x := X) (each := each) (by rw [hw]; exact he)
      have q := (get_yes hr hk).2
      rw [HG1.out] at q
      obtain ⟨q1, rfl⟩ := Prod.mk.inj q
      subst q1
      have hrr := rightR_iff.1 ((rightQ_iff.1 hr).get hk)
      have hur : UR (r1, r2, r3, r4, r5) := HU5.out _ (kf_some hk).1
      have hN : rN (r1, r2, r3, r4, r5) = r3 * 2 ^ 64 + r4 := rfl
      have hW : rW (r1, r2, r3, r4, r5) = r5 := rfl
      rw [hN, hW] at ho hl hrr
      have hr2 : 1 ≤ r2 ∧ r2 ≤ 8 := hrr.2.1
      have hr5 : 1 ≤ r5 ∧ r5 ≤ 65535 := hrr.2.2.1
      have hNb : r3 * 2 ^ 64 + r4 < 2 ^ 100 := hrr.2.2.2
      obtain ⟨N, hNN⟩ : ∃ N, r3 * 2 ^ 64 + r4 = N := ⟨_, rfl⟩
      rw [hNN] at ho hl hNb
      obtain ⟨M, hM⟩ : ∃ M, overW N X r5 = M := ⟨_, rfl⟩
      rw [hM] at ho hl
      have hl1 : L1 = setK qs5 (mkR r1 each M X) := by rw [← hl, hw]
      have hms := mk_right hrr.1 hee hx ho
      have hid := kf_id hk
      have hsg := set_get hr hk hms.1 rfl
      have hsu := set_uq HU5.out hms.2
      rw [← hl1] at hsg hsu
      have hn6 : n6 ≤ 1000 := by
        have h1 : L1.length = qs5.length := by rw [hl1]; exact len_set _ _
        have := HL5.out
        have := HN5.out
        omega
      have G6 := qr_own own7 hn6 hsu
      obtain ⟨sh, hsh⟩ : ∃ k, M / 2 ^ 64 = k := ⟨_, rfl⟩
      obtain ⟨sl, hsl⟩ : ∃ k, M % 2 ^ 64 = k := ⟨_, rfl⟩
      have hmk : mkR r1 each M X = (r1, each, sh, sl, X) := by rw [← hsh, ← hsl]; rfl
      have hMs : M = sh * 2 ^ 64 + sl := by omega
      have hsb : sh < 2 ^ 64 ∧ sl < 2 ^ 64 := by omega
      rw [hmk] at hsg
      have hrM : rightN M X = true := rightN_yes hx.1 hx.2 ho
      have hrN : rightN N r5 = true := rightN_yes hr5.1 hr5.2 hNb
      have GG := Lib.hid (HGe.out A6 n6 c6 L1 X9 G6)
      rw [hsg.2.2] at GG
      unfold agR at GG
      have C1 := Lib.hid (fun (u : World) => cmp_call sh sl X r3 r4 r5 u hsb.1 hsb.2 HX.out hur.1 hur.2.1 hur.2.2)
      rw [← hMs, hNN] at C1
      have hc1 : cmpR M X N r5 = cmpW (M * r5) (N * X) := by unfold cmpR; rw [hrM, hrN, Bool.and_true, if_pos rfl]
      have hn1 := weigh_cmp (N := N) (X := X) hr5.1
      rw [hM, ← hc1] at hn1
      obtain ⟨q1, hq1⟩ : ∃ q, cmpR M X N r5 = q := ⟨_, rfl⟩
      rw [hq1] at C1 hn1
      have b1 : decide (q1 < 0) = false := decide_eq_false hn1
      have D1 := Lib.hid (fun (u : World) => less_call sh sl X 1 u hsb.1 hsb.2 HX.out (by omega))
      have hl0 : lessR M X 1 = (M - 1, X, 0) := by unfold lessR; rw [if_pos hrM]
      rw [← hMs, hl0] at D1
      simp only [fe_cells] at D1
      obtain ⟨th, hth⟩ : ∃ k, (M - 1) / 2 ^ 64 = k := ⟨_, rfl⟩
      obtain ⟨tl, htl⟩ : ∃ k, (M - 1) % 2 ^ 64 = k := ⟨_, rfl⟩
      rw [hth, htl] at D1
      have htm : M - 1 = th * 2 ^ 64 + tl := by omega
      have htb : th < 2 ^ 64 ∧ tl < 2 ^ 64 := by omega
      have C2 := Lib.hid (fun (u : World) => cmp_call th tl X r3 r4 r5 u htb.1 htb.2 HX.out hur.1 hur.2.1 hur.2.2)
      rw [← htm, hNN] at C2
      have hc2 : cmpR (M - 1) X N r5 = cmpW ((M - 1) * r5) (N * X) := by unfold cmpR; rw [rightN_yes hx.1 hx.2 (show M - 1 < 2 ^ 100 by omega), hrN, Bool.and_true, if_pos rfl]
      obtain ⟨q2, hq2⟩ : ∃ q, cmpR (M - 1) X N r5 = q := ⟨_, rfl⟩
      rw [hq2] at C2 hc2
      have HB2 : Hid (M ≠ 0 → decide (0 ≤ q2) = false) := Lib.hid (fun h0 => decide_eq_false (by
        have q := weigh_less (N := N) (X := X) hr5.1 (by rw [hM]; exact h0)
        rw [hM, ← hc2] at q
        omega))
      have WW := Lib.hid (fun (A2 : Option Addr) (c2 : Nat) (u : World) (h : QR u A6 n6 c6 L1) (hI : IR u A2 1 [id]) => HWe.out A6 n6 c6 L1 A2 c2 r5 r2 u h hI hur.2.2)
      obtain ⟨⟨L2, E2⟩, hW2⟩ : ∃ R, weighQS L1 [id] r5 r2 = R := ⟨_, rfl⟩
      rw [hW2] at WW
      have H131 : Hid (E2 = 0 ∨ E2 = 131) := Lib.hid (by have q := weigh_131 hsg.1 hsg.2.1 hr5 hr2; rw [hW2] at q; exact q)
      have HF := Lib.hid (And.intro hsg (And.intro hsu (And.intro hW2 (And.intro hrr.1 (And.intro hmk (And.intro hMs (And.intro hM hrN)))))))
      have HG6 := Lib.hid hn6
      have HL6 := Lib.hid (hl1 ▸ len_set qs5 (mkR r1 each M X) : L1.length = qs5.length)
      have HUr := Lib.hid (And.intro hur (And.intro hr2 (And.intro hr5 (And.intro hNb (And.intro hNN hx)))))
      have e0 : (E1 != 0) = false := by rw [he]; rfl
      have HM0 : Hid (M = sh * 2 ^ 64 + sl) := Lib.hid hMs
      clear q hrr hur hN hW ho hl hr2 hr5 hNb hNN hM hl1 hms hid hsg hsu hn6 hsh hsl hmk hMs hsb hrM hrN hc1 hn1 hq1 hl0 hth htl htm htb hc2 hq2 hW2 hw hr hk hx hee he own7 hl6 HG1 HW1
      have zK120 := K12.cell 0
      go_wp2_with fail
      refine GG.out.mono ?_
      rintro r w13 ⟨rfl, h9⟩
      clear GG
      replace K10 := K10.below h9 K10.lt
      replace K12 := K12.below h9 K12.lt
      replace G6 := G6.below h9
      replace GB := GB.trans (h9.mono GB.size)
      clear h9
      clear zK120
      have K14 := Blk.new w13 40 #[.int .i64 r1, .int .i64 each, .int .u64 (sh : Int), .int .u64 (sl : Int), .int .u64 (X : Int)]
      replace K10 := K10.alloc (.cells #[.int .i64 r1, .int .i64 each, .int .u64 (sh : Int), .int .u64 (sl : Int), .int .u64 (X : Int)] 40)
      replace K12 := K12.alloc (.cells #[.int .i64 r1, .int .i64 each, .int .u64 (sh : Int), .int .u64 (sl : Int), .int .u64 (X : Int)] 40)
      replace G6 := G6.below ((Below.refl _ _).alloc (Nat.le_refl _) (.cells #[.int .i64 r1, .int .i64 each, .int .u64 (sh : Int), .int .u64 (sl : Int), .int .u64 (X : Int)] 40))
      replace GB := GB.alloc GB.size (.cells #[.int .i64 r1, .int .i64 each, .int .u64 (sh : Int), .int .u64 (sl : Int), .int .u64 (X : Int)] 40)
      have zK100 := K10.cell 0
      have zK101 := K10.cell 1
      have zK102 := K10.cell 2
      have zK103 := K10.cell 3
      have zK104 := K10.cell 4
      have zK140 := K14.cell 0
      have zK141 := K14.cell 1
      have zK142 := K14.cell 2
      have zK143 := K14.cell 3
      have zK144 := K14.cell 4
      go_wp2_with fail
      refine (C1.out _).mono ?_
      rintro r w14 ⟨rfl, h9⟩
      clear C1
      replace K10 := K10.below h9 K10.lt
      replace K12 := K12.below h9 K12.lt
      replace K14 := K14.below h9 K14.lt
      replace G6 := G6.below h9
      replace GB := GB.trans (h9.mono GB.size)
      clear h9
      clear zK100 zK101 zK102 zK103 zK104 zK140 zK141 zK142 zK143 zK144
      have zK140 := K14.cell 0
      have zK141 := K14.cell 1
      have zK142 := K14.cell 2
      have zK143 := K14.cell 3
      have zK144 := K14.cell 4
      go_wp2_with fail
      refine (D1.out _).mono ?_
      rintro r w15 ⟨rfl, h9⟩
      clear D1
      replace K10 := K10.below h9 K10.lt
      replace K12 := K12.below h9 K12.lt
      replace K14 := K14.below h9 K14.lt
      replace G6 := G6.below h9
      replace GB := GB.trans (h9.mono GB.size)
      clear h9
      clear zK140 zK141 zK142 zK143 zK144
      have K16 := Blk.new w15 36 #[.int .u64 (th : Int), .int .u64 (tl : Int), .int .u64 (X : Int)]
      replace K10 := K10.alloc (.cells #[.int .u64 (th : Int), .int .u64 (tl : Int), .int .u64 (X : Int)] 36)
      replace K12 := K12.alloc (.cells #[.int .u64 (th : Int), .int .u64 (tl : Int), .int .u64 (X : Int)] 36)
      replace K14 := K14.alloc (.cells #[.int .u64 (th : Int), .int .u64 (tl : Int), .int .u64 (X : Int)] 36)
      replace G6 := G6.below ((Below.refl _ _).alloc (Nat.le_refl _) (.cells #[.int .u64 (th : Int), .int .u64 (tl : Int), .int .u64 (X : Int)] 36))
      replace GB := GB.alloc GB.size (.cells #[.int .u64 (th : Int), .int .u64 (tl : Int), .int .u64 (X : Int)] 36)
      go_upto_region 12 with fail
      obtain ⟨Y, hY⟩ : ∃ Y, w15.alloc (.cells #[.int .u64 (th : Int), .int .u64 (tl : Int), .int .u64 (X : Int)] 36) = Y := ⟨_, rfl⟩
      obtain ⟨g14, hg14⟩ : ∃ g, w13.heap.size = g := ⟨_, rfl⟩
      obtain ⟨g16, hg16⟩ : ∃ g, w15.heap.size = g := ⟨_, rfl⟩
      rw [hY] at K10 K12 K14 K16 G6 GB ⊢
      rw [hg14] at K14 ⊢
      rw [hg16] at K16 ⊢
      clear hY hg14 hg16
      go_cut [100] (fun s100 Z => s100 = .bool false ∧ Below Y.heap.size Y Z)
      case first =>
        have a0 := K10.cell 0
        have a1 := K10.cell 1
        have a2 := K10.cell 2
        have a3 := K10.cell 3
        have a4 := K10.cell 4
        have d0 := K14.cell 0
        have d1 := K14.cell 1
        have d2 := K14.cell 2
        have d3 := K14.cell 3
        have d4 := K14.cell 4
        have f0 := K16.cell 0
        have f1 := K16.cell 1
        have f2 := K16.cell 2
        by_cases hs : sh = 0
        · have c1 : ((sh : Int) == 0) = true := by rw [hs]; rfl
          by_cases ht : sl = 0
          · have c2 : ((sl : Int) == 0) = true := by rw [ht]; rfl
            clear hs ht
            go_wp2_with fail
            go_meet
            exact ⟨rfl, Below.refl _ _⟩
          · have c2 : ((sl : Int) == 0) = false := by simp; omega
            have c3 := HB2.out (by rw [HM0.out]; omega)
            clear hs ht
            go_wp2_with fail
            refine (C2.out _).mono ?_
            rintro r w16 ⟨rfl, h9⟩
            go_wp2_with fail
            go_meet
            exact ⟨rfl, h9⟩
        · have c1 : ((sh : Int) == 0) = false := by simp; omega
          have c3 := HB2.out (by rw [HM0.out]; omega)
          clear hs
          go_wp2_with fail
          refine (C2.out _).mono ?_
          rintro r w16 ⟨rfl, h9⟩
          go_wp2_with fail
          go_meet
          exact ⟨rfl, h9⟩
      case rest =>
        obtain ⟨rfl, h9⟩ := hcut
        rename World => Z
        replace K10 := K10.below h9 K10.lt
        replace K12 := K12.below h9 K12.lt
        replace G6 := G6.below h9
        replace GB := GB.trans (h9.mono GB.size)
        clear h9 K14 K16 C2 HB2 HM0
        have zK120 := K12.cell 0
        have HIr : Hid (IR (Z.alloc (.cells #[.int .i64 id] 3)) (some ⟨Z.heap.size, 0, none⟩) 1 [id]) := Lib.hid ⟨reads_int1 Z 3 id rfl, by decide⟩
        replace K10 := K10.alloc (.cells #[.int .i64 id] 3)
        replace K12 := K12.alloc (.cells #[.int .i64 id] 3)
        replace G6 := G6.below ((Below.refl _ Z).alloc (Nat.le_refl _) (.cells #[.int .i64 id] 3))
        replace GB := GB.alloc GB.size (.cells #[.int .i64 id] 3)
        have zK100 := K10.cell 0
        have zK101 := K10.cell 1
        have zK102 := K10.cell 2
        have zK103 := K10.cell 3
        have zK104 := K10.cell 4
        have WX := Lib.hid (WW.out (some ⟨Z.heap.size, 0, none⟩) 1 _ G6 HIr.out)
        go_wp2_with fail
        refine WX.out.mono ?_
        rintro r w17 ⟨A8, n8, c8, rfl, hl8, own8, h9⟩
        clear WX WW HIr
        replace K10 := K10.below h9 K10.lt
        replace K12 := K12.below h9 K12.lt
        replace G6 := G6.below h9
        replace GB := GB.trans (h9.mono GB.size)
        clear h9 K12 G6 zK120 zK100 zK101 zK102 zK103 zK104
        have K18 := Blk.new w17 26 #[.slice A8 n8 c8]
        replace K10 := K10.alloc (.cells #[.slice A8 n8 c8] 26)
        replace GB := GB.alloc GB.size (.cells #[.slice A8 n8 c8] 26)
        have own9 := own8.alloc (.cells #[.slice A8 n8 c8] 26)
        clear own8
        go_upto_region 15 with fail
        obtain ⟨Y2, hY2⟩ : ∃ Y, w17.alloc (.cells #[.slice A8 n8 c8] 26) = Y := ⟨_, rfl⟩
        obtain ⟨g18, hg18⟩ : ∃ g, w17.heap.size = g := ⟨_, rfl⟩
        rw [hY2] at K10 K18 GB own9 ⊢
        rw [hg18] at K18 ⊢
        clear hY2 hg18
        by_cases he2 : E2 = 0
        · have hF := HF.out
          obtain ⟨⟨hg1, hg2, hg3⟩, hsu, hW2, hri, hmk, hMs, hM, hrN⟩ := hF
          obtain ⟨hur, hr2, hr5, hNb, hNN, hx⟩ := HUr.out
          obtain ⟨s, hr', hk', hx', hee', ho', hl'⟩ := weigh_one (qs := L1) (id := id) (x := r5) (each := r2) (by rw [hW2]; exact he2)
          rw [hg2] at hk'
          injection hk' with hk'
          subst hk'
          have hN2 : rN (r1, each, sh, sl, X) = M := hMs.symm
          have hW2' : rW (r1, each, sh, sl, X) = X := rfl
          rw [hN2, hW2'] at ho' hl'
          obtain ⟨M2, hM2⟩ : ∃ k, overW M r5 X = k := ⟨_, rfl⟩
          rw [hM2] at ho' hl'
          have hl2 : L2 = setK L1 (mkR r1 r2 M2 r5) := by rw [← hl', hW2]
          have hms := mk_right hri hr2 hr5 ho'
          have hsg := set_get hg1 hg2 hms.1 rfl
          have hsu2 := set_uq hsu hms.2
          rw [← hl2] at hsg hsu2
          have hn8 : n8 ≤ 1000 := by
            have h1 : L2.length = L1.length := by rw [hl2]; exact len_set _ _
            have := HL6.out
            have := HL5.out
            have := HN5.out
            omega
          have G8 := qr_own own9 hn8 hsu2
          obtain ⟨uh, huh⟩ : ∃ k, M2 / 2 ^ 64 = k := ⟨_, rfl⟩
          obtain ⟨ul, hul⟩ : ∃ k, M2 % 2 ^ 64 = k := ⟨_, rfl⟩
          have hmk2 : mkR r1 r2 M2 r5 = (r1, r2, uh, ul, r5) := by rw [← huh, ← hul]; rfl
          have hM2s : M2 = uh * 2 ^ 64 + ul := by omega
          have hub : uh < 2 ^ 64 ∧ ul < 2 ^ 64 := by omega
          rw [hmk2] at hsg
          have GG := Lib.hid (HGe.out A8 n8 c8 L2 Y2 G8)
          rw [hsg.2.2] at GG
          unfold agR at GG
          have C3 := Lib.hid (fun (u : World) => cmp_call uh ul r5 r3 r4 r5 u hub.1 hub.2 hur.2.2 hur.1 hur.2.1 hur.2.2)
          rw [← hM2s, hNN] at C3
          have hc3 : cmpR M2 r5 N r5 = cmpW (M2 * r5) (N * r5) := by unfold cmpR; rw [rightN_yes hr5.1 hr5.2 ho', hrN, Bool.and_true, if_pos rfl]
          have hn3 := weigh_back (N := N) (x := r5) (X := X) hr5.1 hx.1
          rw [hM, hM2, ← hc3] at hn3
          obtain ⟨q3, hq3⟩ : ∃ q, cmpR M2 r5 N r5 = q := ⟨_, rfl⟩
          rw [hq3] at C3 hn3
          have b3 : decide (0 ≤ q3) = true := decide_eq_true (by omega)
          have e2 : (E2 != 0) = false := by rw [he2]; rfl
          clear hg1 hg2 hg3 hsu hW2 hri hmk hMs hM hrN hur hr2 hr5 hNb hNN hx hr' hx' hee' ho' hl' hN2 hW2' hM2 hl2 hms hsg hsu2 hn8 huh hul hmk2 hM2s hub hc3 hn3 hq3 he2 own9 hl8
          have zK180 := K18.cell 0
          go_wp2_with fail
          refine GG.out.mono ?_
          rintro r w18 ⟨rfl, h9⟩
          clear GG G8
          replace K10 := K10.below h9 K10.lt
          replace K18 := K18.below h9 K18.lt
          replace GB := GB.trans (h9.mono GB.size)
          clear h9 K18
          clear zK180
          have K19 := Blk.new w18 40 #[.int .i64 r1, .int .i64 r2, .int .u64 (uh : Int), .int .u64 (ul : Int), .int .u64 (r5 : Int)]
          replace K10 := K10.alloc (.cells #[.int .i64 r1, .int .i64 r2, .int .u64 (uh : Int), .int .u64 (ul : Int), .int .u64 (r5 : Int)] 40)
          replace GB := GB.alloc GB.size (.cells #[.int .i64 r1, .int .i64 r2, .int .u64 (uh : Int), .int .u64 (ul : Int), .int .u64 (r5 : Int)] 40)
          have zK100 := K10.cell 0
          have zK101 := K10.cell 1
          have zK102 := K10.cell 2
          have zK103 := K10.cell 3
          have zK104 := K10.cell 4
          have zK190 := K19.cell 0
          have zK191 := K19.cell 1
          have zK192 := K19.cell 2
          have zK193 := K19.cell 3
          have zK194 := K19.cell 4
          go_wp2_with fail
          refine (C3.out _).mono ?_
          rintro r w19 ⟨rfl, h9⟩
          clear C3
          replace K10 := K10.below h9 K10.lt
          replace K19 := K19.below h9 K19.lt
          replace GB := GB.trans (h9.mono GB.size)
          clear h9
          clear zK100 zK101 zK102 zK103 zK104 zK190 zK191 zK192 zK193 zK194
          go_wp2
          go_ret
          exact ⟨rfl, GB⟩
        · have h131 := H131.out.resolve_left he2
          have e2 : (E2 != 0) = true := by simpa using he2
          have e3 : (E2 == 131) = true := by rw [h131]; rfl
          clear he2 h131
          go_wp2
          go_ret
          exact ⟨rfl, GB⟩
    · have hL : L1 = [] := by have q := weigh_none (qs := qs5) (id := id) (x := X) (each := each) (by rw [HW1.out]; exact he); rw [HW1.out] at q; exact q
      have e0 : (E1 != 0) = true := by simpa using he
      have e1 : ((n6 : Int) == 0) = true := by
        have : n6 = 0 := by rw [← hl6, hL]; rfl
        rw [this]; rfl
      have z0 := K12.cell 0
      clear hL he hl6 own7 K10 K12 HG1 HW1
      go_wp2_with fail
      go_ret
      exact ⟨rfl, GB⟩
end Go.Proofs.Ytfgabmelmopgdaa
