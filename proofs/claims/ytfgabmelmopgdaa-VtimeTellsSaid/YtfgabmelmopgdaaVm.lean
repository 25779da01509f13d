/-
  The statements' wakes. No statement is proved here.
-/
import Derived.Test.YtfgabmelmopgdaaVl
import Derived.Deep.DeepCutAuto
namespace Go.Proofs.Ytfgabmelmopgdaa
open Go.RowKit

def q0 : List Rn := [(1, 1, 0, 100, 10), (2, 2, 0, 300, 20)]
def q1 : List Rn := [(1, 1, 0, 100, 10), (2, 2, 0, 300, 20), (3, 1, 0, 360, 30)]
def q2 : List Rn := [(1, 1, 0, 100, 10), (2, 2, 0, 320, 20)]
theorem val1 : joinQS q0 (3, 1, 0, 0, 30) 90 = (q1, 0) := by kernel_rfl
theorem val2 : runQS q0 [2] 10 = (q2, 0) := by kernel_rfl
theorem val3 : getQ q1 3 = ((3, 1, 0, 360, 30), true) := by kernel_rfl
theorem uq_of {l : List Rn} (h : (l.all fun r => decide (r.2.2.1 < 2 ^ 64) && decide (r.2.2.2.1 < 2 ^ 64) && decide (r.2.2.2.2 < 2 ^ 64)) = true) : UQ l := fun r hr => by
  have q := List.all_eq_true.1 h r hr
  simp only [Bool.and_eq_true, decide_eq_true_eq] at q
  exact ⟨q.1.1, q.1.2, q.2⟩
theorem qr_own {w : World} {base n c : Nat} {A : Option Addr} {l : List Rn} (h : w.ownsRow base 40 5 (.slice A n c) n (flat rv l)) (hn : n ≤ 1000) (hU : UQ l) : QR w A n c l := by
  refine ⟨Reads.of_own h, ?_, hn, hU⟩
  rcases h.2 with ⟨h2, h3⟩ | ⟨g, cap, cur, h2, _, _, h3, _⟩
  · omega
  · injection h2 with _ _ e; omega

theorem qr_set {w : World} {g n c gA : Nat} {l : List Rn} (h : QR w (some ⟨gA, 0, none⟩) n c l) (hg : some gA ≠ some g) (v : Value) : QR (w.setCell ⟨g, 0, none⟩ v) (some ⟨gA, 0, none⟩) n c l := by
  refine ⟨⟨h.row.1, fun h0 => ?_⟩, h.nc, h.small, h.ur⟩
  obtain ⟨ad, e, hb, hc⟩ := h.row.2 h0
  injection e with e
  subst e
  refine ⟨_, rfl, by simpa [World.setCell] using hb, fun j u hj => ?_⟩
  rw [World.cell?_setCell_other w _ _ v (fun hh => by
    rw [Addr.add_lit] at hh
    injection hh with hh
    exact hg (by rw [hh]))]
  exact hc j u hj
theorem qr_box {w : World} {g n c : Nat} {A : Option Addr} {l : List Rn} {x : Value} (h : QR w A n c l) (K : Blk w g 26 #[x]) (v : Value) (hx : ∃ A' n' c', x = .slice A' n' c' := by exact ⟨_, _, _, rfl⟩) : QR (w.setCell ⟨g, 0, none⟩ v) A n c l := by
  refine ⟨⟨h.row.1, fun h0 => ?_⟩, h.nc, h.small, h.ur⟩
  obtain ⟨ad, e, hb, hc⟩ := h.row.2 h0
  refine ⟨ad, e, by simpa [World.setCell] using hb, fun j u hj => ?_⟩
  have q := hc j u hj
  by_cases hh : ad.add j = ⟨g, 0, none⟩
  · exfalso
    rw [hh, K.cell 0] at q
    obtain ⟨A', n', c', rfl⟩ := hx
    have hu := (List.getElem?_eq_some_iff.1 hj)
    have hm : u ∈ flat rv l := List.mem_of_getElem? hj
    unfold flat at hm
    obtain ⟨r, _, hr⟩ := List.mem_flatMap.1 hm
    simp at q
    subst q
    simp [rv] at hr
  · rw [World.cell?_setCell_other w _ _ v (fun e => hh e.symm)]
    exact q

set_option maxRecDepth 100000 in
set_option maxHeartbeats 16000000 in
theorem wakes_any (w : World) : Calls Try.prog 9 #[] w (Said (.bool true) w) := by
  have HO1 : Hid (∀ u, Calls Try.prog 32 #[.int .u64 100, .int .u64 10] u (Said (.agg #[.int .u64 0, .int .u64 100, .int .u64 10]) u)) := Lib.hid (fun u => over_lit 100 10 u)
  have HO2 : Hid (∀ u, Calls Try.prog 32 #[.int .u64 300, .int .u64 20] u (Said (.agg #[.int .u64 0, .int .u64 300, .int .u64 20]) u)) := Lib.hid (fun u => over_lit 300 20 u)
  have HO3 : Hid (∀ u, Calls Try.prog 32 #[.int .u64 0, .int .u64 30] u (Said (.agg #[.int .u64 0, .int .u64 0, .int .u64 30]) u)) := Lib.hid (fun u => over_lit 0 30 u)
  have HO4 : Hid (∀ u, Calls Try.prog 32 #[.int .u64 360, .int .u64 30] u (Said (.agg #[.int .u64 0, .int .u64 360, .int .u64 30]) u)) := Lib.hid (fun u => over_lit 360 30 u)
  have HO5 : Hid (∀ u, Calls Try.prog 32 #[.int .u64 320, .int .u64 20] u (Said (.agg #[.int .u64 0, .int .u64 320, .int .u64 20]) u)) := Lib.hid (fun u => over_lit 320 20 u)
  have HJo : Hid (∀ (A : Option Addr) (n c : Nat) (u : World), QR u A n c q0 → Calls Try.prog 21 #[.agg #[.slice A n c], .agg #[.int .i64 3, .int .i64 1, .int .u64 0, .int .u64 0, .int .u64 30], .int .u64 90] u (GivesQ (q1, 0) u)) := Lib.hid (fun A n c u h => val1 ▸ join_any A n c q0 3 1 0 0 30 90 u h ⟨by decide, by decide, by decide⟩)
  have HRu : Hid (∀ (A : Option Addr) (n c : Nat) (A2 : Option Addr) (c2 : Nat) (u : World), QR u A n c q0 → IR u A2 1 [2] → Calls Try.prog 28 #[.agg #[.slice A n c], .slice A2 1 c2, .int .i64 10] u (GivesQ (q2, 0) u)) := Lib.hid (fun A n c A2 c2 u h hI => val2 ▸ run_any A n c q0 A2 1 c2 [2] 10 u h hI)
  have HGe : Hid (∀ (A : Option Addr) (n c : Nat) (u : World), QR u A n c q1 → Calls Try.prog 17 #[.agg #[.slice A n c], .int .i64 3] u (Said (.tuple #[.agg #[.int .i64 3, .int .i64 1, .int .u64 0, .int .u64 360, .int .u64 30], .bool true]) u)) := Lib.hid (fun A n c u h => by
    have q := get_any A n c q1 3 u h
    rw [val3] at q
    exact q)
  have GB := Below.refl w.heap.size w
  go_enter Try.func9, Try.ntmps9
  go_wp2_with fail
  refine (HO1.out _).mono ?_
  rintro e w1 ⟨rfl, h9⟩
  replace GB := GB.trans (h9.mono GB.size)
  clear h9
  go_wp2_with fail
  refine (HO2.out _).mono ?_
  rintro e w2 ⟨rfl, h9⟩
  replace GB := GB.trans (h9.mono GB.size)
  clear h9
  have KA := Blk.new w2 40 #[.int .i64 1, .int .i64 1, .int .u64 0, .int .u64 100, .int .u64 10, .int .i64 2, .int .i64 2, .int .u64 0, .int .u64 300, .int .u64 20]
  replace GB := GB.alloc GB.size (.cells #[.int .i64 1, .int .i64 1, .int .u64 0, .int .u64 100, .int .u64 10, .int .i64 2, .int .i64 2, .int .u64 0, .int .u64 300, .int .u64 20] 40)
  have HGq : QR (w2.alloc (.cells #[.int .i64 1, .int .i64 1, .int .u64 0, .int .u64 100, .int .u64 10, .int .i64 2, .int .i64 2, .int .u64 0, .int .u64 300, .int .u64 20] 40)) (some ⟨w2.heap.size, 0, none⟩) 2 2 q0 := ⟨⟨rfl, fun _ => ⟨_, rfl, KA.lt, fun j u hj => by
    rw [Addr.add_lit, Nat.zero_add, KA.cell j]
    simpa [flat, rv, q0] using hj⟩⟩, by decide, by decide, uq_of (by kernel_rfl)⟩
  obtain ⟨gA, hgA⟩ : ∃ g, w2.heap.size = g := ⟨_, rfl⟩
  have KQ := Blk.new (w2.alloc (.cells #[.int .i64 1, .int .i64 1, .int .u64 0, .int .u64 100, .int .u64 10, .int .i64 2, .int .i64 2, .int .u64 0, .int .u64 300, .int .u64 20] 40)) 26 #[.slice (some ⟨gA, 0, none⟩) 2 2]
  replace KA := KA.alloc (.cells #[.slice (some ⟨gA, 0, none⟩) 2 2] 26)
  replace HGq := HGq.below ((Below.refl _ _).alloc (Nat.le_refl _) (.cells #[.slice (some ⟨gA, 0, none⟩) 2 2] 26))
  replace GB := GB.alloc GB.size (.cells #[.slice (some ⟨gA, 0, none⟩) 2 2] 26)
  rw [show (w2.alloc (.cells #[.int .i64 1, .int .i64 1, .int .u64 0, .int .u64 100, .int .u64 10, .int .i64 2, .int .i64 2, .int .u64 0, .int .u64 300, .int .u64 20] 40)).heap.size = gA + 1 by simp [hgA]] at KQ
  rw [hgA] at HGq
  clear KA
  go_upto_region 2 with fail
  clear hgA
  generalize ((w2.alloc (.cells #[.int .i64 1, .int .i64 1, .int .u64 0, .int .u64 100, .int .u64 10, .int .i64 2, .int .i64 2, .int .u64 0, .int .u64 300, .int .u64 20] 40)).alloc (.cells #[.slice (some ⟨gA, 0, none⟩) 2 2] 26)) = X2 at KQ HGq GB ⊢
  go_cut [2, 3] (fun s2 s3 X => ∃ (g2 : Nat) (A3 : Option Addr) (n3 c3 : Nat), s2 = .pointer (some ⟨g2, 0, none⟩) ∧ s3 = .int .i64 0 ∧ Blk X g2 26 #[.slice A3 n3 c3] ∧ QR X A3 n3 c3 q1 ∧ Blk X (gA + 1) 26 #[.slice (some ⟨gA, 0, none⟩) 2 2] ∧ QR X (some ⟨gA, 0, none⟩) 2 2 q0 ∧ Below w.heap.size w X)
  case first =>
    clear HO1 HO2 HO4 HO5 HRu HGe
    replace KQ : Blk X2.drew _ _ _ := KQ
    replace HGq := HGq.below ((Below.refl _ X2).drew)
    replace GB := GB.drew
    refine wp_region_held_drew (S := fun u => Below w.heap.size w u ∧ Blk u (gA + 1) 26 #[.slice (some ⟨gA, 0, none⟩) 2 2]) (by kernel_rfl) ⟨GB, KQ⟩ (fun hS => ?_)
    generalize X2.drew = V at KQ HGq GB hS ⊢
    refine wpAnyH_take (i := 0) (v := .agg #[.slice (some ⟨gA, 0, none⟩) 2 2]) rfl (by kernel_rfl) (by kernel_rfl) (by kernel_rfl) (fun _ _ _ h => h) (Or.inl ⟨by kernel_rfl, fun u hSw => (by have q0 := hSw.2.cell 0; go_simp)⟩) hS ?_
    change wpAnyH _ _ _ _ _ _ _ (Act.put _ (some 15) _) _
    simp only [Act.put]
    refine wpAnyH_ready (rs := [1, 7]) (by kernel_rfl) (by simp) ?_
    refine AllReadyH.cons rfl (fun K hK => ?_) (AllReadyH.cons rfl (fun K hK => ?_) (AllReadyH.nil))
    · skip
      go_simp
      refine (HO3.out _).mono ?_
      rintro e1 w1 ⟨rfl, h9⟩
      replace KQ := KQ.below h9 KQ.lt
      replace HGq := HGq.below h9
      replace GB := GB.trans (h9.mono GB.size)
      clear h9
      refine hK.out _ _ ⟨GB, KQ⟩ (fun hS => ?_)
      clear hK K
      refine wpAnyH_take (i := 2) (v := .agg #[.int .i64 3, .int .i64 1, .int .u64 0, .int .u64 0, .int .u64 30]) rfl (by kernel_rfl) (by kernel_rfl) (by kernel_rfl) (fun _ _ _ h => h) (Or.inl ⟨by kernel_rfl, fun u hSw => (by go_simp)⟩) hS ?_
      change wpAnyH _ _ _ _ _ _ _ (Act.put _ (some 17) _) _
      simp only [Act.put]
      refine wpAnyH_ready (rs := [3, 7]) (by kernel_rfl) (by simp) ?_
      refine AllReadyH.cons rfl (fun K hK => ?_) (AllReadyH.cons rfl (fun K hK => ?_) (AllReadyH.nil))
      · skip
        go_simp
        refine (HJo.out _ _ _ _ HGq).mono ?_
        rintro e2 w2 ⟨A3, n3, c3, rfl, hl3, own3, h9⟩
        replace KQ := KQ.below h9 KQ.lt
        replace HGq := HGq.below h9
        replace GB := GB.trans (h9.mono GB.size)
        have G1 := qr_own own3 (by rw [← hl3]; decide) (uq_of (by kernel_rfl))
        clear own3
        clear h9
        refine hK.out _ _ ⟨GB, KQ⟩ (fun hS => ?_)
        clear hK K
        refine wpAnyH_take (i := 4) (v := .tuple #[.agg #[.slice A3 n3 c3], .int .i64 0]) rfl (by kernel_rfl) (by kernel_rfl) (by kernel_rfl) (fun _ _ _ h => h) (Or.inl ⟨by kernel_rfl, fun u hSw => (by go_simp)⟩) hS ?_
        change wpAnyH _ _ _ _ _ _ _ (Act.put _ (some 14) _) _
        simp only [Act.put]
        refine wpAnyH_take (i := 5) (v := .agg #[.slice A3 n3 c3]) rfl (by kernel_rfl) (by kernel_rfl) (by kernel_rfl) (fun _ _ _ h => h) (Or.inl ⟨by kernel_rfl, fun u hSw => (by go_simp)⟩) hS ?_
        change wpAnyH _ _ _ _ _ _ _ (Act.put _ (some 19) _) _
        simp only [Act.put]
        refine wpAnyH_take (i := 6) (v := .int .i64 0) rfl (by kernel_rfl) (by kernel_rfl) (by kernel_rfl) (fun _ _ _ h => h) (Or.inl ⟨by kernel_rfl, fun u hSw => (by go_simp)⟩) hS ?_
        change wpAnyH _ _ _ _ _ _ _ (Act.put _ (some 20) _) _
        simp only [Act.put]
        refine wpAnyH_ready (rs := [7]) (by kernel_rfl) (by simp) ?_
        refine AllReadyH.cons rfl (fun K hK => ?_) AllReadyH.nil
        have hq := KQ.lt
        have K2 := Blk.new w2 26 #[.slice none 0 0]
        have hg2 := GB.size
        have GB2 := GB.alloc GB.size (.cells #[.slice none 0 0] 26)
        replace KQ := KQ.alloc (.cells #[.slice none 0 0] 26)
        replace HGq := HGq.below ((Below.refl _ w2).alloc (Nat.le_refl _) (.cells #[.slice none 0 0] 26))
        replace G1 := G1.below ((Below.refl _ w2).alloc (Nat.le_refl _) (.cells #[.slice none 0 0] 26))
        go_simp
        generalize w2.alloc (.cells #[.slice none 0 0] 26) = Xa3 at K2 GB2 KQ HGq G1 ⊢
        refine hK.out _ _ ⟨GB2, KQ⟩ (fun hS => ?_)
        clear hK K
        replace GB := GB2
        clear GB2
        refine wpAnyH_ready (rs := [8]) (by kernel_rfl) (by simp) ?_
        refine AllReadyH.cons rfl (fun K hK => ?_) AllReadyH.nil
        have d0 := K2.cell 0
        have f0 := K2.frozen 0
        have hne : gA + 1 ≠ w2.heap.size := by omega
        have HP := put1 (x := .slice A3 n3 c3) K2 GB hg2
        have KQ2 := KQ.far (p := ⟨w2.heap.size, 0, none⟩) hne (.slice A3 n3 c3)
        have GQ2 := qr_set HGq (g := w2.heap.size) (fun h => by injection h with h; omega) (.slice A3 n3 c3)
        have G12 := qr_box G1 K2 (.slice A3 n3 c3)
        go_simp
        refine hK.out _ _ ⟨HP.2, KQ2⟩ (fun hS => ?_)
        clear hK K d0 f0 K2 GB KQ HGq G1 hq
        refine wpAnyH_take (i := 9) (v := .int .i64 0) rfl (by kernel_rfl) (by kernel_rfl) (by kernel_rfl) (fun _ _ _ h => h) (Or.inl ⟨by kernel_rfl, fun u hSw => (by go_simp)⟩) hS ?_
        change wpAnyH _ _ _ _ _ _ _ (Act.put _ (some 3) _) _
        simp only [Act.put]
        refine wpAnyH_done (by kernel_rfl) ?_ _
        clear hS
        go_wp2_with fail
        go_meet
        exact ⟨_, _, _, _, rfl, rfl, HP.1, G12, KQ2, GQ2, HP.2⟩
      · skip
        have hq := KQ.lt
        have K2 := Blk.new w1 26 #[.slice none 0 0]
        have hg2 := GB.size
        have GB2 := GB.alloc GB.size (.cells #[.slice none 0 0] 26)
        replace KQ := KQ.alloc (.cells #[.slice none 0 0] 26)
        replace HGq := HGq.below ((Below.refl _ w1).alloc (Nat.le_refl _) (.cells #[.slice none 0 0] 26))
        go_simp
        generalize w1.alloc (.cells #[.slice none 0 0] 26) = Xa5 at K2 GB2 KQ HGq ⊢
        refine hK.out _ _ ⟨GB2, KQ⟩ (fun hS => ?_)
        clear hK K
        replace GB := GB2
        clear GB2
        refine wpAnyH_ready (rs := [3]) (by kernel_rfl) (by simp) ?_
        refine AllReadyH.cons rfl (fun K hK => ?_) AllReadyH.nil
        go_simp
        refine (HJo.out _ _ _ _ HGq).mono ?_
        rintro e6 w6 ⟨A3, n3, c3, rfl, hl3, own3, h9⟩
        replace KQ := KQ.below h9 KQ.lt
        replace HGq := HGq.below h9
        replace GB := GB.trans (h9.mono GB.size)
        replace K2 := K2.below h9 K2.lt
        have G1 := qr_own own3 (by rw [← hl3]; decide) (uq_of (by kernel_rfl))
        clear own3
        clear h9
        refine hK.out _ _ ⟨GB, KQ⟩ (fun hS => ?_)
        clear hK K
        refine wpAnyH_take (i := 4) (v := .tuple #[.agg #[.slice A3 n3 c3], .int .i64 0]) rfl (by kernel_rfl) (by kernel_rfl) (by kernel_rfl) (fun _ _ _ h => h) (Or.inl ⟨by kernel_rfl, fun u hSw => (by go_simp)⟩) hS ?_
        change wpAnyH _ _ _ _ _ _ _ (Act.put _ (some 14) _) _
        simp only [Act.put]
        refine wpAnyH_take (i := 5) (v := .agg #[.slice A3 n3 c3]) rfl (by kernel_rfl) (by kernel_rfl) (by kernel_rfl) (fun _ _ _ h => h) (Or.inl ⟨by kernel_rfl, fun u hSw => (by go_simp)⟩) hS ?_
        change wpAnyH _ _ _ _ _ _ _ (Act.put _ (some 19) _) _
        simp only [Act.put]
        refine wpAnyH_take (i := 6) (v := .int .i64 0) rfl (by kernel_rfl) (by kernel_rfl) (by kernel_rfl) (fun _ _ _ h => h) (Or.inl ⟨by kernel_rfl, fun u hSw => (by go_simp)⟩) hS ?_
        change wpAnyH _ _ _ _ _ _ _ (Act.put _ (some 20) _) _
        simp only [Act.put]
        refine wpAnyH_ready (rs := [8]) (by kernel_rfl) (by simp) ?_
        refine AllReadyH.cons rfl (fun K hK => ?_) AllReadyH.nil
        have d0 := K2.cell 0
        have f0 := K2.frozen 0
        have hne : gA + 1 ≠ w1.heap.size := by omega
        have HP := put1 (x := .slice A3 n3 c3) K2 GB hg2
        have KQ2 := KQ.far (p := ⟨w1.heap.size, 0, none⟩) hne (.slice A3 n3 c3)
        have GQ2 := qr_set HGq (g := w1.heap.size) (fun h => by injection h with h; omega) (.slice A3 n3 c3)
        have G12 := qr_box G1 K2 (.slice A3 n3 c3)
        go_simp
        refine hK.out _ _ ⟨HP.2, KQ2⟩ (fun hS => ?_)
        clear hK K d0 f0 K2 GB KQ HGq G1 hq
        refine wpAnyH_take (i := 9) (v := .int .i64 0) rfl (by kernel_rfl) (by kernel_rfl) (by kernel_rfl) (fun _ _ _ h => h) (Or.inl ⟨by kernel_rfl, fun u hSw => (by go_simp)⟩) hS ?_
        change wpAnyH _ _ _ _ _ _ _ (Act.put _ (some 3) _) _
        simp only [Act.put]
        refine wpAnyH_done (by kernel_rfl) ?_ _
        clear hS
        go_wp2_with fail
        go_meet
        exact ⟨_, _, _, _, rfl, rfl, HP.1, G12, KQ2, GQ2, HP.2⟩
    · skip
      have hq := KQ.lt
      have K2 := Blk.new V 26 #[.slice none 0 0]
      have hg2 := GB.size
      have GB2 := GB.alloc GB.size (.cells #[.slice none 0 0] 26)
      replace KQ := KQ.alloc (.cells #[.slice none 0 0] 26)
      replace HGq := HGq.below ((Below.refl _ V).alloc (Nat.le_refl _) (.cells #[.slice none 0 0] 26))
      go_simp
      generalize V.alloc (.cells #[.slice none 0 0] 26) = Xa8 at K2 GB2 KQ HGq ⊢
      refine hK.out _ _ ⟨GB2, KQ⟩ (fun hS => ?_)
      clear hK K
      replace GB := GB2
      clear GB2
      refine wpAnyH_ready (rs := [1]) (by kernel_rfl) (by simp) ?_
      refine AllReadyH.cons rfl (fun K hK => ?_) AllReadyH.nil
      go_simp
      refine (HO3.out _).mono ?_
      rintro e9 w9 ⟨rfl, h9⟩
      replace KQ := KQ.below h9 KQ.lt
      replace HGq := HGq.below h9
      replace GB := GB.trans (h9.mono GB.size)
      replace K2 := K2.below h9 K2.lt
      clear h9
      refine hK.out _ _ ⟨GB, KQ⟩ (fun hS => ?_)
      clear hK K
      refine wpAnyH_take (i := 2) (v := .agg #[.int .i64 3, .int .i64 1, .int .u64 0, .int .u64 0, .int .u64 30]) rfl (by kernel_rfl) (by kernel_rfl) (by kernel_rfl) (fun _ _ _ h => h) (Or.inl ⟨by kernel_rfl, fun u hSw => (by go_simp)⟩) hS ?_
      change wpAnyH _ _ _ _ _ _ _ (Act.put _ (some 17) _) _
      simp only [Act.put]
      refine wpAnyH_ready (rs := [3]) (by kernel_rfl) (by simp) ?_
      refine AllReadyH.cons rfl (fun K hK => ?_) AllReadyH.nil
      go_simp
      refine (HJo.out _ _ _ _ HGq).mono ?_
      rintro e10 w10 ⟨A3, n3, c3, rfl, hl3, own3, h9⟩
      replace KQ := KQ.below h9 KQ.lt
      replace HGq := HGq.below h9
      replace GB := GB.trans (h9.mono GB.size)
      replace K2 := K2.below h9 K2.lt
      have G1 := qr_own own3 (by rw [← hl3]; decide) (uq_of (by kernel_rfl))
      clear own3
      clear h9
      refine hK.out _ _ ⟨GB, KQ⟩ (fun hS => ?_)
      clear hK K
      refine wpAnyH_take (i := 4) (v := .tuple #[.agg #[.slice A3 n3 c3], .int .i64 0]) rfl (by kernel_rfl) (by kernel_rfl) (by kernel_rfl) (fun _ _ _ h => h) (Or.inl ⟨by kernel_rfl, fun u hSw => (by go_simp)⟩) hS ?_
      change wpAnyH _ _ _ _ _ _ _ (Act.put _ (some 14) _) _
      simp only [Act.put]
      refine wpAnyH_take (i := 5) (v := .agg #[.slice A3 n3 c3]) rfl (by kernel_rfl) (by kernel_rfl) (by kernel_rfl) (fun _ _ _ h => h) (Or.inl ⟨by kernel_rfl, fun u hSw => (by go_simp)⟩) hS ?_
      change wpAnyH _ _ _ _ _ _ _ (Act.put _ (some 19) _) _
      simp only [Act.put]
      refine wpAnyH_take (i := 6) (v := .int .i64 0) rfl (by kernel_rfl) (by kernel_rfl) (by kernel_rfl) (fun _ _ _ h => h) (Or.inl ⟨by kernel_rfl, fun u hSw => (by go_simp)⟩) hS ?_
      change wpAnyH _ _ _ _ _ _ _ (Act.put _ (some 20) _) _
      simp only [Act.put]
      refine wpAnyH_ready (rs := [8]) (by kernel_rfl) (by simp) ?_
      refine AllReadyH.cons rfl (fun K hK => ?_) AllReadyH.nil
      have d0 := K2.cell 0
      have f0 := K2.frozen 0
      have hne : gA + 1 ≠ V.heap.size := by omega
      have HP := put1 (x := .slice A3 n3 c3) K2 GB hg2
      have KQ2 := KQ.far (p := ⟨V.heap.size, 0, none⟩) hne (.slice A3 n3 c3)
      have GQ2 := qr_set HGq (g := V.heap.size) (fun h => by injection h with h; omega) (.slice A3 n3 c3)
      have G12 := qr_box G1 K2 (.slice A3 n3 c3)
      go_simp
      refine hK.out _ _ ⟨HP.2, KQ2⟩ (fun hS => ?_)
      clear hK K d0 f0 K2 GB KQ HGq G1 hq
      refine wpAnyH_take (i := 9) (v := .int .i64 0) rfl (by kernel_rfl) (by kernel_rfl) (by kernel_rfl) (fun _ _ _ h => h) (Or.inl ⟨by kernel_rfl, fun u hSw => (by go_simp)⟩) hS ?_
      change wpAnyH _ _ _ _ _ _ _ (Act.put _ (some 3) _) _
      simp only [Act.put]
      refine wpAnyH_done (by kernel_rfl) ?_ _
      clear hS
      go_wp2_with fail
      go_meet
      exact ⟨_, _, _, _, rfl, rfl, HP.1, G12, KQ2, GQ2, HP.2⟩
  case rest =>
    obtain ⟨g2, A3, n3, c3, rfl, rfl, K2, G1, KQ, HGq, GB⟩ := hcut
    rename World => X
    have zKQ0 := KQ.cell 0
    have HIr : Hid (IR (X.alloc (.cells #[.int .i64 2] 3)) (some ⟨X.heap.size, 0, none⟩) 1 [2]) := Lib.hid ⟨reads_int1 X 3 2 rfl, by decide⟩
    have HG2 := Lib.hid (HGq.below ((Below.refl _ X).alloc (Nat.le_refl _) (.cells #[.int .i64 2] 3)))
    replace K2 := K2.alloc (.cells #[.int .i64 2] 3)
    replace KQ := KQ.alloc (.cells #[.int .i64 2] 3)
    replace G1 := G1.below ((Below.refl _ X).alloc (Nat.le_refl _) (.cells #[.int .i64 2] 3))
    replace GB := GB.alloc GB.size (.cells #[.int .i64 2] 3)
    clear HGq
    go_wp2_with fail
    refine (HRu.out _ _ _ _ _ _ HG2.out HIr.out).mono ?_
    rintro r w6 ⟨A4, n4, c4, rfl, hl4, own4, h9⟩
    obtain rfl : 2 = n4 := hl4
    replace K2 := K2.below h9 K2.lt
    replace KQ := KQ.below h9 KQ.lt
    replace G1 := G1.below h9
    replace GB := GB.trans (h9.mono GB.size)
    have G4 := qr_own own4 (by decide) (uq_of (by kernel_rfl))
    clear h9 own4 HIr HG2 HRu KQ
    clear zKQ0
    have K4 := Blk.new w6 26 #[.slice A4 2 c4]
    replace K2 := K2.alloc (.cells #[.slice A4 2 c4] 26)
    replace G1 := G1.below ((Below.refl _ _).alloc (Nat.le_refl _) (.cells #[.slice A4 2 c4] 26))
    replace G4 := G4.below ((Below.refl _ _).alloc (Nat.le_refl _) (.cells #[.slice A4 2 c4] 26))
    replace GB := GB.alloc GB.size (.cells #[.slice A4 2 c4] 26)
    have zK20 := K2.cell 0
    go_wp2_with fail
    refine (HGe.out _ _ _ _ G1).mono ?_
    rintro r w7 ⟨rfl, h9⟩
    replace K2 := K2.below h9 K2.lt
    replace K4 := K4.below h9 K4.lt
    replace G1 := G1.below h9
    replace G4 := G4.below h9
    replace GB := GB.trans (h9.mono GB.size)
    clear h9 G1 HGe K2
    clear zK20
    have K6 := Blk.new w7 40 #[.int .i64 3, .int .i64 1, .int .u64 0, .int .u64 360, .int .u64 30]
    replace K4 := K4.alloc (.cells #[.int .i64 3, .int .i64 1, .int .u64 0, .int .u64 360, .int .u64 30] 40)
    replace G4 := G4.below ((Below.refl _ _).alloc (Nat.le_refl _) (.cells #[.int .i64 3, .int .i64 1, .int .u64 0, .int .u64 360, .int .u64 30] 40))
    replace GB := GB.alloc GB.size (.cells #[.int .i64 3, .int .i64 1, .int .u64 0, .int .u64 360, .int .u64 30] 40)
    go_upto_region 5 with fail
    generalize w7.alloc (.cells #[.int .i64 3, .int .i64 1, .int .u64 0, .int .u64 360, .int .u64 30] 40) = X7 at K4 K6 G4 GB ⊢
    obtain ⟨ad, rfl, hb, c0, c1, c2, c3, c4⟩ := rn_at G4.row (show q2[1]? = some (2, 2, 0, 320, 20) from rfl)
    have HBl := Lib.hid hb
    obtain ⟨g4, hg4⟩ : ∃ g, w6.heap.size = g := ⟨_, rfl⟩
    obtain ⟨g6, hg6⟩ : ∃ g, w7.heap.size = g := ⟨_, rfl⟩
    rw [hg4] at K4 ⊢
    rw [hg6] at K6 ⊢
    have H4 := Lib.hid K4
    have H6 := Lib.hid K6
    have e5 : ad.add (1 * 5) = ⟨ad.block, ad.off + 5, none⟩ := by unfold Addr.add; rfl
    rw [e5] at c2 c3 c4
    have C2 : Hid (X7.cell? ⟨ad.block, ad.off + 5 + 2, none⟩ = some (.int .u64 0)) := Lib.hid c2
    have C3 : Hid (X7.cell? ⟨ad.block, ad.off + 5 + 2 + 1, none⟩ = some (.int .u64 320)) := Lib.hid c3
    have C4 : Hid (X7.cell? ⟨ad.block, ad.off + 5 + 2 + 2, none⟩ = some (.int .u64 20)) := Lib.hid c4
    have hb5 := hb
    clear c0 c1 c2 c3 c4 hb e5 G4 K4 K6 hg4 hg6 HO1 HO2 HO3 HJo
    have GX := (Below.refl X7.heap.size X7).drew
    refine wp_region_held_drew (S := fun u => Below X7.heap.size X7 u) (by kernel_rfl) GX (fun hS => ?_)
    generalize X7.drew = V at GX hS ⊢
    refine wpAnyH_take (i := 0) (v := .int .i64 0) rfl (by kernel_rfl) (by kernel_rfl) (by kernel_rfl) (fun _ _ _ h => h) (Or.inl ⟨by kernel_rfl, fun u hSw => (by go_simp)⟩) hS ?_
    change wpAnyH _ _ _ _ _ _ _ (Act.put _ (some 32) _) _
    simp only [Act.put]
    try simp only [List.setIfInBounds_toArray, List.set_cons_zero, List.set_cons_succ]
    refine wpAnyH_take (i := 1) (v := .bool true) rfl (by kernel_rfl) (by kernel_rfl) (by kernel_rfl) (fun _ _ _ h => h) (Or.inl ⟨by kernel_rfl, fun u hSw => (by go_simp)⟩) hS ?_
    change wpAnyH _ _ _ _ _ _ _ (Act.put _ (some 33) _) _
    simp only [Act.put]
    try simp only [List.setIfInBounds_toArray, List.set_cons_zero, List.set_cons_succ]
    refine wpAnyH_take (i := 2) (v := .bool true) rfl (by kernel_rfl) (by kernel_rfl) (by kernel_rfl) (fun _ _ _ h => h) (Or.inl ⟨by kernel_rfl, fun u hSw => (by go_simp)⟩) hS ?_
    change wpAnyH _ _ _ _ _ _ _ (Act.put _ (some 34) _) _
    simp only [Act.put]
    try simp only [List.setIfInBounds_toArray, List.set_cons_zero, List.set_cons_succ]
    refine wpAnyH_take (i := 3) (v := .int .i64 0) rfl (by kernel_rfl) (by kernel_rfl) (by kernel_rfl) (fun _ _ _ h => h) (Or.inl ⟨by kernel_rfl, fun u hSw => (by go_simp)⟩) hS ?_
    change wpAnyH _ _ _ _ _ _ _ (Act.put _ (some 35) _) _
    simp only [Act.put]
    try simp only [List.setIfInBounds_toArray, List.set_cons_zero, List.set_cons_succ]
    refine wpAnyH_take (i := 4) (v := .bool true) rfl (by kernel_rfl) (by kernel_rfl) (by kernel_rfl) (fun _ _ _ h => h) (Or.inl ⟨by kernel_rfl, fun u hSw => (by go_simp)⟩) hS ?_
    change wpAnyH _ _ _ _ _ _ _ (Act.put _ (some 36) _) _
    simp only [Act.put]
    try simp only [List.setIfInBounds_toArray, List.set_cons_zero, List.set_cons_succ]
    refine wpAnyH_take (i := 5) (v := .bool true) rfl (by kernel_rfl) (by kernel_rfl) (by kernel_rfl) (fun _ _ _ h => h) (Or.inl ⟨by kernel_rfl, fun u hSw => (by go_simp)⟩) hS ?_
    change wpAnyH _ _ _ _ _ _ _ (Act.put _ (some 37) _) _
    simp only [Act.put]
    try simp only [List.setIfInBounds_toArray, List.set_cons_zero, List.set_cons_succ]
    refine wpAnyH_take (i := 6) (v := .bool true) rfl (by kernel_rfl) (by kernel_rfl) (by kernel_rfl) (fun _ _ _ h => h) (Or.inl ⟨by kernel_rfl, fun u hSw => (by go_simp)⟩) hS ?_
    change wpAnyH _ _ _ _ _ _ _ (Act.put _ (some 38) _) _
    simp only [Act.put]
    try simp only [List.setIfInBounds_toArray, List.set_cons_zero, List.set_cons_succ]
    refine wpAnyH_take (i := 7) (v := .bool true) rfl (by kernel_rfl) (by kernel_rfl) (by kernel_rfl) (fun _ _ _ h => h) (Or.inl ⟨by kernel_rfl, fun u hSw => (by go_simp)⟩) hS ?_
    change wpAnyH _ _ _ _ _ _ _ (Act.put _ (some 39) _) _
    simp only [Act.put]
    try simp only [List.setIfInBounds_toArray, List.set_cons_zero, List.set_cons_succ]
    refine wpAnyH_take (i := 8) (v := .bool true) rfl (by kernel_rfl) (by kernel_rfl) (by kernel_rfl) (fun _ _ _ h => h) (Or.inl ⟨by kernel_rfl, fun u hSw => (by go_simp)⟩) hS ?_
    change wpAnyH _ _ _ _ _ _ _ (Act.put _ (some 40) _) _
    simp only [Act.put]
    try simp only [List.setIfInBounds_toArray, List.set_cons_zero, List.set_cons_succ]
    refine wpAnyH_take (i := 9) (v := .bool true) rfl (by kernel_rfl) (by kernel_rfl) (by kernel_rfl) (fun _ _ _ h => h) (Or.inl ⟨by kernel_rfl, fun u hSw => (by go_simp)⟩) hS ?_
    change wpAnyH _ _ _ _ _ _ _ (Act.put _ (some 41) _) _
    simp only [Act.put]
    try simp only [List.setIfInBounds_toArray, List.set_cons_zero, List.set_cons_succ]
    refine wpAnyH_take (i := 10) (v := .pointer (some ⟨g6, 2, none⟩)) rfl (by kernel_rfl) (by kernel_rfl) (by kernel_rfl) (fun _ _ _ h => h) (Or.inl ⟨by kernel_rfl, fun u hSw => (by go_simp)⟩) hS ?_
    change wpAnyH _ _ _ _ _ _ _ (Act.put _ (some 42) _) _
    simp only [Act.put]
    try simp only [List.setIfInBounds_toArray, List.set_cons_zero, List.set_cons_succ]
    refine wpAnyH_take (i := 11) (v := .agg #[.int .u64 0, .int .u64 360, .int .u64 30]) rfl (by kernel_rfl) (by kernel_rfl) (by kernel_rfl) (fun _ _ _ h => h) (Or.inl ⟨by kernel_rfl, fun u hSw => (by have q0 := (H6.out.below hSw H6.out.lt).cell 2; have q1 := (H6.out.below hSw H6.out.lt).cell 3; have q2 := (H6.out.below hSw H6.out.lt).cell 4; go_simp)⟩) hS ?_
    change wpAnyH _ _ _ _ _ _ _ (Act.put _ (some 43) _) _
    simp only [Act.put]
    try simp only [List.setIfInBounds_toArray, List.set_cons_zero, List.set_cons_succ]
    refine wpAnyH_ready (rs := [12]) (by kernel_rfl) (by simp) ?_
    refine AllReadyH.cons rfl (fun K hK => ?_) AllReadyH.nil
    go_simp
    refine (HO4.out _).mono ?_
    rintro e1 w21 ⟨rfl, h9⟩
    replace GX := GX.trans (h9.mono GX.size)
    clear h9
    refine hK.out _ _ GX (fun hS => ?_)
    clear hK K
    refine wpAnyH_take (i := 13) (v := .bool true) rfl (by kernel_rfl) (by kernel_rfl) (by kernel_rfl) (fun _ _ _ h => h) (Or.inl ⟨by kernel_rfl, fun u hSw => (by go_simp)⟩) hS ?_
    change wpAnyH _ _ _ _ _ _ _ (Act.put _ (some 45) _) _
    simp only [Act.put]
    try simp only [List.setIfInBounds_toArray, List.set_cons_zero, List.set_cons_succ]
    refine wpAnyH_take (i := 14) (v := .bool true) rfl (by kernel_rfl) (by kernel_rfl) (by kernel_rfl) (fun _ _ _ h => h) (Or.inl ⟨by kernel_rfl, fun u hSw => (by go_simp)⟩) hS ?_
    change wpAnyH _ _ _ _ _ _ _ (Act.put _ (some 46) _) _
    simp only [Act.put]
    try simp only [List.setIfInBounds_toArray, List.set_cons_zero, List.set_cons_succ]
    refine wpAnyH_take (i := 15) (v := .bool true) rfl (by kernel_rfl) (by kernel_rfl) (by kernel_rfl) (fun _ _ _ h => h) (Or.inl ⟨by kernel_rfl, fun u hSw => (by go_simp)⟩) hS ?_
    change wpAnyH _ _ _ _ _ _ _ (Act.put _ (some 47) _) _
    simp only [Act.put]
    try simp only [List.setIfInBounds_toArray, List.set_cons_zero, List.set_cons_succ]
    refine wpAnyH_take (i := 16) (v := .pointer (some ⟨g4, 0, none⟩)) rfl (by kernel_rfl) (by kernel_rfl) (by kernel_rfl) (fun _ _ _ h => h) (Or.inl ⟨by kernel_rfl, fun u hSw => (by go_simp)⟩) hS ?_
    change wpAnyH _ _ _ _ _ _ _ (Act.put _ (some 48) _) _
    simp only [Act.put]
    try simp only [List.setIfInBounds_toArray, List.set_cons_zero, List.set_cons_succ]
    refine wpAnyH_take (i := 17) (v := .slice (some ad) 2 c4) rfl (by kernel_rfl) (by kernel_rfl) (by kernel_rfl) (fun _ _ _ h => h) (Or.inl ⟨by kernel_rfl, fun u hSw => (by have q0 := (H4.out.below hSw H4.out.lt).cell 0; go_simp)⟩) hS ?_
    change wpAnyH _ _ _ _ _ _ _ (Act.put _ (some 49) _) _
    simp only [Act.put]
    try simp only [List.setIfInBounds_toArray, List.set_cons_zero, List.set_cons_succ]
    refine wpAnyH_take (i := 18) (v := .int .i64 2) rfl (by kernel_rfl) (by kernel_rfl) (by kernel_rfl) (fun _ _ _ h => h) (Or.inl ⟨by kernel_rfl, fun u hSw => (by go_simp)⟩) hS ?_
    change wpAnyH _ _ _ _ _ _ _ (Act.put _ (some 50) _) _
    simp only [Act.put]
    try simp only [List.setIfInBounds_toArray, List.set_cons_zero, List.set_cons_succ]
    refine wpAnyH_take (i := 19) (v := .bool true) rfl (by kernel_rfl) (by kernel_rfl) (by kernel_rfl) (fun _ _ _ h => h) (Or.inl ⟨by kernel_rfl, fun u hSw => (by go_simp)⟩) hS ?_
    change wpAnyH _ _ _ _ _ _ _ (Act.put _ (some 51) _) _
    simp only [Act.put]
    try simp only [List.setIfInBounds_toArray, List.set_cons_zero, List.set_cons_succ]
    refine wpAnyH_take (i := 20) (v := .bool true) rfl (by kernel_rfl) (by kernel_rfl) (by kernel_rfl) (fun _ _ _ h => h) (Or.inl ⟨by kernel_rfl, fun u hSw => (by go_simp)⟩) hS ?_
    change wpAnyH _ _ _ _ _ _ _ (Act.put _ (some 52) _) _
    simp only [Act.put]
    try simp only [List.setIfInBounds_toArray, List.set_cons_zero, List.set_cons_succ]
    refine wpAnyH_take (i := 21) (v := .bool true) rfl (by kernel_rfl) (by kernel_rfl) (by kernel_rfl) (fun _ _ _ h => h) (Or.inl ⟨by kernel_rfl, fun u hSw => (by go_simp)⟩) hS ?_
    change wpAnyH _ _ _ _ _ _ _ (Act.put _ (some 53) _) _
    simp only [Act.put]
    try simp only [List.setIfInBounds_toArray, List.set_cons_zero, List.set_cons_succ]
    refine wpAnyH_take (i := 22) (v := .pointer (some ⟨g4, 0, none⟩)) rfl (by kernel_rfl) (by kernel_rfl) (by kernel_rfl) (fun _ _ _ h => h) (Or.inl ⟨by kernel_rfl, fun u hSw => (by go_simp)⟩) hS ?_
    change wpAnyH _ _ _ _ _ _ _ (Act.put _ (some 54) _) _
    simp only [Act.put]
    try simp only [List.setIfInBounds_toArray, List.set_cons_zero, List.set_cons_succ]
    refine wpAnyH_take (i := 23) (v := .slice (some ad) 2 c4) rfl (by kernel_rfl) (by kernel_rfl) (by kernel_rfl) (fun _ _ _ h => h) (Or.inl ⟨by kernel_rfl, fun u hSw => (by have q0 := (H4.out.below hSw H4.out.lt).cell 0; go_simp)⟩) hS ?_
    change wpAnyH _ _ _ _ _ _ _ (Act.put _ (some 55) _) _
    simp only [Act.put]
    try simp only [List.setIfInBounds_toArray, List.set_cons_zero, List.set_cons_succ]
    refine wpAnyH_take (i := 24) (v := .pointer (some ⟨ad.block, ad.off + 5, none⟩)) rfl (by kernel_rfl) (by kernel_rfl) (by kernel_rfl) (fun _ _ _ h => h) (Or.inl ⟨by kernel_rfl, fun u hSw => (by go_simp)⟩) hS ?_
    change wpAnyH _ _ _ _ _ _ _ (Act.put _ (some 56) _) _
    simp only [Act.put]
    try simp only [List.setIfInBounds_toArray, List.set_cons_zero, List.set_cons_succ]
    refine wpAnyH_take (i := 25) (v := .pointer (some ⟨ad.block, ad.off + 5 + 2, none⟩)) rfl (by kernel_rfl) (by kernel_rfl) (by kernel_rfl) (fun _ _ _ h => h) (Or.inl ⟨by kernel_rfl, fun u hSw => (by go_simp)⟩) hS ?_
    change wpAnyH _ _ _ _ _ _ _ (Act.put _ (some 57) _) _
    simp only [Act.put]
    try simp only [List.setIfInBounds_toArray, List.set_cons_zero, List.set_cons_succ]
    refine wpAnyH_take (i := 26) (v := .agg #[.int .u64 0, .int .u64 320, .int .u64 20]) rfl (by kernel_rfl) (by kernel_rfl) (by kernel_rfl) (fun _ _ _ h => h) (Or.inl ⟨by kernel_rfl, fun u hSw => (by have q0 := (hSw.cell (p := ⟨ad.block, ad.off + 5 + 2, none⟩) hb5).trans C2.out; have q1 := (hSw.cell (p := ⟨ad.block, ad.off + 5 + 2 + 1, none⟩) hb5).trans C3.out; have q2 := (hSw.cell (p := ⟨ad.block, ad.off + 5 + 2 + 2, none⟩) hb5).trans C4.out; go_simp)⟩) hS ?_
    change wpAnyH _ _ _ _ _ _ _ (Act.put _ (some 58) _) _
    simp only [Act.put]
    try simp only [List.setIfInBounds_toArray, List.set_cons_zero, List.set_cons_succ]
    refine wpAnyH_ready (rs := [27]) (by kernel_rfl) (by simp) ?_
    refine AllReadyH.cons rfl (fun K hK => ?_) AllReadyH.nil
    go_simp
    refine (HO5.out _).mono ?_
    rintro e2 w22 ⟨rfl, h9⟩
    replace GX := GX.trans (h9.mono GX.size)
    clear h9
    refine hK.out _ _ GX (fun hS => ?_)
    clear hK K
    refine wpAnyH_take (i := 28) (v := .bool true) rfl (by kernel_rfl) (by kernel_rfl) (by kernel_rfl) (fun _ _ _ h => h) (Or.inl ⟨by kernel_rfl, fun u hSw => (by go_simp)⟩) hS ?_
    change wpAnyH _ _ _ _ _ _ _ (Act.put _ (some 60) _) _
    simp only [Act.put]
    try simp only [List.setIfInBounds_toArray, List.set_cons_zero, List.set_cons_succ]
    refine wpAnyH_take (i := 29) (v := .bool true) rfl (by kernel_rfl) (by kernel_rfl) (by kernel_rfl) (fun _ _ _ h => h) (Or.inl ⟨by kernel_rfl, fun u hSw => (by go_simp)⟩) hS ?_
    change wpAnyH _ _ _ _ _ _ _ (Act.put _ (some 61) _) _
    simp only [Act.put]
    try simp only [List.setIfInBounds_toArray, List.set_cons_zero, List.set_cons_succ]
    refine wpAnyH_take (i := 30) (v := .bool true) rfl (by kernel_rfl) (by kernel_rfl) (by kernel_rfl) (fun _ _ _ h => h) (Or.inl ⟨by kernel_rfl, fun u hSw => (by go_simp)⟩) hS ?_
    change wpAnyH _ _ _ _ _ _ _ (Act.put _ (some 0) _) _
    simp only [Act.put]
    refine wpAnyH_done (by kernel_rfl) ?_ _
    clear hS
    go_wp2
    go_ret
    exact ⟨rfl, GB.trans (GX.mono GB.size)⟩
end Go.Proofs.Ytfgabmelmopgdaa
