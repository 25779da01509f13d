/-
  The landed vtime: added's closure, with the one that holds a Time near the top. No statement is proved here.
-/
import Derived.Test.YtfgabmelmopgdaaVh
import Derived.Deep.DeepCutAuto
namespace Go.Proofs.Ytfgabmelmopgdaa
open Go.RowKit

/-- what the closure puts in -/
def addedQ (qs : List Rn) (r : Rn) (boost : Nat) : List Rn × Int :=
  if qs.length = 0 then (insK qs r, 0) else if joinT qs r < 2 ^ 100 then (insK qs (mkR r.1 r.2.1 (joinN qs r boost) (rW r)), 0) else ([], 131)
theorem Blk.set_T {w : World} {g : Nat} {t : TypeId} {a b c d e x y z : Value} (K : Blk w g t #[a, b, c, d, e]) : Blk (((w.setCell ⟨g, 2, none⟩ x).setCell ⟨g, 2 + 1, none⟩ y).setCell ⟨g, 2 + 2, none⟩ z) g t #[a, b, x, y, z] := by
  have := ((K.set_ 2 x).set_ 3 y).set_ 4 z
  simpa using this
theorem gT_top {qs : List Rn} (hU : UQ qs) (hR : RQ qs) (h0 : 0 < qs.length) : gT (tms qs) = (topT qs, true) := by
  rw [gT_tms hU (rightQ_iff.2 hR)]
  unfold topQ
  rw [if_pos ⟨rightQ_iff.2 hR, h0⟩]
theorem top_right {qs : List Rn} (hU : UQ qs) (hR : RQ qs) (h0 : 0 < qs.length) : rightN (fN (topT qs)) (fW (topT qs)) = true ∧ (topT qs).1 < 2 ^ 64 ∧ (topT qs).2.1 < 2 ^ 64 := by
  obtain ⟨r, hr, he⟩ := (topT_spec hU hR.each h0).1
  rw [he]
  have h1 := rightR_iff.1 (hR.each r hr)
  exact ⟨rightN_yes h1.2.2.1.1 h1.2.2.1.2 h1.2.2.2, (hU r hr).1, (hU r hr).2.1⟩

set_option maxRecDepth 100000 in
set_option maxHeartbeats 8000000 in
theorem addeddo_any (gr gq gt gp jq jr jb : Nat) (A : Option Addr) (n c : Nat) (qs : List Rn) (boost e h l x : Nat) (i : Int) (w : World) (hG : QR w A n c qs) (hR : RQ qs) (hr : rightR (i, (e : Int), h, l, x) = true) (hu : UR (i, (e : Int), h, l, x)) (hb : boost ≤ 10000000)
    (hgr : gr < w.heap.size) (hgq : gq < w.heap.size) (hgt : gt < w.heap.size) (hgp : gp < w.heap.size) (hjq : jq < w.heap.size) (hjr : jr < w.heap.size) (hjb : jb < w.heap.size) (hnp : gp ≠ gr)
    (KR : Blk w gr 40 #[.int .i64 i, .int .i64 (e : Int), .int .u64 (h : Int), .int .u64 (l : Int), .int .u64 (x : Int)]) (KJ : Blk w jr 40 #[.int .i64 i, .int .i64 (e : Int), .int .u64 (h : Int), .int .u64 (l : Int), .int .u64 (x : Int)]) (cq : w.cell? ⟨gq, 0, none⟩ = some (.slice A n c)) (cj : w.cell? ⟨jq, 0, none⟩ = some (.slice A n c)) (cb : w.cell? ⟨jb, 0, none⟩ = some (.int .u64 (boost : Int)))
    (ct : w.cell? ⟨gt, 0, none⟩ = some (.func (.func 47) #[] #[.pointer (some ⟨jq, 0, none⟩), .pointer (some ⟨jr, 0, none⟩), .pointer (some ⟨jb, 0, none⟩)])) (cp : w.cell? ⟨gp, 0, none⟩ = some (.int .i64 ((low qs i : Nat) : Int))) :
    DoOkAdd (.pointer (some ⟨gr, 0, none⟩)) (.pointer (some ⟨gq, 0, none⟩)) (.pointer (some ⟨gt, 0, none⟩)) (.pointer (some ⟨gp, 0, none⟩)) (some gr) qs (addedQ qs (i, (e : Int), h, l, x) boost) (fun _ => True) w := by
  intro b A1 n1 c1 u hb1 hb2 hB oo
  have hl1 : qs.length = n1 := by
    have h1 := oo.1
    rw [length_flat rv length_rv] at h1
    omega
  have hn1 : n1 = n := by rw [← hl1]; exact hG.len
  subst hn1
  have n16 : n1 ≤ 16 := by have := hR.len; omega
  have hrr := rightR_iff.1 hr
  have hx1 : 1 ≤ x ∧ x ≤ 65535 := hrr.2.2.1
  have he8 : e ≤ 8 := by have h8 : 1 ≤ (e : Int) ∧ (e : Int) ≤ 8 := hrr.2.1; omega
  have hrn : rightN (h * 2 ^ 64 + l) x = true := by
    have q := right_n hr
    unfold rN rW at q
    exact q
  have hGu := hG.below hB
  have HB := Lib.hid (fun (v : World) (hv : Below u.heap.size u v) => hB.trans (hv.mono hB.size))
  have HKr := Lib.hid (fun (v : World) (hv : Below u.heap.size u v) => KR.below (HB.out v hv) hgr)
  have HKj := Lib.hid (fun (v : World) (hv : Below u.heap.size u v) => KJ.below (HB.out v hv) hjr)
  have HQ := Lib.hid (fun (v : World) (hv : Below u.heap.size u v) => ((HB.out v hv).cell (p := ⟨gq, 0, none⟩) hgq).trans cq)
  have HJq := Lib.hid (fun (v : World) (hv : Below u.heap.size u v) => ((HB.out v hv).cell (p := ⟨jq, 0, none⟩) hjq).trans cj)
  have HJb := Lib.hid (fun (v : World) (hv : Below u.heap.size u v) => ((HB.out v hv).cell (p := ⟨jb, 0, none⟩) hjb).trans cb)
  have HT := Lib.hid (fun (v : World) (hv : Below u.heap.size u v) => ((HB.out v hv).cell (p := ⟨gt, 0, none⟩) hgt).trans ct)
  have HTi := Lib.hid (fun (v : World) (hv : Below u.heap.size u v) => times_any A n1 c qs v (hGu.below hv))
  have HLi := Lib.hid (fun (A' : Option Addr) (c' : Nat) (v : World) (hr : Frow v v.heap.size A' (tms qs)) => vlifted_any x A' n1 c' (tms qs) v (by omega) (by rw [len_tms]; exact hl1) (by omega) (tms_small hG.ur) hr)
  simp only [fe_cells] at HLi
  obtain ⟨p, hp⟩ : ∃ p, low qs i = p := ⟨_, rfl⟩
  have hpn : p ≤ n1 := by rw [← hp, ← hl1]; exact low_le _ _
  rw [hp] at cp
  have hins : ∀ y : Rn, y.1 = i → insK qs y = qs.take p ++ y :: qs.drop p := fun y hy => by unfold insK; rw [hy, hp]
  have hcp := (hB.cell (p := ⟨gp, 0, none⟩) hgp).trans cp
  have HPl := Lib.hid (fun (v : World) (hv : But (some gr) b u v) => (hv.cell (p := ⟨gp, 0, none⟩) (Nat.lt_of_lt_of_le hgp hb1) (by simpa using hnp)).trans hcp)
  have HIn := Lib.hid (fun (vb y1 y2 : Nat) (v : World) (own : v.ownsRow b 40 5 (.slice A1 n1 c1) n1 (flat rv qs)) (hb : b ≤ v.heap.size) (K : Blk v vb 40 (agR (i, (e : Int), y1, y2, x))) (hne : ∀ k, (Value.slice A1 n1 c1).ownBlock = some k → vb ≠ k) => rinsert_any b n1 c1 p A1 qs vb (i, (e : Int), y1, y2, x) v own hb K hne hl1 hpn (by omega))
  unfold agR at HIn
  have hgrb : gr < b := Nat.lt_of_lt_of_le hgr hb1
  have HLen : Hid (qs.length = n1 ∧ p ≤ n1) := Lib.hid ⟨hl1, hpn⟩
  by_cases h0 : n1 = 0
  · have hL : liftR x (tms qs) = (0, x, 0) := by
      have hg0 : gT (tms qs) = ((0, 0, 0), false) := if_neg (fun h => by
        have h2 := h.1
        rw [len_tms] at h2
        omega)
      unfold liftR ofR
      rw [hg0, if_neg (show ¬ ((0, 0, 0), false).2 = true from fun h => by cases h), if_pos (weightB_yes hx1.1 hx1.2)]
    rw [hL] at HLi
    dsimp only at HLi
    obtain ⟨ph, hph⟩ : ∃ k, 0 / 2 ^ 64 = k := ⟨_, rfl⟩
    obtain ⟨pl, hpl⟩ : ∃ k, 0 % 2 ^ 64 = k := ⟨_, rfl⟩
    rw [hph, hpl] at HLi
    have HJo := Lib.hid (fun (v : World) (hv : Below u.heap.size u v) => joinnone_any jq jr jb A n1 c boost e h l x ph pl v (by have := hv.size; have := hB.size; omega) (by have := hv.size; have := hB.size; omega) (by have := hv.size; have := hB.size; omega) (HJq.out v hv) ((HKj.out v hv).cell 1) ((HKj.out v hv).cell 2) ((HKj.out v hv).cell 3) ((HKj.out v hv).cell 4) (HJb.out v hv) h0)
    have hres : addedQ qs (i, (e : Int), h, l, x) boost = (qs.take p ++ (i, (e : Int), h, l, x) :: qs.drop p, 0) := by
      unfold addedQ
      rw [if_pos (by omega), hins _ rfl]
    rw [hres]
    obtain ⟨yh, hyh⟩ : ∃ k, h = k := ⟨_, rfl⟩
    obtain ⟨yl, hyl⟩ : ∃ k, l = k := ⟨_, rfl⟩
    rw [show (qs.take p ++ (i, (e : Int), h, l, x) :: qs.drop p, (0 : Int)) = (qs.take p ++ (i, (e : Int), yh, yl, x) :: qs.drop p, 0) by rw [hyh, hyl]]
    rw [show Said (.agg #[.int .u64 (h : Int), .int .u64 (l : Int), .int .u64 (x : Int)]) = Said (.agg #[.int .u64 (yh : Int), .int .u64 (yl : Int), .int .u64 (x : Int)]) by rw [hyh, hyl]] at HJo
    obtain ⟨E, hE⟩ : ∃ E : Int, E = 0 := ⟨0, rfl⟩
    rw [← hE] at HLi
    have e0 : (E != 0) = false := by rw [hE]; rfl
    have GB := Below.refl u.heap.size u
    clear hE hyh hyl hres hph hpl hL h0 hins hcp hp cp hpn hGu hrn he8 hx1 hrr hl1 hB KR KJ cq cj cb ct hnp hgr hgq hgt hgp hjq hjr hjb hb hu hr hR hG
    go_enter Try.func78, Try.ntmps78
    go_upto_region 1 with fail
    go_cut [8, 9] (fun s8 s9 X => ∃ g8 : Nat, s8 = .pointer (some ⟨g8, 0, none⟩) ∧ s9 = .int .i64 E ∧ Blk X g8 36 #[.int .u64 (ph : Int), .int .u64 (pl : Int), .int .u64 (x : Int)] ∧ u.heap.size ≤ g8 ∧ Below u.heap.size u X)
    case first =>
      replace GB := GB.drew
      refine wp_region_held_drew (S := fun v => Below u.heap.size u v) (by kernel_rfl) GB (fun hS => ?_)
      generalize u.drew = V at GB hS ⊢
      refine wpAnyH_take (i := 0) (v := .pointer (some ⟨gr, 2, none⟩)) rfl (by kernel_rfl) (by kernel_rfl) (by kernel_rfl) (fun _ _ _ h => h) (Or.inl ⟨by kernel_rfl, fun u hSw => (by go_simp)⟩) hS ?_
      change wpAnyH _ _ _ _ _ _ _ (Act.put _ (some 11) _) _
      simp only [Act.put]
      refine wpAnyH_take (i := 1) (v := .pointer (some ⟨gr, 4, none⟩)) rfl (by kernel_rfl) (by kernel_rfl) (by kernel_rfl) (fun _ _ _ h => h) (Or.inl ⟨by kernel_rfl, fun u hSw => (by go_simp)⟩) hS ?_
      change wpAnyH _ _ _ _ _ _ _ (Act.put _ (some 12) _) _
      simp only [Act.put]
      refine wpAnyH_take (i := 2) (v := .int .u64 (x : Int)) rfl (by kernel_rfl) (by kernel_rfl) (by kernel_rfl) (fun _ _ _ h => h) (Or.inl ⟨by kernel_rfl, fun u hSw => (by have q0 := (HKr.out u hSw).cell 4; go_simp)⟩) hS ?_
      change wpAnyH _ _ _ _ _ _ _ (Act.put _ (some 13) _) _
      simp only [Act.put]
      refine wpAnyH_take (i := 3) (v := .agg #[.slice A n1 c]) rfl (by kernel_rfl) (by kernel_rfl) (by kernel_rfl) (fun _ _ _ h => h) (Or.inl ⟨by kernel_rfl, fun u hSw => (by have q0 := HQ.out u hSw; go_simp)⟩) hS ?_
      change wpAnyH _ _ _ _ _ _ _ (Act.put _ (some 14) _) _
      simp only [Act.put]
      refine wpAnyH_ready (rs := [4, 9]) (by kernel_rfl) (by simp) ?_
      refine AllReadyH.cons rfl (fun K hK => ?_) (AllReadyH.cons rfl (fun K hK => ?_) (AllReadyH.nil))
      · skip
        go_simp
        refine (HTi.out _ GB).mono ?_
        rintro e1 w1 ⟨A', c', rfl, oo, h9⟩
        replace GB := GB.trans (h9.mono GB.size)
        have HFr := (Reads.of_own oo).frow
        clear oo
        clear h9
        refine hK.out _ _ GB (fun hS => ?_)
        clear hK K
        refine wpAnyH_ready (rs := [5, 9]) (by kernel_rfl) (by simp) ?_
        refine AllReadyH.cons rfl (fun K hK => ?_) (AllReadyH.cons rfl (fun K hK => ?_) (AllReadyH.nil))
        · skip
          go_simp
          refine (HLi.out _ _ _ HFr).mono ?_
          rintro e2 w2 ⟨rfl, h9⟩
          replace GB := GB.trans (h9.mono GB.size)
          clear HFr
          clear h9
          refine hK.out _ _ GB (fun hS => ?_)
          clear hK K
          refine wpAnyH_take (i := 6) (v := .tuple #[.agg #[.int .u64 (ph : Int), .int .u64 (pl : Int), .int .u64 (x : Int)], .int .i64 E]) rfl (by kernel_rfl) (by kernel_rfl) (by kernel_rfl) (fun _ _ _ h => h) (Or.inl ⟨by kernel_rfl, fun u hSw => (by go_simp)⟩) hS ?_
          change wpAnyH _ _ _ _ _ _ _ (Act.put _ (some 10) _) _
          simp only [Act.put]
          refine wpAnyH_take (i := 7) (v := .agg #[.int .u64 (ph : Int), .int .u64 (pl : Int), .int .u64 (x : Int)]) rfl (by kernel_rfl) (by kernel_rfl) (by kernel_rfl) (fun _ _ _ h => h) (Or.inl ⟨by kernel_rfl, fun u hSw => (by go_simp)⟩) hS ?_
          change wpAnyH _ _ _ _ _ _ _ (Act.put _ (some 17) _) _
          simp only [Act.put]
          refine wpAnyH_take (i := 8) (v := .int .i64 E) rfl (by kernel_rfl) (by kernel_rfl) (by kernel_rfl) (fun _ _ _ h => h) (Or.inl ⟨by kernel_rfl, fun u hSw => (by go_simp)⟩) hS ?_
          change wpAnyH _ _ _ _ _ _ _ (Act.put _ (some 18) _) _
          simp only [Act.put]
          refine wpAnyH_ready (rs := [9]) (by kernel_rfl) (by simp) ?_
          refine AllReadyH.cons rfl (fun K hK => ?_) AllReadyH.nil
          have K8 := Blk.new w2 36 #[.int .u64 0, .int .u64 0, .int .u64 0]
          have hg8 := GB.size
          have GB2 := GB.alloc GB.size (.cells #[.int .u64 0, .int .u64 0, .int .u64 0] 36)
          go_simp
          generalize w2.alloc (.cells #[.int .u64 0, .int .u64 0, .int .u64 0] 36) = Xa3 at K8 GB2 ⊢
          refine hK.out _ _ GB2 (fun hS => ?_)
          clear hK K
          replace GB := GB2
          clear GB2
          refine wpAnyH_ready (rs := [10]) (by kernel_rfl) (by simp) ?_
          refine AllReadyH.cons rfl (fun K hK => ?_) AllReadyH.nil
          have d0 := K8.cell 0
          have d1 := K8.cell 1
          have d2 := K8.cell 2
          have f0 := K8.frozen 0
          have f1 := K8.frozen 1
          have f2 := K8.frozen 2
          have HP := put3 (x := .int .u64 (ph : Int)) (y := .int .u64 (pl : Int)) (z := .int .u64 (x : Int)) K8 GB hg8
          go_simp
          refine hK.out _ _ HP.2 (fun hS => ?_)
          clear hK K d0 d1 d2 f0 f1 f2 K8 GB
          refine wpAnyH_take (i := 11) (v := .int .i64 E) rfl (by kernel_rfl) (by kernel_rfl) (by kernel_rfl) (fun _ _ _ h => h) (Or.inl ⟨by kernel_rfl, fun u hSw => (by go_simp)⟩) hS ?_
          change wpAnyH _ _ _ _ _ _ _ (Act.put _ (some 9) _) _
          simp only [Act.put]
          refine wpAnyH_done (by kernel_rfl) ?_ _
          clear hS
          go_wp2_with fail
          go_meet
          exact ⟨_, rfl, rfl, HP.1, hg8, HP.2⟩
        · skip
          have K8 := Blk.new w1 36 #[.int .u64 0, .int .u64 0, .int .u64 0]
          have hg8 := GB.size
          have GB2 := GB.alloc GB.size (.cells #[.int .u64 0, .int .u64 0, .int .u64 0] 36)
          have HFr2 := HFr.below ((Below.refl _ w1).alloc (Nat.le_refl _) (.cells #[.int .u64 0, .int .u64 0, .int .u64 0] 36)) (Nat.le_refl _)
          replace HFr := HFr2.more (show w1.heap.size ≤ (w1.alloc (.cells #[.int .u64 0, .int .u64 0, .int .u64 0] 36)).heap.size by simp)
          clear HFr2
          go_simp
          generalize w1.alloc (.cells #[.int .u64 0, .int .u64 0, .int .u64 0] 36) = Xa5 at K8 GB2 HFr ⊢
          refine hK.out _ _ GB2 (fun hS => ?_)
          clear hK K
          replace GB := GB2
          clear GB2
          refine wpAnyH_ready (rs := [5]) (by kernel_rfl) (by simp) ?_
          refine AllReadyH.cons rfl (fun K hK => ?_) AllReadyH.nil
          go_simp
          refine (HLi.out _ _ _ HFr).mono ?_
          rintro e6 w6 ⟨rfl, h9⟩
          replace GB := GB.trans (h9.mono GB.size)
          replace K8 := K8.below h9 K8.lt
          clear HFr
          clear h9
          refine hK.out _ _ GB (fun hS => ?_)
          clear hK K
          refine wpAnyH_take (i := 6) (v := .tuple #[.agg #[.int .u64 (ph : Int), .int .u64 (pl : Int), .int .u64 (x : Int)], .int .i64 E]) rfl (by kernel_rfl) (by kernel_rfl) (by kernel_rfl) (fun _ _ _ h => h) (Or.inl ⟨by kernel_rfl, fun u hSw => (by go_simp)⟩) hS ?_
          change wpAnyH _ _ _ _ _ _ _ (Act.put _ (some 10) _) _
          simp only [Act.put]
          refine wpAnyH_take (i := 7) (v := .agg #[.int .u64 (ph : Int), .int .u64 (pl : Int), .int .u64 (x : Int)]) rfl (by kernel_rfl) (by kernel_rfl) (by kernel_rfl) (fun _ _ _ h => h) (Or.inl ⟨by kernel_rfl, fun u hSw => (by go_simp)⟩) hS ?_
          change wpAnyH _ _ _ _ _ _ _ (Act.put _ (some 17) _) _
          simp only [Act.put]
          refine wpAnyH_take (i := 8) (v := .int .i64 E) rfl (by kernel_rfl) (by kernel_rfl) (by kernel_rfl) (fun _ _ _ h => h) (Or.inl ⟨by kernel_rfl, fun u hSw => (by go_simp)⟩) hS ?_
          change wpAnyH _ _ _ _ _ _ _ (Act.put _ (some 18) _) _
          simp only [Act.put]
          refine wpAnyH_ready (rs := [10]) (by kernel_rfl) (by simp) ?_
          refine AllReadyH.cons rfl (fun K hK => ?_) AllReadyH.nil
          have d0 := K8.cell 0
          have d1 := K8.cell 1
          have d2 := K8.cell 2
          have f0 := K8.frozen 0
          have f1 := K8.frozen 1
          have f2 := K8.frozen 2
          have HP := put3 (x := .int .u64 (ph : Int)) (y := .int .u64 (pl : Int)) (z := .int .u64 (x : Int)) K8 GB hg8
          go_simp
          refine hK.out _ _ HP.2 (fun hS => ?_)
          clear hK K d0 d1 d2 f0 f1 f2 K8 GB
          refine wpAnyH_take (i := 11) (v := .int .i64 E) rfl (by kernel_rfl) (by kernel_rfl) (by kernel_rfl) (fun _ _ _ h => h) (Or.inl ⟨by kernel_rfl, fun u hSw => (by go_simp)⟩) hS ?_
          change wpAnyH _ _ _ _ _ _ _ (Act.put _ (some 9) _) _
          simp only [Act.put]
          refine wpAnyH_done (by kernel_rfl) ?_ _
          clear hS
          go_wp2_with fail
          go_meet
          exact ⟨_, rfl, rfl, HP.1, hg8, HP.2⟩
      · skip
        have K8 := Blk.new V 36 #[.int .u64 0, .int .u64 0, .int .u64 0]
        have hg8 := GB.size
        have GB2 := GB.alloc GB.size (.cells #[.int .u64 0, .int .u64 0, .int .u64 0] 36)
        go_simp
        generalize V.alloc (.cells #[.int .u64 0, .int .u64 0, .int .u64 0] 36) = Xa8 at K8 GB2 ⊢
        refine hK.out _ _ GB2 (fun hS => ?_)
        clear hK K
        replace GB := GB2
        clear GB2
        refine wpAnyH_ready (rs := [4]) (by kernel_rfl) (by simp) ?_
        refine AllReadyH.cons rfl (fun K hK => ?_) AllReadyH.nil
        go_simp
        refine (HTi.out _ GB).mono ?_
        rintro e9 w9 ⟨A', c', rfl, oo, h9⟩
        replace GB := GB.trans (h9.mono GB.size)
        replace K8 := K8.below h9 K8.lt
        have HFr := (Reads.of_own oo).frow
        clear oo
        clear h9
        refine hK.out _ _ GB (fun hS => ?_)
        clear hK K
        refine wpAnyH_ready (rs := [5]) (by kernel_rfl) (by simp) ?_
        refine AllReadyH.cons rfl (fun K hK => ?_) AllReadyH.nil
        go_simp
        refine (HLi.out _ _ _ HFr).mono ?_
        rintro e10 w10 ⟨rfl, h9⟩
        replace GB := GB.trans (h9.mono GB.size)
        replace K8 := K8.below h9 K8.lt
        clear HFr
        clear h9
        refine hK.out _ _ GB (fun hS => ?_)
        clear hK K
        refine wpAnyH_take (i := 6) (v := .tuple #[.agg #[.int .u64 (ph : Int), .int .u64 (pl : Int), .int .u64 (x : Int)], .int .i64 E]) rfl (by kernel_rfl) (by kernel_rfl) (by kernel_rfl) (fun _ _ _ h => h) (Or.inl ⟨by kernel_rfl, fun u hSw => (by go_simp)⟩) hS ?_
        change wpAnyH _ _ _ _ _ _ _ (Act.put _ (some 10) _) _
        simp only [Act.put]
        refine wpAnyH_take (i := 7) (v := .agg #[.int .u64 (ph : Int), .int .u64 (pl : Int), .int .u64 (x : Int)]) rfl (by kernel_rfl) (by kernel_rfl) (by kernel_rfl) (fun _ _ _ h => h) (Or.inl ⟨by kernel_rfl, fun u hSw => (by go_simp)⟩) hS ?_
        change wpAnyH _ _ _ _ _ _ _ (Act.put _ (some 17) _) _
        simp only [Act.put]
        refine wpAnyH_take (i := 8) (v := .int .i64 E) rfl (by kernel_rfl) (by kernel_rfl) (by kernel_rfl) (fun _ _ _ h => h) (Or.inl ⟨by kernel_rfl, fun u hSw => (by go_simp)⟩) hS ?_
        change wpAnyH _ _ _ _ _ _ _ (Act.put _ (some 18) _) _
        simp only [Act.put]
        refine wpAnyH_ready (rs := [10]) (by kernel_rfl) (by simp) ?_
        refine AllReadyH.cons rfl (fun K hK => ?_) AllReadyH.nil
        have d0 := K8.cell 0
        have d1 := K8.cell 1
        have d2 := K8.cell 2
        have f0 := K8.frozen 0
        have f1 := K8.frozen 1
        have f2 := K8.frozen 2
        have HP := put3 (x := .int .u64 (ph : Int)) (y := .int .u64 (pl : Int)) (z := .int .u64 (x : Int)) K8 GB hg8
        go_simp
        refine hK.out _ _ HP.2 (fun hS => ?_)
        clear hK K d0 d1 d2 f0 f1 f2 K8 GB
        refine wpAnyH_take (i := 11) (v := .int .i64 E) rfl (by kernel_rfl) (by kernel_rfl) (by kernel_rfl) (fun _ _ _ h => h) (Or.inl ⟨by kernel_rfl, fun u hSw => (by go_simp)⟩) hS ?_
        change wpAnyH _ _ _ _ _ _ _ (Act.put _ (some 9) _) _
        simp only [Act.put]
        refine wpAnyH_done (by kernel_rfl) ?_ _
        clear hS
        go_wp2_with fail
        go_meet
        exact ⟨_, rfl, rfl, HP.1, hg8, HP.2⟩
    case rest =>
      obtain ⟨g8, rfl, rfl, K8, hg8, GB⟩ := hcut
      rename World => X
      have q0 := HT.out _ GB
      have z0 := K8.cell 0
      have z1 := K8.cell 1
      have z2 := K8.cell 2
      go_wp2_with fail
      refine (HJo.out _ GB).mono ?_
      rintro r w8 ⟨rfl, h9⟩
      replace GB := GB.trans (h9.mono GB.size)
      clear h9 q0 z0 z1 z2
      replace KR := HKr.out _ GB
      have own := own_below oo GB
      have d2 := KR.cell 2
      have d3 := KR.cell 3
      have d4 := KR.cell 4
      have f2 := KR.frozen 2
      have f3 := KR.frozen 3
      have f4 := KR.frozen 4
      have KR2 := Blk.set_T (x := .int .u64 (yh : Int)) (y := .int .u64 (yl : Int)) (z := .int .u64 (x : Int)) KR
      have BG := ((((below_but (GB.mono hb2) (some gr)).setCell (p := ⟨gr, 2, none⟩) (.inl rfl) (.int .u64 (yh : Int))).setCell (p := ⟨gr, 2 + 1, none⟩) (.inl rfl) (.int .u64 (yl : Int))).setCell (p := ⟨gr, 2 + 2, none⟩) (.inl rfl) (.int .u64 (x : Int)))
      have own2 := own_set (own_set (own_set own hgrb 2 (.int .u64 (yh : Int))) hgrb (2 + 1) (.int .u64 (yl : Int))) hgrb (2 + 2) (.int .u64 (x : Int))
      have hz := Nat.le_trans hb2 GB.size
      have HZ := Lib.hid (And.intro KR2 (And.intro BG (And.intro own2 hz)))
      clear KR KR2 BG own own2 hz GB K8 hg8
      go_upto_region 5 with fail
      generalize hY : ((w8.setCell ⟨gr, 2, none⟩ (.int .u64 (yh : Int))).setCell ⟨gr, 2 + 1, none⟩ (.int .u64 (yl : Int))).setCell ⟨gr, 2 + 2, none⟩ (.int .u64 (x : Int)) = Y
      obtain ⟨KR2, BG, own2, hz⟩ := HZ.out
      rw [hY] at KR2 BG own2
      have hzY : b ≤ Y.heap.size := Nat.le_trans hb2 BG.size
      have KI := Blk.new Y 40 #[.int .i64 i, .int .i64 (e : Int), .int .u64 (yh : Int), .int .u64 (yl : Int), .int .u64 (x : Int)]
      have own3 := own2.alloc (.cells #[.int .i64 i, .int .i64 (e : Int), .int .u64 (yh : Int), .int .u64 (yl : Int), .int .u64 (x : Int)] 40)
      have BG3 := BG.alloc hzY (.cells #[.int .i64 i, .int .i64 (e : Int), .int .u64 (yh : Int), .int .u64 (yl : Int), .int .u64 (x : Int)] 40)
      have k0 := KR2.cell 0
      have k1 := KR2.cell 1
      have k2 := KR2.cell 2
      have k3 := KR2.cell 3
      have k4 := KR2.cell 4
      have kp := HPl.out _ BG
      have HLt := Lib.hid (fun k (hk : (Value.slice A1 n1 c1).ownBlock = some k) => own2.lt k hk)
      have H3 := Lib.hid (And.intro own3 (And.intro BG3 KI))
      clear HZ hY KR2 BG own2 hz own3 BG3 KI
      go_wp2_with fail
      refine (HIn.out Y.heap.size yh yl _ H3.out.1 (by simp; omega) H3.out.2.2 (fun k hk => by have := (HLt.out k hk).2; omega)).mono ?_
      rintro r w9 ht
      obtain ⟨A3, c3, rfl, ho, _⟩ := ht.out
      have hg := ht.grown
      have BF : But (some gr) b u w9 := H3.out.2.1.trans ⟨hg.os, hg.tape, hg.output, hg.size, fun k hk _ => hg.block k (by simp; omega) (fun e => by have := (HLt.out k e.symm).1; omega)⟩
      have HE := Lib.hid (And.intro ho BF)
      clear ht ho hg BF k0 k1 k2 k3 k4 kp
      go_wp2
      go_ret2
      exact ⟨⟨_, _, _, rfl, fun _ => ⟨by rw [List.length_append, List.length_take, List.length_cons, List.length_drop, HLen.out.1]; have := HLen.out.2; omega, HE.out.1⟩⟩, HE.out.2, trivial⟩

  · have hq0 : 0 < qs.length := by omega
    have ht := top_right hG.ur hR hq0
    have hgto := gT_top hG.ur hR hq0
    obtain ⟨⟨t1, t2, t3⟩, htt⟩ : ∃ t, topT qs = t := ⟨_, rfl⟩
    have hL : liftR x (tms qs) = overR (t1 * 2 ^ 64 + t2) t3 x := by
      unfold liftR
      rw [hgto, htt]
      rfl
    have hjt : joinT qs (i, (e : Int), h, l, x) = overW (t1 * 2 ^ 64 + t2) x t3 := by unfold joinT; rw [htt]; rfl
    rw [htt] at ht
    have ht1 : rightN (t1 * 2 ^ 64 + t2) t3 = true := ht.1
    rw [hL] at HLi
    by_cases hc : overW (t1 * 2 ^ 64 + t2) x t3 < 2 ^ 100
    · rw [overR_ok ht1 (weightB_yes hx1.1 hx1.2) hc] at HLi
      obtain ⟨tp, htp⟩ : ∃ tp, overW (t1 * 2 ^ 64 + t2) x t3 = tp := ⟨_, rfl⟩
      rw [htp] at HLi hc hjt
      dsimp only at HLi
      obtain ⟨ph, hph⟩ : ∃ k, tp / 2 ^ 64 = k := ⟨_, rfl⟩
      obtain ⟨pl, hpl⟩ : ∃ k, tp % 2 ^ 64 = k := ⟨_, rfl⟩
      rw [hph, hpl] at HLi
      have htpp : tp = ph * 2 ^ 64 + pl := by omega
      have hphl : ph < 2 ^ 64 ∧ pl < 2 ^ 64 := by omega
      have HJo := Lib.hid (fun (v : World) (hv : Below u.heap.size u v) => joinsome_any jq jr jb A n1 c boost e h l x ph pl v (by have := hv.size; have := hB.size; omega) (by have := hv.size; have := hB.size; omega) (by have := hv.size; have := hB.size; omega) (HJq.out v hv) ((HKj.out v hv).cell 1) ((HKj.out v hv).cell 2) ((HKj.out v hv).cell 3) ((HKj.out v hv).cell 4) (HJb.out v hv) (by omega) he8 hb hu.1 hu.2.1 hphl.1 hphl.2 hrn (rightN_yes hx1.1 hx1.2 (by rw [← htpp]; exact hc)))
      rw [← htpp] at HJo
      have hyy : joinN qs (i, (e : Int), h, l, x) boost = heldN (h * 2 ^ 64 + l) (tp - min (268435456 * x) (boost * e)) tp := by unfold joinN; rw [hjt]; rfl
      obtain ⟨y, hy⟩ : ∃ y, heldN (h * 2 ^ 64 + l) (tp - min (268435456 * x) (boost * e)) tp = y := ⟨_, rfl⟩
      rw [hy] at HJo hyy
      have hres : addedQ qs (i, (e : Int), h, l, x) boost = (qs.take p ++ (i, (e : Int), y / 2 ^ 64, y % 2 ^ 64, x) :: qs.drop p, 0) := by
        unfold addedQ
        rw [if_neg (by omega), hjt, if_pos hc, hyy, hins _ rfl]
        rfl
      rw [hres]
      obtain ⟨yh, hyh⟩ : ∃ k, y / 2 ^ 64 = k := ⟨_, rfl⟩
      obtain ⟨yl, hyl⟩ : ∃ k, y % 2 ^ 64 = k := ⟨_, rfl⟩
      have hfq : fq y x = #[.int .u64 (yh : Int), .int .u64 (yl : Int), .int .u64 (x : Int)] := by rw [← hyh, ← hyl]; rfl
      rw [hfq] at HJo
      rw [hyh, hyl]
      obtain ⟨E, hE⟩ : ∃ E : Int, E = 0 := ⟨0, rfl⟩
      rw [← hE] at HLi
      have e0 : (E != 0) = false := by rw [hE]; rfl
      have GB := Below.refl u.heap.size u
      clear hE hfq hyh hyl hres hy hyy htpp hphl hph hpl htp hjt hc ht1 hL htt hgto ht hq0 h0 hins hcp hp cp hpn hGu hrn he8 hx1 hrr hl1 hB KR KJ cq cj cb ct hnp hgr hgq hgt hgp hjq hjr hjb hb hu hr hR hG
      go_enter Try.func78, Try.ntmps78
      go_upto_region 1 with fail
      go_cut [8, 9] (fun s8 s9 X => ∃ g8 : Nat, s8 = .pointer (some ⟨g8, 0, none⟩) ∧ s9 = .int .i64 E ∧ Blk X g8 36 #[.int .u64 (ph : Int), .int .u64 (pl : Int), .int .u64 (x : Int)] ∧ u.heap.size ≤ g8 ∧ Below u.heap.size u X)
      case first =>
        replace GB := GB.drew
        refine wp_region_held_drew (S := fun v => Below u.heap.size u v) (by kernel_rfl) GB (fun hS => ?_)
        generalize u.drew = V at GB hS ⊢
        refine wpAnyH_take (i := 0) (v := .pointer (some ⟨gr, 2, none⟩)) rfl (by kernel_rfl) (by kernel_rfl) (by kernel_rfl) (fun _ _ _ h => h) (Or.inl ⟨by kernel_rfl, fun u hSw => (by go_simp)⟩) hS ?_
        change wpAnyH _ _ _ _ _ _ _ (Act.put _ (some 11) _) _
        simp only [Act.put]
        refine wpAnyH_take (i := 1) (v := .pointer (some ⟨gr, 4, none⟩)) rfl (by kernel_rfl) (by kernel_rfl) (by kernel_rfl) (fun _ _ _ h => h) (Or.inl ⟨by kernel_rfl, fun u hSw => (by go_simp)⟩) hS ?_
        change wpAnyH _ _ _ _ _ _ _ (Act.put _ (some 12) _) _
        simp only [Act.put]
        refine wpAnyH_take (i := 2) (v := .int .u64 (x : Int)) rfl (by kernel_rfl) (by kernel_rfl) (by kernel_rfl) (fun _ _ _ h => h) (Or.inl ⟨by kernel_rfl, fun u hSw => (by have q0 := (HKr.out u hSw).cell 4; go_simp)⟩) hS ?_
        change wpAnyH _ _ _ _ _ _ _ (Act.put _ (some 13) _) _
        simp only [Act.put]
        refine wpAnyH_take (i := 3) (v := .agg #[.slice A n1 c]) rfl (by kernel_rfl) (by kernel_rfl) (by kernel_rfl) (fun _ _ _ h => h) (Or.inl ⟨by kernel_rfl, fun u hSw => (by have q0 := HQ.out u hSw; go_simp)⟩) hS ?_
        change wpAnyH _ _ _ _ _ _ _ (Act.put _ (some 14) _) _
        simp only [Act.put]
        refine wpAnyH_ready (rs := [4, 9]) (by kernel_rfl) (by simp) ?_
        refine AllReadyH.cons rfl (fun K hK => ?_) (AllReadyH.cons rfl (fun K hK => ?_) (AllReadyH.nil))
        · skip
          go_simp
          refine (HTi.out _ GB).mono ?_
          rintro e1 w1 ⟨A', c', rfl, oo, h9⟩
          replace GB := GB.trans (h9.mono GB.size)
          have HFr := (Reads.of_own oo).frow
          clear oo
          clear h9
          refine hK.out _ _ GB (fun hS => ?_)
          clear hK K
          refine wpAnyH_ready (rs := [5, 9]) (by kernel_rfl) (by simp) ?_
          refine AllReadyH.cons rfl (fun K hK => ?_) (AllReadyH.cons rfl (fun K hK => ?_) (AllReadyH.nil))
          · skip
            go_simp
            refine (HLi.out _ _ _ HFr).mono ?_
            rintro e2 w2 ⟨rfl, h9⟩
            replace GB := GB.trans (h9.mono GB.size)
            clear HFr
            clear h9
            refine hK.out _ _ GB (fun hS => ?_)
            clear hK K
            refine wpAnyH_take (i := 6) (v := .tuple #[.agg #[.int .u64 (ph : Int), .int .u64 (pl : Int), .int .u64 (x : Int)], .int .i64 E]) rfl (by kernel_rfl) (by kernel_rfl) (by kernel_rfl) (fun _ _ _ h => h) (Or.inl ⟨by kernel_rfl, fun u hSw => (by go_simp)⟩) hS ?_
            change wpAnyH _ _ _ _ _ _ _ (Act.put _ (some 10) _) _
            simp only [Act.put]
            refine wpAnyH_take (i := 7) (v := .agg #[.int .u64 (ph : Int), .int .u64 (pl : Int), .int .u64 (x : Int)]) rfl (by kernel_rfl) (by kernel_rfl) (by kernel_rfl) (fun _ _ _ h => h) (Or.inl ⟨by kernel_rfl, fun u hSw => (by go_simp)⟩) hS ?_
            change wpAnyH _ _ _ _ _ _ _ (Act.put _ (some 17) _) _
            simp only [Act.put]
            refine wpAnyH_take (i := 8) (v := .int .i64 E) rfl (by kernel_rfl) (by kernel_rfl) (by kernel_rfl) (fun _ _ _ h => h) (Or.inl ⟨by kernel_rfl, fun u hSw => (by go_simp)⟩) hS ?_
            change wpAnyH _ _ _ _ _ _ _ (Act.put _ (some 18) _) _
            simp only [Act.put]
            refine wpAnyH_ready (rs := [9]) (by kernel_rfl) (by simp) ?_
            refine AllReadyH.cons rfl (fun K hK => ?_) AllReadyH.nil
            have K8 := Blk.new w2 36 #[.int .u64 0, .int .u64 0, .int .u64 0]
            have hg8 := GB.size
            have GB2 := GB.alloc GB.size (.cells #[.int .u64 0, .int .u64 0, .int .u64 0] 36)
            go_simp
            generalize w2.alloc (.cells #[.int .u64 0, .int .u64 0, .int .u64 0] 36) = Xa3 at K8 GB2 ⊢
            refine hK.out _ _ GB2 (fun hS => ?_)
            clear hK K
            replace GB := GB2
            clear GB2
            refine wpAnyH_ready (rs := [10]) (by kernel_rfl) (by simp) ?_
            refine AllReadyH.cons rfl (fun K hK => ?_) AllReadyH.nil
            have d0 := K8.cell 0
            have d1 := K8.cell 1
            have d2 := K8.cell 2
            have f0 := K8.frozen 0
            have f1 := K8.frozen 1
            have f2 := K8.frozen 2
            have HP := put3 (x := .int .u64 (ph : Int)) (y := .int .u64 (pl : Int)) (z := .int .u64 (x : Int)) K8 GB hg8
            go_simp
            refine hK.out _ _ HP.2 (fun hS => ?_)
            clear hK K d0 d1 d2 f0 f1 f2 K8 GB
            refine wpAnyH_take (i := 11) (v := .int .i64 E) rfl (by kernel_rfl) (by kernel_rfl) (by kernel_rfl) (fun _ _ _ h => h) (Or.inl ⟨by kernel_rfl, fun u hSw => (by go_simp)⟩) hS ?_
            change wpAnyH _ _ _ _ _ _ _ (Act.put _ (some 9) _) _
            simp only [Act.put]
            refine wpAnyH_done (by kernel_rfl) ?_ _
            clear hS
            go_wp2_with fail
            go_meet
            exact ⟨_, rfl, rfl, HP.1, hg8, HP.2⟩
          · skip
            have K8 := Blk.new w1 36 #[.int .u64 0, .int .u64 0, .int .u64 0]
            have hg8 := GB.size
            have GB2 := GB.alloc GB.size (.cells #[.int .u64 0, .int .u64 0, .int .u64 0] 36)
            have HFr2 := HFr.below ((Below.refl _ w1).alloc (Nat.le_refl _) (.cells #[.int .u64 0, .int .u64 0, .int .u64 0] 36)) (Nat.le_refl _)
            replace HFr := HFr2.more (show w1.heap.size ≤ (w1.alloc (.cells #[.int .u64 0, .int .u64 0, .int .u64 0] 36)).heap.size by simp)
            clear HFr2
            go_simp
            generalize w1.alloc (.cells #[.int .u64 0, .int .u64 0, .int .u64 0] 36) = Xa5 at K8 GB2 HFr ⊢
            refine hK.out _ _ GB2 (fun hS => ?_)
            clear hK K
            replace GB := GB2
            clear GB2
            refine wpAnyH_ready (rs := [5]) (by kernel_rfl) (by simp) ?_
            refine AllReadyH.cons rfl (fun K hK => ?_) AllReadyH.nil
            go_simp
            refine (HLi.out _ _ _ HFr).mono ?_
            rintro e6 w6 ⟨rfl, h9⟩
            replace GB := GB.trans (h9.mono GB.size)
            replace K8 := K8.below h9 K8.lt
            clear HFr
            clear h9
            refine hK.out _ _ GB (fun hS => ?_)
            clear hK K
            refine wpAnyH_take (i := 6) (v := .tuple #[.agg #[.int .u64 (ph : Int), .int .u64 (pl : Int), .int .u64 (x : Int)], .int .i64 E]) rfl (by kernel_rfl) (by kernel_rfl) (by kernel_rfl) (fun _ _ _ h => h) (Or.inl ⟨by kernel_rfl, fun u hSw => (by go_simp)⟩) hS ?_
            change wpAnyH _ _ _ _ _ _ _ (Act.put _ (some 10) _) _
            simp only [Act.put]
            refine wpAnyH_take (i := 7) (v := .agg #[.int .u64 (ph : Int), .int .u64 (pl : Int), .int .u64 (x : Int)]) rfl (by kernel_rfl) (by kernel_rfl) (by kernel_rfl) (fun _ _ _ h => h) (Or.inl ⟨by kernel_rfl, fun u hSw => (by go_simp)⟩) hS ?_
            change wpAnyH _ _ _ _ _ _ _ (Act.put _ (some 17) _) _
            simp only [Act.put]
            refine wpAnyH_take (i := 8) (v := .int .i64 E) rfl (by kernel_rfl) (by kernel_rfl) (by kernel_rfl) (fun _ _ _ h => h) (Or.inl ⟨by kernel_rfl, fun u hSw => (by go_simp)⟩) hS ?_
            change wpAnyH _ _ _ _ _ _ _ (Act.put _ (some 18) _) _
            simp only [Act.put]
            refine wpAnyH_ready (rs := [10]) (by kernel_rfl) (by simp) ?_
            refine AllReadyH.cons rfl (fun K hK => ?_) AllReadyH.nil
            have d0 := K8.cell 0
            have d1 := K8.cell 1
            have d2 := K8.cell 2
            have f0 := K8.frozen 0
            have f1 := K8.frozen 1
            have f2 := K8.frozen 2
            have HP := put3 (x := .int .u64 (ph : Int)) (y := .int .u64 (pl : Int)) (z := .int .u64 (x : Int)) K8 GB hg8
            go_simp
            refine hK.out _ _ HP.2 (fun hS => ?_)
            clear hK K d0 d1 d2 f0 f1 f2 K8 GB
            refine wpAnyH_take (i := 11) (v := .int .i64 E) rfl (by kernel_rfl) (by kernel_rfl) (by kernel_rfl) (fun _ _ _ h => h) (Or.inl ⟨by kernel_rfl, fun u hSw => (by go_simp)⟩) hS ?_
            change wpAnyH _ _ _ _ _ _ _ (Act.put _ (some 9) _) _
            simp only [Act.put]
            refine wpAnyH_done (by kernel_rfl) ?_ _
            clear hS
            go_wp2_with fail
            go_meet
            exact ⟨_, rfl, rfl, HP.1, hg8, HP.2⟩
        · skip
          have K8 := Blk.new V 36 #[.int .u64 0, .int .u64 0, .int .u64 0]
          have hg8 := GB.size
          have GB2 := GB.alloc GB.size (.cells #[.int .u64 0, .int .u64 0, .int .u64 0] 36)
          go_simp
          generalize V.alloc (.cells #[.int .u64 0, .int .u64 0, .int .u64 0] 36) = Xa8 at K8 GB2 ⊢
          refine hK.out _ _ GB2 (fun hS => ?_)
          clear hK K
          replace GB := GB2
          clear GB2
          refine wpAnyH_ready (rs := [4]) (by kernel_rfl) (by simp) ?_
          refine AllReadyH.cons rfl (fun K hK => ?_) AllReadyH.nil
          go_simp
          refine (HTi.out _ GB).mono ?_
          rintro e9 w9 ⟨A', c', rfl, oo, h9⟩
          replace GB := GB.trans (h9.mono GB.size)
          replace K8 := K8.below h9 K8.lt
          have HFr := (Reads.of_own oo).frow
          clear oo
          clear h9
          refine hK.out _ _ GB (fun hS => ?_)
          clear hK K
          refine wpAnyH_ready (rs := [5]) (by kernel_rfl) (by simp) ?_
          refine AllReadyH.cons rfl (fun K hK => ?_) AllReadyH.nil
          go_simp
          refine (HLi.out _ _ _ HFr).mono ?_
          rintro e10 w10 ⟨rfl, h9⟩
          replace GB := GB.trans (h9.mono GB.size)
          replace K8 := K8.below h9 K8.lt
          clear HFr
          clear h9
          refine hK.out _ _ GB (fun hS => ?_)
          clear hK K
          refine wpAnyH_take (i := 6) (v := .tuple #[.agg #[.int .u64 (ph : Int), .int .u64 (pl : Int), .int .u64 (x : Int)], .int .i64 E]) rfl (by kernel_rfl) (by kernel_rfl) (by kernel_rfl) (fun _ _ _ h => h) (Or.inl ⟨by kernel_rfl, fun u hSw => (by go_simp)⟩) hS ?_
          change wpAnyH _ _ _ _ _ _ _ (Act.put _ (some 10) _) _
          simp only [Act.put]
          refine wpAnyH_take (i := 7) (v := .agg #[.int .u64 (ph : Int), .int .u64 (pl : Int), .int .u64 (x : Int)]) rfl (by kernel_rfl) (by kernel_rfl) (by kernel_rfl) (fun _ _ _ h => h) (Or.inl ⟨by kernel_rfl, fun u hSw => (by go_simp)⟩) hS ?_
          change wpAnyH _ _ _ _ _ _ _ (Act.put _ (some 17) _) _
          simp only [Act.put]
          refine wpAnyH_take (i := 8) (v := .int .i64 E) rfl (by kernel_rfl) (by kernel_rfl) (by kernel_rfl) (fun _ _ _ h => h) (Or.inl ⟨by kernel_rfl, fun u hSw => (by go_simp)⟩) hS ?_
          change wpAnyH _ _ _ _ _ _ _ (Act.put _ (some 18) _) _
          simp only [Act.put]
          refine wpAnyH_ready (rs := [10]) (by kernel_rfl) (by simp) ?_
          refine AllReadyH.cons rfl (fun K hK => ?_) AllReadyH.nil
          have d0 := K8.cell 0
          have d1 := K8.cell 1
          have d2 := K8.cell 2
          have f0 := K8.frozen 0
          have f1 := K8.frozen 1
          have f2 := K8.frozen 2
          have HP := put3 (x := .int .u64 (ph : Int)) (y := .int .u64 (pl : Int)) (z := .int .u64 (x : Int)) K8 GB hg8
          go_simp
          refine hK.out _ _ HP.2 (fun hS => ?_)
          clear hK K d0 d1 d2 f0 f1 f2 K8 GB
          refine wpAnyH_take (i := 11) (v := .int .i64 E) rfl (by kernel_rfl) (by kernel_rfl) (by kernel_rfl) (fun _ _ _ h => h) (Or.inl ⟨by kernel_rfl, fun u hSw => (by go_simp)⟩) hS ?_
          change wpAnyH _ _ _ _ _ _ _ (Act.put _ (some 9) _) _
          simp only [Act.put]
          refine wpAnyH_done (by kernel_rfl) ?_ _
          clear hS
          go_wp2_with fail
          go_meet
          exact ⟨_, rfl, rfl, HP.1, hg8, HP.2⟩
      case rest =>
        obtain ⟨g8, rfl, rfl, K8, hg8, GB⟩ := hcut
        rename World => X
        have q0 := HT.out _ GB
        have z0 := K8.cell 0
        have z1 := K8.cell 1
        have z2 := K8.cell 2
        go_wp2_with fail
        refine (HJo.out _ GB).mono ?_
        rintro r w8 ⟨rfl, h9⟩
        replace GB := GB.trans (h9.mono GB.size)
        clear h9 q0 z0 z1 z2
        replace KR := HKr.out _ GB
        have own := own_below oo GB
        have d2 := KR.cell 2
        have d3 := KR.cell 3
        have d4 := KR.cell 4
        have f2 := KR.frozen 2
        have f3 := KR.frozen 3
        have f4 := KR.frozen 4
        have KR2 := Blk.set_T (x := .int .u64 (yh : Int)) (y := .int .u64 (yl : Int)) (z := .int .u64 (x : Int)) KR
        have BG := ((((below_but (GB.mono hb2) (some gr)).setCell (p := ⟨gr, 2, none⟩) (.inl rfl) (.int .u64 (yh : Int))).setCell (p := ⟨gr, 2 + 1, none⟩) (.inl rfl) (.int .u64 (yl : Int))).setCell (p := ⟨gr, 2 + 2, none⟩) (.inl rfl) (.int .u64 (x : Int)))
        have own2 := own_set (own_set (own_set own hgrb 2 (.int .u64 (yh : Int))) hgrb (2 + 1) (.int .u64 (yl : Int))) hgrb (2 + 2) (.int .u64 (x : Int))
        have hz := Nat.le_trans hb2 GB.size
        have HZ := Lib.hid (And.intro KR2 (And.intro BG (And.intro own2 hz)))
        clear KR KR2 BG own own2 hz GB K8 hg8
        go_upto_region 5 with fail
        generalize hY : ((w8.setCell ⟨gr, 2, none⟩ (.int .u64 (yh : Int))).setCell ⟨gr, 2 + 1, none⟩ (.int .u64 (yl : Int))).setCell ⟨gr, 2 + 2, none⟩ (.int .u64 (x : Int)) = Y
        obtain ⟨KR2, BG, own2, hz⟩ := HZ.out
        rw [hY] at KR2 BG own2
        have hzY : b ≤ Y.heap.size := Nat.le_trans hb2 BG.size
        have KI := Blk.new Y 40 #[.int .i64 i, .int .i64 (e : Int), .int .u64 (yh : Int), .int .u64 (yl : Int), .int .u64 (x : Int)]
        have own3 := own2.alloc (.cells #[.int .i64 i, .int .i64 (e : Int), .int .u64 (yh : Int), .int .u64 (yl : Int), .int .u64 (x : Int)] 40)
        have BG3 := BG.alloc hzY (.cells #[.int .i64 i, .int .i64 (e : Int), .int .u64 (yh : Int), .int .u64 (yl : Int), .int .u64 (x : Int)] 40)
        have k0 := KR2.cell 0
        have k1 := KR2.cell 1
        have k2 := KR2.cell 2
        have k3 := KR2.cell 3
        have k4 := KR2.cell 4
        have kp := HPl.out _ BG
        have HLt := Lib.hid (fun k (hk : (Value.slice A1 n1 c1).ownBlock = some k) => own2.lt k hk)
        have H3 := Lib.hid (And.intro own3 (And.intro BG3 KI))
        clear HZ hY KR2 BG own2 hz own3 BG3 KI
        go_wp2_with fail
        refine (HIn.out Y.heap.size yh yl _ H3.out.1 (by simp; omega) H3.out.2.2 (fun k hk => by have := (HLt.out k hk).2; omega)).mono ?_
        rintro r w9 ht
        obtain ⟨A3, c3, rfl, ho, _⟩ := ht.out
        have hg := ht.grown
        have BF : But (some gr) b u w9 := H3.out.2.1.trans ⟨hg.os, hg.tape, hg.output, hg.size, fun k hk _ => hg.block k (by simp; omega) (fun e => by have := (HLt.out k e.symm).1; omega)⟩
        have HE := Lib.hid (And.intro ho BF)
        clear ht ho hg BF k0 k1 k2 k3 k4 kp
        go_wp2
        go_ret2
        exact ⟨⟨_, _, _, rfl, fun _ => ⟨by rw [List.length_append, List.length_take, List.length_cons, List.length_drop, HLen.out.1]; have := HLen.out.2; omega, HE.out.1⟩⟩, HE.out.2, trivial⟩

    · rw [overR_no ht1 (weightB_yes hx1.1 hx1.2) hc] at HLi
      dsimp only at HLi
      have hres : addedQ qs (i, (e : Int), h, l, x) boost = ([], 131) := by
        unfold addedQ
        rw [if_neg (by omega), hjt, if_neg hc]
      rw [hres]
      obtain ⟨ph, hph⟩ : ∃ k, 0 / 2 ^ 64 = k := ⟨_, rfl⟩
      obtain ⟨pl, hpl⟩ : ∃ k, 0 % 2 ^ 64 = k := ⟨_, rfl⟩
      obtain ⟨px, hpx⟩ : ∃ k, k = 0 := ⟨0, rfl⟩
      obtain ⟨E, hE⟩ : ∃ E : Int, E = 131 := ⟨131, rfl⟩
      rw [hph, hpl, ← hE, ← hpx] at HLi
      rw [← hE]
      have HE : Hid (E = 0 → False) := Lib.hid (by omega)
      have e0 : (E != 0) = true := by rw [hE]; rfl
      have GB := Below.refl u.heap.size u
      clear hE hres hph hpl hpx hjt hc ht1 hL htt hgto ht hq0 h0 hins hcp hp cp hpn hGu hrn he8 hx1 hrr hl1 hB KR KJ cq cj cb ct hnp hgr hgq hgt hgp hjq hjr hjb hb hu hr hR hG
      go_enter Try.func78, Try.ntmps78
      go_upto_region 1 with fail
      go_cut [8, 9] (fun s8 s9 X => ∃ g8 : Nat, s8 = .pointer (some ⟨g8, 0, none⟩) ∧ s9 = .int .i64 E ∧ Blk X g8 36 #[.int .u64 (ph : Int), .int .u64 (pl : Int), .int .u64 (px : Int)] ∧ u.heap.size ≤ g8 ∧ Below u.heap.size u X)
      case first =>
        replace GB := GB.drew
        refine wp_region_held_drew (S := fun v => Below u.heap.size u v) (by kernel_rfl) GB (fun hS => ?_)
        generalize u.drew = V at GB hS ⊢
        refine wpAnyH_take (i := 0) (v := .pointer (some ⟨gr, 2, none⟩)) rfl (by kernel_rfl) (by kernel_rfl) (by kernel_rfl) (fun _ _ _ h => h) (Or.inl ⟨by kernel_rfl, fun u hSw => (by go_simp)⟩) hS ?_
        change wpAnyH _ _ _ _ _ _ _ (Act.put _ (some 11) _) _
        simp only [Act.put]
        refine wpAnyH_take (i := 1) (v := .pointer (some ⟨gr, 4, none⟩)) rfl (by kernel_rfl) (by kernel_rfl) (by kernel_rfl) (fun _ _ _ h => h) (Or.inl ⟨by kernel_rfl, fun u hSw => (by go_simp)⟩) hS ?_
        change wpAnyH _ _ _ _ _ _ _ (Act.put _ (some 12) _) _
        simp only [Act.put]
        refine wpAnyH_take (i := 2) (v := .int .u64 (x : Int)) rfl (by kernel_rfl) (by kernel_rfl) (by kernel_rfl) (fun _ _ _ h => h) (Or.inl ⟨by kernel_rfl, fun u hSw => (by have q0 := (HKr.out u hSw).cell 4; go_simp)⟩) hS ?_
        change wpAnyH _ _ _ _ _ _ _ (Act.put _ (some 13) _) _
        simp only [Act.put]
        refine wpAnyH_take (i := 3) (v := .agg #[.slice A n1 c]) rfl (by kernel_rfl) (by kernel_rfl) (by kernel_rfl) (fun _ _ _ h => h) (Or.inl ⟨by kernel_rfl, fun u hSw => (by have q0 := HQ.out u hSw; go_simp)⟩) hS ?_
        change wpAnyH _ _ _ _ _ _ _ (Act.put _ (some 14) _) _
        simp only [Act.put]
        refine wpAnyH_ready (rs := [4, 9]) (by kernel_rfl) (by simp) ?_
        refine AllReadyH.cons rfl (fun K hK => ?_) (AllReadyH.cons rfl (fun K hK => ?_) (AllReadyH.nil))
        · skip
          go_simp
          refine (HTi.out _ GB).mono ?_
          rintro e1 w1 ⟨A', c', rfl, oo, h9⟩
          replace GB := GB.trans (h9.mono GB.size)
          have HFr := (Reads.of_own oo).frow
          clear oo
          clear h9
          refine hK.out _ _ GB (fun hS => ?_)
          clear hK K
          refine wpAnyH_ready (rs := [5, 9]) (by kernel_rfl) (by simp) ?_
          refine AllReadyH.cons rfl (fun K hK => ?_) (AllReadyH.cons rfl (fun K hK => ?_) (AllReadyH.nil))
          · skip
            go_simp
            refine (HLi.out _ _ _ HFr).mono ?_
            rintro e2 w2 ⟨rfl, h9⟩
            replace GB := GB.trans (h9.mono GB.size)
            clear HFr
            clear h9
            refine hK.out _ _ GB (fun hS => ?_)
            clear hK K
            refine wpAnyH_take (i := 6) (v := .tuple #[.agg #[.int .u64 (ph : Int), .int .u64 (pl : Int), .int .u64 (px : Int)], .int .i64 E]) rfl (by kernel_rfl) (by kernel_rfl) (by kernel_rfl) (fun _ _ _ h => h) (Or.inl ⟨by kernel_rfl, fun u hSw => (by go_simp)⟩) hS ?_
            change wpAnyH _ _ _ _ _ _ _ (Act.put _ (some 10) _) _
            simp only [Act.put]
            refine wpAnyH_take (i := 7) (v := .agg #[.int .u64 (ph : Int), .int .u64 (pl : Int), .int .u64 (px : Int)]) rfl (by kernel_rfl) (by kernel_rfl) (by kernel_rfl) (fun _ _ _ h => h) (Or.inl ⟨by kernel_rfl, fun u hSw => (by go_simp)⟩) hS ?_
            change wpAnyH _ _ _ _ _ _ _ (Act.put _ (some 17) _) _
            simp only [Act.put]
            refine wpAnyH_take (i := 8) (v := .int .i64 E) rfl (by kernel_rfl) (by kernel_rfl) (by kernel_rfl) (fun _ _ _ h => h) (Or.inl ⟨by kernel_rfl, fun u hSw => (by go_simp)⟩) hS ?_
            change wpAnyH _ _ _ _ _ _ _ (Act.put _ (some 18) _) _
            simp only [Act.put]
            refine wpAnyH_ready (rs := [9]) (by kernel_rfl) (by simp) ?_
            refine AllReadyH.cons rfl (fun K hK => ?_) AllReadyH.nil
            have K8 := Blk.new w2 36 #[.int .u64 0, .int .u64 0, .int .u64 0]
            have hg8 := GB.size
            have GB2 := GB.alloc GB.size (.cells #[.int .u64 0, .int .u64 0, .int .u64 0] 36)
            go_simp
            generalize w2.alloc (.cells #[.int .u64 0, .int .u64 0, .int .u64 0] 36) = Xa3 at K8 GB2 ⊢
            refine hK.out _ _ GB2 (fun hS => ?_)
            clear hK K
            replace GB := GB2
            clear GB2
            refine wpAnyH_ready (rs := [10]) (by kernel_rfl) (by simp) ?_
            refine AllReadyH.cons rfl (fun K hK => ?_) AllReadyH.nil
            have d0 := K8.cell 0
            have d1 := K8.cell 1
            have d2 := K8.cell 2
            have f0 := K8.frozen 0
            have f1 := K8.frozen 1
            have f2 := K8.frozen 2
            have HP := put3 (x := .int .u64 (ph : Int)) (y := .int .u64 (pl : Int)) (z := .int .u64 (px : Int)) K8 GB hg8
            go_simp
            refine hK.out _ _ HP.2 (fun hS => ?_)
            clear hK K d0 d1 d2 f0 f1 f2 K8 GB
            refine wpAnyH_take (i := 11) (v := .int .i64 E) rfl (by kernel_rfl) (by kernel_rfl) (by kernel_rfl) (fun _ _ _ h => h) (Or.inl ⟨by kernel_rfl, fun u hSw => (by go_simp)⟩) hS ?_
            change wpAnyH _ _ _ _ _ _ _ (Act.put _ (some 9) _) _
            simp only [Act.put]
            refine wpAnyH_done (by kernel_rfl) ?_ _
            clear hS
            go_wp2_with fail
            go_meet
            exact ⟨_, rfl, rfl, HP.1, hg8, HP.2⟩
          · skip
            have K8 := Blk.new w1 36 #[.int .u64 0, .int .u64 0, .int .u64 0]
            have hg8 := GB.size
            have GB2 := GB.alloc GB.size (.cells #[.int .u64 0, .int .u64 0, .int .u64 0] 36)
            have HFr2 := HFr.below ((Below.refl _ w1).alloc (Nat.le_refl _) (.cells #[.int .u64 0, .int .u64 0, .int .u64 0] 36)) (Nat.le_refl _)
            replace HFr := HFr2.more (show w1.heap.size ≤ (w1.alloc (.cells #[.int .u64 0, .int .u64 0, .int .u64 0] 36)).heap.size by simp)
            clear HFr2
            go_simp
            generalize w1.alloc (.cells #[.int .u64 0, .int .u64 0, .int .u64 0] 36) = Xa5 at K8 GB2 HFr ⊢
            refine hK.out _ _ GB2 (fun hS => ?_)
            clear hK K
            replace GB := GB2
            clear GB2
            refine wpAnyH_ready (rs := [5]) (by kernel_rfl) (by simp) ?_
            refine AllReadyH.cons rfl (fun K hK => ?_) AllReadyH.nil
            go_simp
            refine (HLi.out _ _ _ HFr).mono ?_
            rintro e6 w6 ⟨rfl, h9⟩
            replace GB := GB.trans (h9.mono GB.size)
            replace K8 := K8.below h9 K8.lt
            clear HFr
            clear h9
            refine hK.out _ _ GB (fun hS => ?_)
            clear hK K
            refine wpAnyH_take (i := 6) (v := .tuple #[.agg #[.int .u64 (ph : Int), .int .u64 (pl : Int), .int .u64 (px : Int)], .int .i64 E]) rfl (by kernel_rfl) (by kernel_rfl) (by kernel_rfl) (fun _ _ _ h => h) (Or.inl ⟨by kernel_rfl, fun u hSw => (by go_simp)⟩) hS ?_
            change wpAnyH _ _ _ _ _ _ _ (Act.put _ (some 10) _) _
            simp only [Act.put]
            refine wpAnyH_take (i := 7) (v := .agg #[.int .u64 (ph : Int), .int .u64 (pl : Int), .int .u64 (px : Int)]) rfl (by kernel_rfl) (by kernel_rfl) (by kernel_rfl) (fun _ _ _ h => h) (Or.inl ⟨by kernel_rfl, fun u hSw => (by go_simp)⟩) hS ?_
            change wpAnyH _ _ _ _ _ _ _ (Act.put _ (some 17) _) _
            simp only [Act.put]
            refine wpAnyH_take (i := 8) (v := .int .i64 E) rfl (by kernel_rfl) (by kernel_rfl) (by kernel_rfl) (fun _ _ _ h => h) (Or.inl ⟨by kernel_rfl, fun u hSw => (by go_simp)⟩) hS ?_
            change wpAnyH _ _ _ _ _ _ _ (Act.put _ (some 18) _) _
            simp only [Act.put]
            refine wpAnyH_ready (rs := [10]) (by kernel_rfl) (by simp) ?_
            refine AllReadyH.cons rfl (fun K hK => ?_) AllReadyH.nil
            have d0 := K8.cell 0
            have d1 := K8.cell 1
            have d2 := K8.cell 2
            have f0 := K8.frozen 0
            have f1 := K8.frozen 1
            have f2 := K8.frozen 2
            have HP := put3 (x := .int .u64 (ph : Int)) (y := .int .u64 (pl : Int)) (z := .int .u64 (px : Int)) K8 GB hg8
            go_simp
            refine hK.out _ _ HP.2 (fun hS => ?_)
            clear hK K d0 d1 d2 f0 f1 f2 K8 GB
            refine wpAnyH_take (i := 11) (v := .int .i64 E) rfl (by kernel_rfl) (by kernel_rfl) (by kernel_rfl) (fun _ _ _ h => h) (Or.inl ⟨by kernel_rfl, fun u hSw => (by go_simp)⟩) hS ?_
            change wpAnyH _ _ _ _ _ _ _ (Act.put _ (some 9) _) _
            simp only [Act.put]
            refine wpAnyH_done (by kernel_rfl) ?_ _
            clear hS
            go_wp2_with fail
            go_meet
            exact ⟨_, rfl, rfl, HP.1, hg8, HP.2⟩
        · skip
          have K8 := Blk.new V 36 #[.int .u64 0, .int .u64 0, .int .u64 0]
          have hg8 := GB.size
          have GB2 := GB.alloc GB.size (.cells #[.int .u64 0, .int .u64 0, .int .u64 0] 36)
          go_simp
          generalize V.alloc (.cells #[.int .u64 0, .int .u64 0, .int .u64 0] 36) = Xa8 at K8 GB2 ⊢
          refine hK.out _ _ GB2 (fun hS => ?_)
          clear hK K
          replace GB := GB2
          clear GB2
          refine wpAnyH_ready (rs := [4]) (by kernel_rfl) (by simp) ?_
          refine AllReadyH.cons rfl (fun K hK => ?_) AllReadyH.nil
          go_simp
          refine (HTi.out _ GB).mono ?_
          rintro e9 w9 ⟨A', c', rfl, oo, h9⟩
          replace GB := GB.trans (h9.mono GB.size)
          replace K8 := K8.below h9 K8.lt
          have HFr := (Reads.of_own oo).frow
          clear oo
          clear h9
          refine hK.out _ _ GB (fun hS => ?_)
          clear hK K
          refine wpAnyH_ready (rs := [5]) (by kernel_rfl) (by simp) ?_
          refine AllReadyH.cons rfl (fun K hK => ?_) AllReadyH.nil
          go_simp
          refine (HLi.out _ _ _ HFr).mono ?_
          rintro e10 w10 ⟨rfl, h9⟩
          replace GB := GB.trans (h9.mono GB.size)
          replace K8 := K8.below h9 K8.lt
          clear HFr
          clear h9
          refine hK.out _ _ GB (fun hS => ?_)
          clear hK K
          refine wpAnyH_take (i := 6) (v := .tuple #[.agg #[.int .u64 (ph : Int), .int .u64 (pl : Int), .int .u64 (px : Int)], .int .i64 E]) rfl (by kernel_rfl) (by kernel_rfl) (by kernel_rfl) (fun _ _ _ h => h) (Or.inl ⟨by kernel_rfl, fun u hSw => (by go_simp)⟩) hS ?_
          change wpAnyH _ _ _ _ _ _ _ (Act.put _ (some 10) _) _
          simp only [Act.put]
          refine wpAnyH_take (i := 7) (v := .agg #[.int .u64 (ph : Int), .int .u64 (pl : Int), .int .u64 (px : Int)]) rfl (by kernel_rfl) (by kernel_rfl) (by kernel_rfl) (fun _ _ _ h => h) (Or.inl ⟨by kernel_rfl, fun u hSw => (by go_simp)⟩) hS ?_
          change wpAnyH _ _ _ _ _ _ _ (Act.put _ (some 17) _) _
          simp only [Act.put]
          refine wpAnyH_take (i := 8) (v := .int .i64 E) rfl (by kernel_rfl) (by kernel_rfl) (by kernel_rfl) (fun _ _ _ h => h) (Or.inl ⟨by kernel_rfl, fun u hSw => (by go_simp)⟩) hS ?_
          change wpAnyH _ _ _ _ _ _ _ (Act.put _ (some 18) _) _
          simp only [Act.put]
          refine wpAnyH_ready (rs := [10]) (by kernel_rfl) (by simp) ?_
          refine AllReadyH.cons rfl (fun K hK => ?_) AllReadyH.nil
          have d0 := K8.cell 0
          have d1 := K8.cell 1
          have d2 := K8.cell 2
          have f0 := K8.frozen 0
          have f1 := K8.frozen 1
          have f2 := K8.frozen 2
          have HP := put3 (x := .int .u64 (ph : Int)) (y := .int .u64 (pl : Int)) (z := .int .u64 (px : Int)) K8 GB hg8
          go_simp
          refine hK.out _ _ HP.2 (fun hS => ?_)
          clear hK K d0 d1 d2 f0 f1 f2 K8 GB
          refine wpAnyH_take (i := 11) (v := .int .i64 E) rfl (by kernel_rfl) (by kernel_rfl) (by kernel_rfl) (fun _ _ _ h => h) (Or.inl ⟨by kernel_rfl, fun u hSw => (by go_simp)⟩) hS ?_
          change wpAnyH _ _ _ _ _ _ _ (Act.put _ (some 9) _) _
          simp only [Act.put]
          refine wpAnyH_done (by kernel_rfl) ?_ _
          clear hS
          go_wp2_with fail
          go_meet
          exact ⟨_, rfl, rfl, HP.1, hg8, HP.2⟩
      case rest =>
        obtain ⟨g8, rfl, rfl, K8, hg8, GB⟩ := hcut
        rename World => X
        clear K8 hg8
        go_wp2
        go_ret2
        exact ⟨⟨_, _, _, rfl, fun h => (HE.out h).elim⟩, below_but (GB.mono hb2) _, trivial⟩

end Go.Proofs.Ytfgabmelmopgdaa
