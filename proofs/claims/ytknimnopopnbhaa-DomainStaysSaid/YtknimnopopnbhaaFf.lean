/-
  DomainStays' walk. No statement is proved here.
-/
import Derived.Test.YtknimnopopnbhaaFh
import Derived.Test.YtknimnopopnbhaaOs
import Derived.Deep.DeepCutAuto
import Derived.Deep.CutBlock
namespace Go.Proofs.Ytknimnopopnbhaa
open Go.RowKit

theorem deed_at {w : World} {B n : Nat} {A : Option Addr} {l : List DeedT} (h : Reads w B 9 A n (flat dev l)) {j : Nat} {k x1 x2 x3 x4 v1 v2 : Int} {v3 v4 : Nat} (hj : l[j]? = some (k, (x1, x2, x3, x4), (v1, v2, v3, v4))) :
    ∃ ad, A = some ad ∧ ad.block < B ∧ w.cell? (ad.add (j * 9)) = some (.int .i64 k) ∧ w.cell? ⟨(ad.add (j * 9)).block, (ad.add (j * 9)).off + 1, none⟩ = some (.int .i64 x1) ∧ w.cell? ⟨(ad.add (j * 9)).block, (ad.add (j * 9)).off + 2, none⟩ = some (.int .i64 x2) ∧ w.cell? ⟨(ad.add (j * 9)).block, (ad.add (j * 9)).off + 3, none⟩ = some (.int .i64 x3) ∧
      w.cell? ⟨(ad.add (j * 9)).block, (ad.add (j * 9)).off + 4, none⟩ = some (.int .i64 x4) ∧ w.cell? ⟨(ad.add (j * 9)).block, (ad.add (j * 9)).off + 5, none⟩ = some (.int .i64 v1) ∧ w.cell? ⟨(ad.add (j * 9)).block, (ad.add (j * 9)).off + 6, none⟩ = some (.int .i64 v2) ∧
      w.cell? ⟨(ad.add (j * 9)).block, (ad.add (j * 9)).off + 7, none⟩ = some (.int .u32 (v3 : Int)) ∧ w.cell? ⟨(ad.add (j * 9)).block, (ad.add (j * 9)).off + 8, none⟩ = some (.int .u32 (v4 : Int)) := by
  obtain ⟨ad, e, hb, hc⟩ := h.elem dev length_dev hj (by omega)
  refine ⟨ad, e, hb, hc 0 _ rfl, ?_, ?_, ?_, ?_, ?_, ?_, ?_, ?_⟩
  · have := hc 1 _ rfl; rwa [add_past ad (j * 9) 0] at this
  · have := hc 2 _ rfl; rwa [add_past ad (j * 9) 1] at this
  · have := hc 3 _ rfl; rwa [add_past ad (j * 9) 2] at this
  · have := hc 4 _ rfl; rwa [add_past ad (j * 9) 3] at this
  · have := hc 5 _ rfl; rwa [add_past ad (j * 9) 4] at this
  · have := hc 6 _ rfl; rwa [add_past ad (j * 9) 5] at this
  · have := hc 7 _ rfl; rwa [add_past ad (j * 9) 6] at this
  · have := hc 8 _ rfl; rwa [add_past ad (j * 9) 7] at this
/-- guests in rows of the call's own -/
structure GO (w : World) (b : Nat) (A : Option Addr) (n c : Nat) (ds : List Dom) (B : Option Addr) (m d : Nat) (us : List Vc) : Prop where
  doms : w.ownsRow b 27 4 (.slice A n c) n (flat dv ds)
  vcs : w.ownsRow b 50 4 (.slice B m d) m (flat cv us)
section
variable {w w' : World} {b : Nat} {A : Option Addr} {n c : Nat} {ds : List Dom} {B : Option Addr} {m d : Nat} {us : List Vc}
theorem GO.gr (h : GO w b A n c ds B m d us) (hP : RightP ds us) : GR w A n c ds B m d us :=
  GR.of_own h.doms h.vcs (by have := own_dlen h.doms; have := hP.dn; omega) (by have := own_vlen h.vcs; have := hP.vn; omega) (UV.right hP)
theorem GO.below (h : GO w b A n c ds B m d us) (hb : Below w.heap.size w w') : GO w' b A n c ds B m d us := ⟨own_below h.doms hb, own_below h.vcs hb⟩
theorem GO.set (h : GO w b A n c ds B m d us) {g : Nat} (hg : g < b) (i : Nat) (u : Value) : GO (w.setCell ⟨g, i, none⟩ u) b A n c ds B m d us := ⟨own_set h.doms hg i u, own_set h.vcs hg i u⟩
theorem GO.down (h : GO w b A n c ds B m d us) {b' : Nat} (hb : b' ≤ b) : GO w b' A n c ds B m d us := ⟨own_down h.doms hb, own_down h.vcs hb⟩
theorem GO.nil (w : World) (b : Nat) : GO w b none 0 0 [] none 0 0 [] := ⟨World.ownsRow_nil _ _ _ _, World.ownsRow_nil _ _ _ _⟩
end
theorem kind_of (kd : Int) : ∃ q : Nat, (wrap64 (kd.tmod 6 + 6)).tmod 6 = (q : Int) ∧ q < 6 := by
  have h1 := Int.tmod_lt_of_pos kd (show (0 : Int) < 6 by decide)
  have h2 := Int.lt_tmod_of_pos kd (show (0 : Int) < 6 by decide)
  rw [show wrap64 (kd.tmod 6 + 6) = kd.tmod 6 + 6 by unfold wrap64; omega, Int.tmod_eq_emod_of_nonneg (by omega)]
  exact ⟨((kd.tmod 6 + 6) % 6).toNat, by omega, by omega⟩
theorem vcq_small {ds : List Dom} {us : List Vc} {id y1 y2 : Int} {y3 y4 : Nat} (hP : RightP ds us) (h : (vcQ ds us id).1 = (y1, y2, y3, y4)) : y3 < 4294967296 ∧ y4 < 4294967296 := by
  unfold vcQ at h
  rw [if_pos (rightG_iff.2 hP)] at h
  unfold vcV at h
  cases hv : vcF us id with
  | none => rw [hv] at h; obtain ⟨-, -, rfl, rfl⟩ : (0 : Int) = y1 ∧ (0 : Int) = y2 ∧ 0 = y3 ∧ 0 = y4 := by simpa [zeroV] using h
            exact ⟨by decide, by decide⟩
  | some x =>
    rw [hv] at h
    have h2 : x = (y1, y2, y3, y4) := h
    subst h2
    exact UV.right hP _ (kf_some hv).1

set_option maxRecDepth 100000 in
set_option maxHeartbeats 32000000 in
theorem stays_walk (Al : Option Addr) (nl cl : Nat) (l : List DeedT) (w : World) (hR : Reads w w.heap.size 9 Al nl (flat dev l)) (hs : ∀ (k : Nat) (x : DeedT), l[k]? = some x → x.2.2.2.2.1 < 4294967296 ∧ x.2.2.2.2.2 < 4294967296) :
    Calls Try.prog 7 #[.slice Al nl cl] w (Said (.bool true) w) := by
  have HWk := Lib.hid (wakes_any w)
  have HR := Lib.hid hR
  have HS := Lib.hid hs
  have HL : Hid (l.length = nl) := Lib.hid (by have := hR.1; rw [length_flat dev length_dev] at this; omega)
  clear hR hs
  go_enter Try.func7, Try.ntmps7
  go_wp2_with fail
  refine HWk.out.mono ?_
  rintro e w1 ⟨rfl, B1⟩
  have KG := Blk.new w1 25 #[.slice none 0 0, .slice none 0 0]
  have GB := B1.alloc B1.size (.cells #[.slice none 0 0, .slice none 0 0] 25)
  have Hg3 := Lib.hid B1.size
  clear B1 HWk
  go_wp2_with fail
  go_loopw [21] (fun i wr => ∃ (k : Nat) (A : Option Addr) (n c : Nat) (ds : List Dom) (B : Option Addr) (m d : Nat) (us : List Vc), k ≤ nl ∧ k ≤ 60 ∧ i = .int .i64 (k : Int) ∧ Hid (RightP ds us) ∧ Hid (GO wr (w1.heap.size + 1) A n c ds B m d us) ∧ Blk wr w1.heap.size 25 #[.slice A n c, .slice B m d] ∧ Below w.heap.size w wr) (fun i _ => nl - (intOf i).toNat)
  case atStart => exact ⟨0, none, 0, 0, [], none, 0, 0, [], by omega, by omega, rfl, Lib.hid right_nil, Lib.hid (GO.nil _ _), KG, GB⟩
  case round =>
    clear KG GB
    obtain ⟨k, A, n, c, ds, B, m, d, us, hk, h60, rfl, HP, HO, KG, GB⟩ := hrel
    by_cases hlt : k < nl
    · obtain ⟨⟨kd, ⟨x1, x2, x3, x4⟩, ⟨v1, v2, v3, v4⟩⟩, hx⟩ := elem_at (l := l) (k := k) (by rw [HL.out]; exact hlt)
      obtain ⟨ad, rfl, hbk, c0, c1, c2, c3, c4, c5, c6, c7, c8⟩ := deed_at (HR.out.below GB) hx
      have HM := Lib.hid (HS.out k _ hx)
      replace HM : Hid (v3 < 4294967296 ∧ v4 < 4294967296) := HM
      have j0 : (0 : Int) ≤ (k : Int) := by omega
      have j1 : (k : Int) < (nl : Int) := by omega
      have KD := Blk.new wr 69 #[.int .i64 kd, .int .i64 x1, .int .i64 x2, .int .i64 x3, .int .i64 x4, .int .i64 v1, .int .i64 v2, .int .u32 (v3 : Int), .int .u32 (v4 : Int)]
      have KG1 := KG.alloc (.cells #[.int .i64 kd, .int .i64 x1, .int .i64 x2, .int .i64 x3, .int .i64 x4, .int .i64 v1, .int .i64 v2, .int .u32 (v3 : Int), .int .u32 (v4 : Int)] 69)
      have HO1 := Lib.hid (HO.out.below ((Below.refl _ wr).alloc (Nat.le_refl _) (.cells #[.int .i64 kd, .int .i64 x1, .int .i64 x2, .int .i64 x3, .int .i64 x4, .int .i64 v1, .int .i64 v2, .int .u32 (v3 : Int), .int .u32 (v4 : Int)] 69)))
      have GB1 := GB.alloc GB.size (.cells #[.int .i64 kd, .int .i64 x1, .int .i64 x2, .int .i64 x3, .int .i64 x4, .int .i64 v1, .int .i64 v2, .int .u32 (v3 : Int), .int .u32 (v4 : Int)] 69)
      have lg := KG.lt
      clear hx KG HO GB
      by_cases h6 : k = 60
      · have q : ((k : Int) == 60) = true := by simp; omega
        have BH := Lib.hid GB1
        clear h6 h60 KD KG1 GB1 lg
        go_wp2
        go_ret
        exact ⟨rfl, BH.out⟩
      · have q : ((k : Int) == 60) = false := by simp; omega
        have HK : Hid (k + 1 ≤ nl ∧ k + 1 ≤ 60) := Lib.hid (by omega)
        have k9 : k < 100 := by omega
        clear h6 h60 hlt
        go_upto_region 8 with fail
        obtain ⟨Y, hY⟩ : ∃ Y, wr.alloc (.cells #[.int .i64 kd, .int .i64 x1, .int .i64 x2, .int .i64 x3, .int .i64 x4, .int .i64 v1, .int .i64 v2, .int .u32 (v3 : Int), .int .u32 (v4 : Int)] 69) = Y := ⟨_, rfl⟩
        obtain ⟨gd, hgd⟩ : ∃ gd, wr.heap.size = gd := ⟨_, rfl⟩
        rw [hY] at KD KG1 HO1 GB1 ⊢
        rw [hgd] at KD lg ⊢
        clear hY hgd c0 c1 c2 c3 c4 c5 c6 c7 c8 hbk
        have HKY := Lib.hid (fun (u : World) (h : Below Y.heap.size Y u) => And.intro (KG1.below h KG1.lt) (And.intro (KD.below h KD.lt) (And.intro (HO1.out.below h) (GB1.trans (h.mono GB1.size)))))
        have Hlg : Hid (w1.heap.size < Y.heap.size) := Lib.hid KG1.lt
        have e0 : Y.drew.cell? ⟨w1.heap.size, 0, none⟩ = some (.slice A n c) := KG1.cell 0
        have e1 : Y.drew.cell? ⟨w1.heap.size, 1, none⟩ = some (.slice B m d) := KG1.cell 1
        clear KD KG1 HO1 GB1 lg
        go_cut [6, 7, 8, 9] (fun s6 s7 s8 s9 X => ∃ g6 g7 : Nat, s6 = .pointer (some ⟨g6, 0, none⟩) ∧ s7 = .pointer (some ⟨g7, 0, none⟩) ∧ s8 = .int .i64 0 ∧ s9 = .int .i64 0 ∧ Y.heap.size ≤ g6 ∧ Y.heap.size ≤ g7 ∧ g6 ≠ g7 ∧ Blk X g6 25 #[.slice A n c, .slice B m d] ∧ Blk X g7 25 #[.slice A n c, .slice B m d] ∧ Below Y.heap.size Y X)
        case first =>
          have DY := (Below.refl Y.heap.size Y).drew
          clear e0 e1
          refine wp_region_held_drew (S := fun u => Below Y.heap.size Y u) (by kernel_rfl) DY (fun hS => ?_)
          generalize Y.drew = V at DY hS ⊢
          refine wpAnyH_take (i := 0) (v := .agg #[.slice A n c, .slice B m d]) rfl (by kernel_rfl) (by kernel_rfl) (by kernel_rfl) (fun _ _ _ h => h) (Or.inl ⟨by kernel_rfl, fun u hSw => (by have q0 := (HKY.out u hSw).1.cell 0; have q1 := (HKY.out u hSw).1.cell 1; go_simp)⟩) hS ?_
          change wpAnyH _ _ _ _ _ _ _ (Act.put _ (some 28) _) _
          simp only [Act.put]
          refine wpAnyH_take (i := 1) (v := .agg #[.slice A n c, .slice B m d]) rfl (by kernel_rfl) (by kernel_rfl) (by kernel_rfl) (fun _ _ _ h => h) (Or.inl ⟨by kernel_rfl, fun u hSw => (by have q0 := (HKY.out u hSw).1.cell 0; have q1 := (HKY.out u hSw).1.cell 1; go_simp)⟩) hS ?_
          change wpAnyH _ _ _ _ _ _ _ (Act.put _ (some 29) _) _
          simp only [Act.put]
          refine wpAnyH_ready (rs := [2, 3]) (by kernel_rfl) (by simp) ?_
          refine AllReadyH.cons rfl (fun K hK => ?_) (AllReadyH.cons rfl (fun K hK => ?_) (AllReadyH.nil))
          · skip
            go_simp
            have K6 := Blk.new V 25 #[.slice none 0 0, .slice none 0 0]
            have l6 := DY.size
            replace DY := DY.alloc DY.size (.cells #[.slice none 0 0, .slice none 0 0] 25)
            refine hK.out _ _ DY (fun hS => ?_)
            clear hK K
            generalize V.alloc (.cells #[.slice none 0 0, .slice none 0 0] 25) = U1 at K6  DY hS ⊢
            generalize V.heap.size = g6 at K6 l6  ⊢
            refine wpAnyH_ready (rs := [3]) (by kernel_rfl) (by simp) ?_
            refine AllReadyH.cons rfl (fun K hK => ?_) AllReadyH.nil
            go_simp
            have K7 := Blk.new U1 25 #[.slice none 0 0, .slice none 0 0]
            have l7 := DY.size
            have hlt := K6.lt
            replace K6 := K6.alloc (.cells #[.slice none 0 0, .slice none 0 0] 25)
            replace DY := DY.alloc DY.size (.cells #[.slice none 0 0, .slice none 0 0] 25)
            refine hK.out _ _ DY (fun hS => ?_)
            clear hK K
            generalize U1.alloc (.cells #[.slice none 0 0, .slice none 0 0] 25) = U2 at K7 K6 DY hS ⊢
            generalize U1.heap.size = g7 at K7 l7 hlt ⊢
            refine wpAnyH_ready (rs := [4]) (by kernel_rfl) (by simp) ?_
            refine AllReadyH.cons rfl (fun K hK => ?_) AllReadyH.nil
            have d0 := K6.cell 0
            have d1 := K6.cell 1
            have f0 := K6.frozen 0
            have f1 := K6.frozen 1
            have P := put2 (x := .slice A n c) (y := .slice B m d) K6 DY l6
            have Q := (K7.far (p := ⟨g6, 0, none⟩) (by simp; omega) (.slice A n c)).far (p := ⟨g6, 1, none⟩) (by simp; omega) (.slice B m d)
            clear K6 K7 DY
            go_simp
            refine hK.out _ _ P.2 (fun hS => ?_)
            clear hK K d0 d1 f0 f1
            obtain ⟨K6, DY⟩ := P
            have K7 := Q
            clear Q
            generalize (U2.setCell ⟨g6, 0, none⟩ (.slice A n c)).setCell ⟨g6, 1, none⟩ (.slice B m d) = U3 at K6 K7 DY hS ⊢
            refine wpAnyH_ready (rs := [5]) (by kernel_rfl) (by simp) ?_
            refine AllReadyH.cons rfl (fun K hK => ?_) AllReadyH.nil
            have d0 := K7.cell 0
            have d1 := K7.cell 1
            have f0 := K7.frozen 0
            have f1 := K7.frozen 1
            have P := put2 (x := .slice A n c) (y := .slice B m d) K7 DY l7
            have Q := (K6.far (p := ⟨g7, 0, none⟩) (by simp; omega) (.slice A n c)).far (p := ⟨g7, 1, none⟩) (by simp; omega) (.slice B m d)
            clear K7 K6 DY
            go_simp
            refine hK.out _ _ P.2 (fun hS => ?_)
            clear hK K d0 d1 f0 f1
            obtain ⟨K7, DY⟩ := P
            have K6 := Q
            clear Q
            generalize (U3.setCell ⟨g7, 0, none⟩ (.slice A n c)).setCell ⟨g7, 1, none⟩ (.slice B m d) = U4 at K6 K7 DY hS ⊢
            refine wpAnyH_take (i := 6) (v := .int .i64 0) rfl (by kernel_rfl) (by kernel_rfl) (by kernel_rfl) (fun _ _ _ h => h) (Or.inl ⟨by kernel_rfl, fun u hSw => (by go_simp)⟩) hS ?_
            change wpAnyH _ _ _ _ _ _ _ (Act.put _ (some 8) _) _
            simp only [Act.put]
            refine wpAnyH_take (i := 7) (v := .int .i64 0) rfl (by kernel_rfl) (by kernel_rfl) (by kernel_rfl) (fun _ _ _ h => h) (Or.inl ⟨by kernel_rfl, fun u hSw => (by go_simp)⟩) hS ?_
            change wpAnyH _ _ _ _ _ _ _ (Act.put _ (some 9) _) _
            simp only [Act.put]
            refine wpAnyH_done (by kernel_rfl) ?_ _
            clear hS
            go_wp2_with fail
            try go_simp
            go_meet
            exact ⟨g6, g7, rfl, rfl, rfl, rfl, l6, l7, by omega, K6, K7, DY⟩
          · skip
            go_simp
            have K7 := Blk.new V 25 #[.slice none 0 0, .slice none 0 0]
            have l7 := DY.size
            replace DY := DY.alloc DY.size (.cells #[.slice none 0 0, .slice none 0 0] 25)
            refine hK.out _ _ DY (fun hS => ?_)
            clear hK K
            generalize V.alloc (.cells #[.slice none 0 0, .slice none 0 0] 25) = U5 at K7  DY hS ⊢
            generalize V.heap.size = g7 at K7 l7  ⊢
            refine wpAnyH_ready (rs := [2]) (by kernel_rfl) (by simp) ?_
            refine AllReadyH.cons rfl (fun K hK => ?_) AllReadyH.nil
            go_simp
            have K6 := Blk.new U5 25 #[.slice none 0 0, .slice none 0 0]
            have l6 := DY.size
            have hlt := K7.lt
            replace K7 := K7.alloc (.cells #[.slice none 0 0, .slice none 0 0] 25)
            replace DY := DY.alloc DY.size (.cells #[.slice none 0 0, .slice none 0 0] 25)
            refine hK.out _ _ DY (fun hS => ?_)
            clear hK K
            generalize U5.alloc (.cells #[.slice none 0 0, .slice none 0 0] 25) = U6 at K6 K7 DY hS ⊢
            generalize U5.heap.size = g6 at K6 l6 hlt ⊢
            refine wpAnyH_ready (rs := [4]) (by kernel_rfl) (by simp) ?_
            refine AllReadyH.cons rfl (fun K hK => ?_) AllReadyH.nil
            have d0 := K6.cell 0
            have d1 := K6.cell 1
            have f0 := K6.frozen 0
            have f1 := K6.frozen 1
            have P := put2 (x := .slice A n c) (y := .slice B m d) K6 DY l6
            have Q := (K7.far (p := ⟨g6, 0, none⟩) (by simp; omega) (.slice A n c)).far (p := ⟨g6, 1, none⟩) (by simp; omega) (.slice B m d)
            clear K6 K7 DY
            go_simp
            refine hK.out _ _ P.2 (fun hS => ?_)
            clear hK K d0 d1 f0 f1
            obtain ⟨K6, DY⟩ := P
            have K7 := Q
            clear Q
            generalize (U6.setCell ⟨g6, 0, none⟩ (.slice A n c)).setCell ⟨g6, 1, none⟩ (.slice B m d) = U7 at K6 K7 DY hS ⊢
            refine wpAnyH_ready (rs := [5]) (by kernel_rfl) (by simp) ?_
            refine AllReadyH.cons rfl (fun K hK => ?_) AllReadyH.nil
            have d0 := K7.cell 0
            have d1 := K7.cell 1
            have f0 := K7.frozen 0
            have f1 := K7.frozen 1
            have P := put2 (x := .slice A n c) (y := .slice B m d) K7 DY l7
            have Q := (K6.far (p := ⟨g7, 0, none⟩) (by simp; omega) (.slice A n c)).far (p := ⟨g7, 1, none⟩) (by simp; omega) (.slice B m d)
            clear K7 K6 DY
            go_simp
            refine hK.out _ _ P.2 (fun hS => ?_)
            clear hK K d0 d1 f0 f1
            obtain ⟨K7, DY⟩ := P
            have K6 := Q
            clear Q
            generalize (U7.setCell ⟨g7, 0, none⟩ (.slice A n c)).setCell ⟨g7, 1, none⟩ (.slice B m d) = U8 at K6 K7 DY hS ⊢
            refine wpAnyH_take (i := 6) (v := .int .i64 0) rfl (by kernel_rfl) (by kernel_rfl) (by kernel_rfl) (fun _ _ _ h => h) (Or.inl ⟨by kernel_rfl, fun u hSw => (by go_simp)⟩) hS ?_
            change wpAnyH _ _ _ _ _ _ _ (Act.put _ (some 8) _) _
            simp only [Act.put]
            refine wpAnyH_take (i := 7) (v := .int .i64 0) rfl (by kernel_rfl) (by kernel_rfl) (by kernel_rfl) (fun _ _ _ h => h) (Or.inl ⟨by kernel_rfl, fun u hSw => (by go_simp)⟩) hS ?_
            change wpAnyH _ _ _ _ _ _ _ (Act.put _ (some 9) _) _
            simp only [Act.put]
            refine wpAnyH_done (by kernel_rfl) ?_ _
            clear hS
            go_wp2_with fail
            try go_simp
            go_meet
            exact ⟨g6, g7, rfl, rfl, rfl, rfl, l6, l7, by omega, K6, K7, DY⟩
        case rest =>
          clear e0 e1
          obtain ⟨g6, g7, rfl, rfl, rfl, rfl, l6, l7, hne, K6, K7, DY⟩ := hcut
          rename World => X
          have zd := (HKY.out _ DY).2.1.cell 0
          have HQs := Lib.hid (kind_of kd)
          obtain ⟨q, hq, hq6⟩ := HQs.out
          have HQ6 := Lib.hid hq6
          clear hq6 HQs
          go_upto_block 2 with fail
          clear zd hq
          go_cut [8, 9] (fun s8 s9 Z => ∃ (E F : Int) (A1 : Option Addr) (n1 c1 : Nat) (D : List Dom) (B1 : Option Addr) (m1 d1 : Nat) (V : List Vc) (A2 : Option Addr) (n2 c2 : Nat) (B2 : Option Addr) (m2 d2 : Nat), s8 = .int .i64 E ∧ s9 = .int .i64 F ∧ Blk Z g6 25 #[.slice A1 n1 c1, .slice B1 m1 d1] ∧ Blk Z g7 25 #[.slice A2 n2 c2, .slice B2 m2 d2] ∧
            GR Z A2 n2 c2 ds B2 m2 d2 us ∧ ((¬ E = 0 ∧ n1 = 0 ∧ m1 = 0) ∨ (E = 0 ∧ F = 0 ∧ RightP D V ∧ GO Z (w1.heap.size + 1) A1 n1 c1 D B1 m1 d1 V)) ∧ Below Y.heap.size Y Z)
          case first =>
            have h6 := HQ6.out
            clear HQ6
            rcases (show q = 0 ∨ q = 1 ∨ q = 2 ∨ q = 3 ∨ q = 4 ∨ q = 5 by omega) with rfl | rfl | rfl | rfl | rfl | rfl
            · as_aux_lemma =>
                obtain ⟨⟨D, V, E⟩, hr⟩ : ∃ r, createQ ds us (x1, x2, x3, x4) = r := ⟨_, rfl⟩
                have HI := Lib.hid (hr ▸ create_is ds us (x1, x2, x3, x4))
                have HC := Lib.hid (fun (u : World) (h : GR u A n c ds B m d us) => hr ▸ gcreate_any A n c ds B m d us x1 x2 x3 x4 u h)
                have Hr := Lib.hid hr
                clear hr
                have kk := HKY.out _ DY
                have z0 := kk.1.cell 0
                have z1 := kk.1.cell 1
                have y1 := kk.2.1.cell 1
                have y2 := kk.2.1.cell 2
                have y3 := kk.2.1.cell 3
                have y4 := kk.2.1.cell 4
                clear kk
                go_wp2_with fail
                have lt6 := K6.lt
                have lt7 := K7.lt
                refine (HC.out _ ((HKY.out _ DY).2.2.1.gr HP.out)).mono ?_
                rintro e w3 ⟨A1, n1, c1, B1, m1, d1, rfl, hl1, hm1, oa1, ob1, h9⟩
                replace K6 := K6.below h9 K6.lt
                replace K7 := K7.below h9 K7.lt
                replace DY := DY.trans (h9.mono DY.size)
                have GO1 : GO w3 _ A1 n1 c1 D B1 m1 d1 V := ⟨oa1, ob1⟩
                clear h9 oa1 ob1 z0 z1 y1 y2 y3 y4
                have d0' := K6.cell 0
                have f0' := K6.frozen 0
                have d1' := K6.cell 1
                have f1' := K6.frozen 1
                have PP := put2 (x := (.slice A1 n1 c1)) (y := (.slice B1 m1 d1)) K6 DY l6
                replace K7 := (K7.far (p := ⟨g6, 0, none⟩) (by simp; omega) (.slice A1 n1 c1)).far (p := ⟨g6, 1, none⟩) (by simp; omega) (.slice B1 m1 d1)
                replace GO1 := (GO1.set (g := g6) (by omega) 0 (.slice A1 n1 c1)).set (g := g6) (by omega) 1 (.slice B1 m1 d1)
                replace K6 := PP.1
                replace DY := PP.2
                clear PP
                by_cases hE : E = 0
                · subst hE
                  obtain ⟨hPD, hb⟩ := back_create HP.out Hr.out
                  have HC2 := Lib.hid (fun (u : World) (h : GR u A1 n1 c1 D B1 m1 d1 V) => (show destroyQ D V x1 = (ds, us, 0) from hb) ▸ gdestroy_any A1 n1 c1 D B1 m1 d1 V x1 u h)
                  have HPD := Lib.hid hPD
                  clear hb hPD
                  have kk := HKY.out _ DY
                  have y1 := kk.2.1.cell 1
                  have tK60 := K6.cell 0
                  have tK61 := K6.cell 1
                  clear kk
                  go_wp2_with fail
                  have lt6 := K6.lt
                  have lt7 := K7.lt
                  refine (HC2.out _ (GO1.gr HPD.out)).mono ?_
                  rintro e w4 ⟨A2, n2, c2, B2, m2, d2, rfl, hl2, hm2, oa2, ob2, h9⟩
                  replace K6 := K6.below h9 K6.lt
                  replace K7 := K7.below h9 K7.lt
                  replace GO1 := GO1.below h9
                  replace DY := DY.trans (h9.mono DY.size)
                  have GO2 : GO w4 _ A2 n2 c2 ds B2 m2 d2 us := ⟨oa2, ob2⟩
                  clear h9 oa2 ob2 d0' d1' f0' f1' y1 tK60 tK61
                  have d0' := K7.cell 0
                  have f0' := K7.frozen 0
                  have d1' := K7.cell 1
                  have f1' := K7.frozen 1
                  have PP := put2 (x := (.slice A2 n2 c2)) (y := (.slice B2 m2 d2)) K7 DY l7
                  replace K6 := (K6.far (p := ⟨g7, 0, none⟩) (by simp; omega) (.slice A2 n2 c2)).far (p := ⟨g7, 1, none⟩) (by simp; omega) (.slice B2 m2 d2)
                  replace GO1 := (GO1.set (g := g7) (by omega) 0 (.slice A2 n2 c2)).set (g := g7) (by omega) 1 (.slice B2 m2 d2)
                  replace GO2 := (GO2.set (g := g7) (by omega) 0 (.slice A2 n2 c2)).set (g := g7) (by omega) 1 (.slice B2 m2 d2)
                  replace K7 := PP.1
                  replace DY := PP.2
                  clear PP
                  have GF := GO1.down (show w1.heap.size + 1 ≤ _ by have := Hlg.out; omega)
                  have GR2 := GO2.gr HP.out
                  have HF := Lib.hid (And.intro K6 (And.intro K7 (And.intro GR2 (And.intro GF DY))))
                  clear K6 K7 GR2 GF DY GO1 GO2 
                  go_wp2_with fail
                  go_meet
                  exact ⟨0, 0, A1, n1, c1, D, B1, m1, d1, V, A2, n2, c2, B2, m2, d2, rfl, rfl, HF.out.1, HF.out.2.1, HF.out.2.2.1, .inr ⟨rfl, rfl, HPD.out, HF.out.2.2.2.1⟩, HF.out.2.2.2.2⟩
                · have e0 : (E == 0) = false := by simp; exact hE
                  obtain ⟨hD, hV⟩ := isok_no HI.out hE
                  have hn0 : n1 = 0 := by rw [← hl1, hD]; rfl
                  have hm0 : m1 = 0 := by rw [← hm1, hV]; rfl
                  have HF := Lib.hid (And.intro K6 (And.intro K7 (And.intro ((HKY.out _ DY).2.2.1.gr HP.out) (And.intro (And.intro hE (And.intro hn0 hm0)) DY))))
                  clear K6 K7 DY GO1 hE hD hV hn0 hm0 hl1 hm1 
                  go_wp2_with fail
                  go_meet
                  exact ⟨E, 0, A1, n1, c1, D, B1, m1, d1, V, A, n, c, B, m, d, rfl, rfl, HF.out.1, HF.out.2.1, HF.out.2.2.1, .inl HF.out.2.2.2.1, HF.out.2.2.2.2⟩
            · as_aux_lemma =>
                obtain ⟨⟨D, V, E⟩, hr⟩ : ∃ r, changeQ ds us (x1, x2, x3, x4) = r := ⟨_, rfl⟩
                have HI := Lib.hid (hr ▸ change_is ds us (x1, x2, x3, x4))
                have HC := Lib.hid (fun (u : World) (h : GR u A n c ds B m d us) => hr ▸ gchange_any A n c ds B m d us x1 x2 x3 x4 u h)
                have Hr := Lib.hid hr
                clear hr
                obtain ⟨⟨y1, y2, y3, y4⟩, hy⟩ : ∃ y, (domQ ds us x1).1 = y := ⟨_, rfl⟩
                have HT := Lib.hid (fun (u : World) (h : GR u A n c ds B m d us) => hy ▸ dtell_any A n c ds B m d us x1 u h)
                have Hy := Lib.hid hy
                clear hy
                have kk := HKY.out _ DY
                have z0 := kk.1.cell 0
                have z1 := kk.1.cell 1
                have y1 := kk.2.1.cell 1
                clear kk
                go_wp2_with fail
                refine (HT.out _ ((HKY.out _ DY).2.2.1.gr HP.out)).mono ?_
                rintro e w2 ⟨rfl, h9⟩
                replace K6 := K6.below h9 K6.lt
                replace K7 := K7.below h9 K7.lt
                replace DY := DY.trans (h9.mono DY.size)
                clear h9 z0 z1 y1
                have KW := Blk.new w2 27 #[.int .i64 y1, .int .i64 y2, .int .i64 y3, .int .i64 y4]
                have hlK6 := K6.lt
                have hlK7 := K7.lt
                obtain ⟨gw, hgw⟩ : ∃ gw, w2.heap.size = gw := ⟨_, rfl⟩
                replace K6 := K6.alloc (.cells #[.int .i64 y1, .int .i64 y2, .int .i64 y3, .int .i64 y4] 27)
                replace K7 := K7.alloc (.cells #[.int .i64 y1, .int .i64 y2, .int .i64 y3, .int .i64 y4] 27)
                replace DY := DY.alloc DY.size (.cells #[.int .i64 y1, .int .i64 y2, .int .i64 y3, .int .i64 y4] 27)
                clear hgw gw
                have kk := HKY.out _ DY
                have z0 := kk.1.cell 0
                have z1 := kk.1.cell 1
                have y1 := kk.2.1.cell 1
                have y2 := kk.2.1.cell 2
                have y3 := kk.2.1.cell 3
                have y4 := kk.2.1.cell 4
                clear kk
                go_wp2_with fail
                have lt6 := K6.lt
                have lt7 := K7.lt
                refine (HC.out _ ((HKY.out _ DY).2.2.1.gr HP.out)).mono ?_
                rintro e w3 ⟨A1, n1, c1, B1, m1, d1, rfl, hl1, hm1, oa1, ob1, h9⟩
                replace K6 := K6.below h9 K6.lt
                replace K7 := K7.below h9 K7.lt
                replace KW := KW.below h9 KW.lt
                replace DY := DY.trans (h9.mono DY.size)
                have GO1 : GO w3 _ A1 n1 c1 D B1 m1 d1 V := ⟨oa1, ob1⟩
                clear h9 oa1 ob1 z0 z1 y1 y2 y3 y4
                have d0' := K6.cell 0
                have f0' := K6.frozen 0
                have d1' := K6.cell 1
                have f1' := K6.frozen 1
                have PP := put2 (x := (.slice A1 n1 c1)) (y := (.slice B1 m1 d1)) K6 DY l6
                replace K7 := (K7.far (p := ⟨g6, 0, none⟩) (by simp; omega) (.slice A1 n1 c1)).far (p := ⟨g6, 1, none⟩) (by simp; omega) (.slice B1 m1 d1)
                replace KW := (KW.far (p := ⟨g6, 0, none⟩) (by simp; omega) (.slice A1 n1 c1)).far (p := ⟨g6, 1, none⟩) (by simp; omega) (.slice B1 m1 d1)
                replace GO1 := (GO1.set (g := g6) (by omega) 0 (.slice A1 n1 c1)).set (g := g6) (by omega) 1 (.slice B1 m1 d1)
                replace K6 := PP.1
                replace DY := PP.2
                clear PP
                by_cases hE : E = 0
                · subst hE
                  obtain ⟨hPD, hb⟩ := back_change HP.out Hy.out Hr.out
                  have HC2 := Lib.hid (fun (u : World) (h : GR u A1 n1 c1 D B1 m1 d1 V) => hb ▸ gchange_any A1 n1 c1 D B1 m1 d1 V y1 y2 y3 y4 u h)
                  have HPD := Lib.hid hPD
                  clear hb hPD
                  have kk := HKY.out _ DY
                  have tK60 := K6.cell 0
                  have tK61 := K6.cell 1
                  have tKW0 := KW.cell 0
                  have tKW1 := KW.cell 1
                  have tKW2 := KW.cell 2
                  have tKW3 := KW.cell 3
                  clear kk
                  go_wp2_with fail
                  have lt6 := K6.lt
                  have lt7 := K7.lt
                  refine (HC2.out _ (GO1.gr HPD.out)).mono ?_
                  rintro e w4 ⟨A2, n2, c2, B2, m2, d2, rfl, hl2, hm2, oa2, ob2, h9⟩
                  replace K6 := K6.below h9 K6.lt
                  replace K7 := K7.below h9 K7.lt
                  replace KW := KW.below h9 KW.lt
                  replace GO1 := GO1.below h9
                  replace DY := DY.trans (h9.mono DY.size)
                  have GO2 : GO w4 _ A2 n2 c2 ds B2 m2 d2 us := ⟨oa2, ob2⟩
                  clear h9 oa2 ob2 d0' d1' f0' f1' tK60 tK61 tKW0 tKW1 tKW2 tKW3
                  have d0' := K7.cell 0
                  have f0' := K7.frozen 0
                  have d1' := K7.cell 1
                  have f1' := K7.frozen 1
                  have PP := put2 (x := (.slice A2 n2 c2)) (y := (.slice B2 m2 d2)) K7 DY l7
                  replace K6 := (K6.far (p := ⟨g7, 0, none⟩) (by simp; omega) (.slice A2 n2 c2)).far (p := ⟨g7, 1, none⟩) (by simp; omega) (.slice B2 m2 d2)
                  replace KW := (KW.far (p := ⟨g7, 0, none⟩) (by simp; omega) (.slice A2 n2 c2)).far (p := ⟨g7, 1, none⟩) (by simp; omega) (.slice B2 m2 d2)
                  replace GO1 := (GO1.set (g := g7) (by omega) 0 (.slice A2 n2 c2)).set (g := g7) (by omega) 1 (.slice B2 m2 d2)
                  replace GO2 := (GO2.set (g := g7) (by omega) 0 (.slice A2 n2 c2)).set (g := g7) (by omega) 1 (.slice B2 m2 d2)
                  replace K7 := PP.1
                  replace DY := PP.2
                  clear PP
                  have GF := GO1.down (show w1.heap.size + 1 ≤ _ by have := Hlg.out; omega)
                  have GR2 := GO2.gr HP.out
                  have HF := Lib.hid (And.intro K6 (And.intro K7 (And.intro GR2 (And.intro GF DY))))
                  clear K6 K7 GR2 GF DY GO1 GO2 KW
                  go_wp2_with fail
                  go_meet
                  exact ⟨0, 0, A1, n1, c1, D, B1, m1, d1, V, A2, n2, c2, B2, m2, d2, rfl, rfl, HF.out.1, HF.out.2.1, HF.out.2.2.1, .inr ⟨rfl, rfl, HPD.out, HF.out.2.2.2.1⟩, HF.out.2.2.2.2⟩
                · have e0 : (E == 0) = false := by simp; exact hE
                  obtain ⟨hD, hV⟩ := isok_no HI.out hE
                  have hn0 : n1 = 0 := by rw [← hl1, hD]; rfl
                  have hm0 : m1 = 0 := by rw [← hm1, hV]; rfl
                  have HF := Lib.hid (And.intro K6 (And.intro K7 (And.intro ((HKY.out _ DY).2.2.1.gr HP.out) (And.intro (And.intro hE (And.intro hn0 hm0)) DY))))
                  clear K6 K7 DY GO1 hE hD hV hn0 hm0 hl1 hm1 KW
                  go_wp2_with fail
                  go_meet
                  exact ⟨E, 0, A1, n1, c1, D, B1, m1, d1, V, A, n, c, B, m, d, rfl, rfl, HF.out.1, HF.out.2.1, HF.out.2.2.1, .inl HF.out.2.2.2.1, HF.out.2.2.2.2⟩
            · as_aux_lemma =>
                obtain ⟨⟨D, V, E⟩, hr⟩ : ∃ r, destroyQ ds us x1 = r := ⟨_, rfl⟩
                have HI := Lib.hid (hr ▸ destroy_is ds us x1)
                have HC := Lib.hid (fun (u : World) (h : GR u A n c ds B m d us) => hr ▸ gdestroy_any A n c ds B m d us x1 u h)
                have Hr := Lib.hid hr
                clear hr
                obtain ⟨⟨y1, y2, y3, y4⟩, hy⟩ : ∃ y, (domQ ds us x1).1 = y := ⟨_, rfl⟩
                have HT := Lib.hid (fun (u : World) (h : GR u A n c ds B m d us) => hy ▸ dtell_any A n c ds B m d us x1 u h)
                have Hy := Lib.hid hy
                clear hy
                have kk := HKY.out _ DY
                have z0 := kk.1.cell 0
                have z1 := kk.1.cell 1
                have y1 := kk.2.1.cell 1
                clear kk
                go_wp2_with fail
                refine (HT.out _ ((HKY.out _ DY).2.2.1.gr HP.out)).mono ?_
                rintro e w2 ⟨rfl, h9⟩
                replace K6 := K6.below h9 K6.lt
                replace K7 := K7.below h9 K7.lt
                replace DY := DY.trans (h9.mono DY.size)
                clear h9 z0 z1 y1
                have KW := Blk.new w2 27 #[.int .i64 y1, .int .i64 y2, .int .i64 y3, .int .i64 y4]
                have hlK6 := K6.lt
                have hlK7 := K7.lt
                obtain ⟨gw, hgw⟩ : ∃ gw, w2.heap.size = gw := ⟨_, rfl⟩
                replace K6 := K6.alloc (.cells #[.int .i64 y1, .int .i64 y2, .int .i64 y3, .int .i64 y4] 27)
                replace K7 := K7.alloc (.cells #[.int .i64 y1, .int .i64 y2, .int .i64 y3, .int .i64 y4] 27)
                replace DY := DY.alloc DY.size (.cells #[.int .i64 y1, .int .i64 y2, .int .i64 y3, .int .i64 y4] 27)
                clear hgw gw
                have kk := HKY.out _ DY
                have z0 := kk.1.cell 0
                have z1 := kk.1.cell 1
                have y1 := kk.2.1.cell 1
                clear kk
                go_wp2_with fail
                have lt6 := K6.lt
                have lt7 := K7.lt
                refine (HC.out _ ((HKY.out _ DY).2.2.1.gr HP.out)).mono ?_
                rintro e w3 ⟨A1, n1, c1, B1, m1, d1, rfl, hl1, hm1, oa1, ob1, h9⟩
                replace K6 := K6.below h9 K6.lt
                replace K7 := K7.below h9 K7.lt
                replace KW := KW.below h9 KW.lt
                replace DY := DY.trans (h9.mono DY.size)
                have GO1 : GO w3 _ A1 n1 c1 D B1 m1 d1 V := ⟨oa1, ob1⟩
                clear h9 oa1 ob1 z0 z1 y1
                have d0' := K6.cell 0
                have f0' := K6.frozen 0
                have d1' := K6.cell 1
                have f1' := K6.frozen 1
                have PP := put2 (x := (.slice A1 n1 c1)) (y := (.slice B1 m1 d1)) K6 DY l6
                replace K7 := (K7.far (p := ⟨g6, 0, none⟩) (by simp; omega) (.slice A1 n1 c1)).far (p := ⟨g6, 1, none⟩) (by simp; omega) (.slice B1 m1 d1)
                replace KW := (KW.far (p := ⟨g6, 0, none⟩) (by simp; omega) (.slice A1 n1 c1)).far (p := ⟨g6, 1, none⟩) (by simp; omega) (.slice B1 m1 d1)
                replace GO1 := (GO1.set (g := g6) (by omega) 0 (.slice A1 n1 c1)).set (g := g6) (by omega) 1 (.slice B1 m1 d1)
                replace K6 := PP.1
                replace DY := PP.2
                clear PP
                by_cases hE : E = 0
                · subst hE
                  obtain ⟨hPD, hb⟩ := back_destroy HP.out Hy.out Hr.out
                  have HC2 := Lib.hid (fun (u : World) (h : GR u A1 n1 c1 D B1 m1 d1 V) => hb ▸ gcreate_any A1 n1 c1 D B1 m1 d1 V y1 y2 y3 y4 u h)
                  have HPD := Lib.hid hPD
                  clear hb hPD
                  have kk := HKY.out _ DY
                  have tK60 := K6.cell 0
                  have tK61 := K6.cell 1
                  have tKW0 := KW.cell 0
                  have tKW1 := KW.cell 1
                  have tKW2 := KW.cell 2
                  have tKW3 := KW.cell 3
                  clear kk
                  go_wp2_with fail
                  have lt6 := K6.lt
                  have lt7 := K7.lt
                  refine (HC2.out _ (GO1.gr HPD.out)).mono ?_
                  rintro e w4 ⟨A2, n2, c2, B2, m2, d2, rfl, hl2, hm2, oa2, ob2, h9⟩
                  replace K6 := K6.below h9 K6.lt
                  replace K7 := K7.below h9 K7.lt
                  replace KW := KW.below h9 KW.lt
                  replace GO1 := GO1.below h9
                  replace DY := DY.trans (h9.mono DY.size)
                  have GO2 : GO w4 _ A2 n2 c2 ds B2 m2 d2 us := ⟨oa2, ob2⟩
                  clear h9 oa2 ob2 d0' d1' f0' f1' tK60 tK61 tKW0 tKW1 tKW2 tKW3
                  have d0' := K7.cell 0
                  have f0' := K7.frozen 0
                  have d1' := K7.cell 1
                  have f1' := K7.frozen 1
                  have PP := put2 (x := (.slice A2 n2 c2)) (y := (.slice B2 m2 d2)) K7 DY l7
                  replace K6 := (K6.far (p := ⟨g7, 0, none⟩) (by simp; omega) (.slice A2 n2 c2)).far (p := ⟨g7, 1, none⟩) (by simp; omega) (.slice B2 m2 d2)
                  replace KW := (KW.far (p := ⟨g7, 0, none⟩) (by simp; omega) (.slice A2 n2 c2)).far (p := ⟨g7, 1, none⟩) (by simp; omega) (.slice B2 m2 d2)
                  replace GO1 := (GO1.set (g := g7) (by omega) 0 (.slice A2 n2 c2)).set (g := g7) (by omega) 1 (.slice B2 m2 d2)
                  replace GO2 := (GO2.set (g := g7) (by omega) 0 (.slice A2 n2 c2)).set (g := g7) (by omega) 1 (.slice B2 m2 d2)
                  replace K7 := PP.1
                  replace DY := PP.2
                  clear PP
                  have GF := GO1.down (show w1.heap.size + 1 ≤ _ by have := Hlg.out; omega)
                  have GR2 := GO2.gr HP.out
                  have HF := Lib.hid (And.intro K6 (And.intro K7 (And.intro GR2 (And.intro GF DY))))
                  clear K6 K7 GR2 GF DY GO1 GO2 KW
                  go_wp2_with fail
                  go_meet
                  exact ⟨0, 0, A1, n1, c1, D, B1, m1, d1, V, A2, n2, c2, B2, m2, d2, rfl, rfl, HF.out.1, HF.out.2.1, HF.out.2.2.1, .inr ⟨rfl, rfl, HPD.out, HF.out.2.2.2.1⟩, HF.out.2.2.2.2⟩
                · have e0 : (E == 0) = false := by simp; exact hE
                  obtain ⟨hD, hV⟩ := isok_no HI.out hE
                  have hn0 : n1 = 0 := by rw [← hl1, hD]; rfl
                  have hm0 : m1 = 0 := by rw [← hm1, hV]; rfl
                  have HF := Lib.hid (And.intro K6 (And.intro K7 (And.intro ((HKY.out _ DY).2.2.1.gr HP.out) (And.intro (And.intro hE (And.intro hn0 hm0)) DY))))
                  clear K6 K7 DY GO1 hE hD hV hn0 hm0 hl1 hm1 KW
                  go_wp2_with fail
                  go_meet
                  exact ⟨E, 0, A1, n1, c1, D, B1, m1, d1, V, A, n, c, B, m, d, rfl, rfl, HF.out.1, HF.out.2.1, HF.out.2.2.1, .inl HF.out.2.2.2.1, HF.out.2.2.2.2⟩
            · as_aux_lemma =>
                obtain ⟨⟨D, V, id, E⟩, hr⟩ : ∃ r, addQ ds us v2 v3 v4 = r := ⟨_, rfl⟩
                have HI := Lib.hid (hr ▸ add_is ds us v2 v3 v4)
                have HC := Lib.hid (fun (u : World) (h : GR u A n c ds B m d us) => hr ▸ gadd_any A n c ds B m d us v2 v3 v4 u h HM.out.1 HM.out.2)
                have Hr := Lib.hid hr
                clear hr
                have kk := HKY.out _ DY
                have z0 := kk.1.cell 0
                have z1 := kk.1.cell 1
                have y6 := kk.2.1.cell 6
                have y7 := kk.2.1.cell 7
                have y8 := kk.2.1.cell 8
                clear kk
                go_wp2_with fail
                have lt6 := K6.lt
                have lt7 := K7.lt
                refine (HC.out _ ((HKY.out _ DY).2.2.1.gr HP.out)).mono ?_
                rintro e w3 ⟨A1, n1, c1, B1, m1, d1, rfl, hl1, hm1, oa1, ob1, h9⟩
                replace K6 := K6.below h9 K6.lt
                replace K7 := K7.below h9 K7.lt
                replace DY := DY.trans (h9.mono DY.size)
                have GO1 : GO w3 _ A1 n1 c1 D B1 m1 d1 V := ⟨oa1, ob1⟩
                clear h9 oa1 ob1 z0 z1 y6 y7 y8
                have d0' := K6.cell 0
                have f0' := K6.frozen 0
                have d1' := K6.cell 1
                have f1' := K6.frozen 1
                have PP := put2 (x := (.slice A1 n1 c1)) (y := (.slice B1 m1 d1)) K6 DY l6
                replace K7 := (K7.far (p := ⟨g6, 0, none⟩) (by simp; omega) (.slice A1 n1 c1)).far (p := ⟨g6, 1, none⟩) (by simp; omega) (.slice B1 m1 d1)
                replace GO1 := (GO1.set (g := g6) (by omega) 0 (.slice A1 n1 c1)).set (g := g6) (by omega) 1 (.slice B1 m1 d1)
                replace K6 := PP.1
                replace DY := PP.2
                clear PP
                by_cases hE : E = 0
                · subst hE
                  obtain ⟨hPD, hb⟩ := back_add HP.out Hr.out
                  have HC2 := Lib.hid (fun (u : World) (h : GR u A1 n1 c1 D B1 m1 d1 V) => hb ▸ gdrop_any A1 n1 c1 D B1 m1 d1 V id u h)
                  have HPD := Lib.hid hPD
                  clear hb hPD
                  have kk := HKY.out _ DY
                  have tK60 := K6.cell 0
                  have tK61 := K6.cell 1
                  clear kk
                  go_wp2_with fail
                  have lt6 := K6.lt
                  have lt7 := K7.lt
                  refine (HC2.out _ (GO1.gr HPD.out)).mono ?_
                  rintro e w4 ⟨A2, n2, c2, B2, m2, d2, rfl, hl2, hm2, oa2, ob2, h9⟩
                  replace K6 := K6.below h9 K6.lt
                  replace K7 := K7.below h9 K7.lt
                  replace GO1 := GO1.below h9
                  replace DY := DY.trans (h9.mono DY.size)
                  have GO2 : GO w4 _ A2 n2 c2 ds B2 m2 d2 us := ⟨oa2, ob2⟩
                  clear h9 oa2 ob2 d0' d1' f0' f1' tK60 tK61
                  have d0' := K7.cell 0
                  have f0' := K7.frozen 0
                  have d1' := K7.cell 1
                  have f1' := K7.frozen 1
                  have PP := put2 (x := (.slice A2 n2 c2)) (y := (.slice B2 m2 d2)) K7 DY l7
                  replace K6 := (K6.far (p := ⟨g7, 0, none⟩) (by simp; omega) (.slice A2 n2 c2)).far (p := ⟨g7, 1, none⟩) (by simp; omega) (.slice B2 m2 d2)
                  replace GO1 := (GO1.set (g := g7) (by omega) 0 (.slice A2 n2 c2)).set (g := g7) (by omega) 1 (.slice B2 m2 d2)
                  replace GO2 := (GO2.set (g := g7) (by omega) 0 (.slice A2 n2 c2)).set (g := g7) (by omega) 1 (.slice B2 m2 d2)
                  replace K7 := PP.1
                  replace DY := PP.2
                  clear PP
                  have GF := GO1.down (show w1.heap.size + 1 ≤ _ by have := Hlg.out; omega)
                  have GR2 := GO2.gr HP.out
                  have HF := Lib.hid (And.intro K6 (And.intro K7 (And.intro GR2 (And.intro GF DY))))
                  clear K6 K7 GR2 GF DY GO1 GO2 
                  go_wp2_with fail
                  go_meet
                  exact ⟨0, 0, A1, n1, c1, D, B1, m1, d1, V, A2, n2, c2, B2, m2, d2, rfl, rfl, HF.out.1, HF.out.2.1, HF.out.2.2.1, .inr ⟨rfl, rfl, HPD.out, HF.out.2.2.2.1⟩, HF.out.2.2.2.2⟩
                · have e0 : (E == 0) = false := by simp; exact hE
                  obtain ⟨hD, hV⟩ := isok_no HI.out hE
                  have hn0 : n1 = 0 := by rw [← hl1, hD]; rfl
                  have hm0 : m1 = 0 := by rw [← hm1, hV]; rfl
                  have HF := Lib.hid (And.intro K6 (And.intro K7 (And.intro ((HKY.out _ DY).2.2.1.gr HP.out) (And.intro (And.intro hE (And.intro hn0 hm0)) DY))))
                  clear K6 K7 DY GO1 hE hD hV hn0 hm0 hl1 hm1 
                  go_wp2_with fail
                  go_meet
                  exact ⟨E, 0, A1, n1, c1, D, B1, m1, d1, V, A, n, c, B, m, d, rfl, rfl, HF.out.1, HF.out.2.1, HF.out.2.2.1, .inl HF.out.2.2.2.1, HF.out.2.2.2.2⟩
            · as_aux_lemma =>
                obtain ⟨⟨D, V, E⟩, hr⟩ : ∃ r, dropQ ds us v1 = r := ⟨_, rfl⟩
                have HI := Lib.hid (hr ▸ drop_is ds us v1)
                have HC := Lib.hid (fun (u : World) (h : GR u A n c ds B m d us) => hr ▸ gdrop_any A n c ds B m d us v1 u h)
                have Hr := Lib.hid hr
                clear hr
                have kk := HKY.out _ DY
                have z0 := kk.1.cell 0
                have z1 := kk.1.cell 1
                have y5 := kk.2.1.cell 5
                clear kk
                go_wp2_with fail
                have lt6 := K6.lt
                have lt7 := K7.lt
                refine (HC.out _ ((HKY.out _ DY).2.2.1.gr HP.out)).mono ?_
                rintro e w3 ⟨A1, n1, c1, B1, m1, d1, rfl, hl1, hm1, oa1, ob1, h9⟩
                replace K6 := K6.below h9 K6.lt
                replace K7 := K7.below h9 K7.lt
                replace DY := DY.trans (h9.mono DY.size)
                have GO1 : GO w3 _ A1 n1 c1 D B1 m1 d1 V := ⟨oa1, ob1⟩
                clear h9 oa1 ob1 z0 z1 y5
                have d0' := K6.cell 0
                have f0' := K6.frozen 0
                have d1' := K6.cell 1
                have f1' := K6.frozen 1
                have PP := put2 (x := (.slice A1 n1 c1)) (y := (.slice B1 m1 d1)) K6 DY l6
                replace K7 := (K7.far (p := ⟨g6, 0, none⟩) (by simp; omega) (.slice A1 n1 c1)).far (p := ⟨g6, 1, none⟩) (by simp; omega) (.slice B1 m1 d1)
                replace GO1 := (GO1.set (g := g6) (by omega) 0 (.slice A1 n1 c1)).set (g := g6) (by omega) 1 (.slice B1 m1 d1)
                replace K6 := PP.1
                replace DY := PP.2
                clear PP
                by_cases hE : E = 0
                · subst hE
                  have hPD := back_drop HP.out Hr.out
                  have GF := GO1.down (show w1.heap.size + 1 ≤ _ by have := Hlg.out; omega)
                  have HF := Lib.hid (And.intro K6 (And.intro K7 (And.intro ((HKY.out _ DY).2.2.1.gr HP.out) (And.intro GF (And.intro hPD DY)))))
                  clear K6 K7 GF DY GO1 hPD
                  go_wp2_with fail
                  go_meet
                  exact ⟨0, 0, A1, n1, c1, D, B1, m1, d1, V, A, n, c, B, m, d, rfl, rfl, HF.out.1, HF.out.2.1, HF.out.2.2.1, .inr ⟨rfl, rfl, HF.out.2.2.2.2.1, HF.out.2.2.2.1⟩, HF.out.2.2.2.2.2⟩
                · have e0 : (E == 0) = false := by simp; exact hE
                  obtain ⟨hD, hV⟩ := isok_no HI.out hE
                  have hn0 : n1 = 0 := by rw [← hl1, hD]; rfl
                  have hm0 : m1 = 0 := by rw [← hm1, hV]; rfl
                  have HF := Lib.hid (And.intro K6 (And.intro K7 (And.intro ((HKY.out _ DY).2.2.1.gr HP.out) (And.intro (And.intro hE (And.intro hn0 hm0)) DY))))
                  clear K6 K7 DY GO1 hE hD hV hn0 hm0 hl1 hm1 
                  go_wp2_with fail
                  go_meet
                  exact ⟨E, 0, A1, n1, c1, D, B1, m1, d1, V, A, n, c, B, m, d, rfl, rfl, HF.out.1, HF.out.2.1, HF.out.2.2.1, .inl HF.out.2.2.2.1, HF.out.2.2.2.2⟩
            · as_aux_lemma =>
                obtain ⟨⟨D, V, E⟩, hr⟩ : ∃ r, remaskQ ds us v1 v3 v4 = r := ⟨_, rfl⟩
                have HI := Lib.hid (hr ▸ remask_is ds us v1 v3 v4)
                have HC := Lib.hid (fun (u : World) (h : GR u A n c ds B m d us) => hr ▸ gremask_any A n c ds B m d us v1 v3 v4 u h HM.out.1 HM.out.2)
                have Hr := Lib.hid hr
                clear hr
                obtain ⟨⟨y1, y2, y3, y4⟩, hy⟩ : ∃ y, (vcQ ds us v1).1 = y := ⟨_, rfl⟩
                have HT := Lib.hid (fun (u : World) (h : GR u A n c ds B m d us) => hy ▸ vtell_any A n c ds B m d us v1 u h)
                have Hy := Lib.hid hy
                clear hy
                have kk := HKY.out _ DY
                have z0 := kk.1.cell 0
                have z1 := kk.1.cell 1
                have y5 := kk.2.1.cell 5
                clear kk
                go_wp2_with fail
                refine (HT.out _ ((HKY.out _ DY).2.2.1.gr HP.out)).mono ?_
                rintro e w2 ⟨rfl, h9⟩
                replace K6 := K6.below h9 K6.lt
                replace K7 := K7.below h9 K7.lt
                replace DY := DY.trans (h9.mono DY.size)
                clear h9 z0 z1 y5
                have KW := Blk.new w2 50 #[.int .i64 y1, .int .i64 y2, .int .u32 (y3 : Int), .int .u32 (y4 : Int)]
                have hlK6 := K6.lt
                have hlK7 := K7.lt
                obtain ⟨gw, hgw⟩ : ∃ gw, w2.heap.size = gw := ⟨_, rfl⟩
                replace K6 := K6.alloc (.cells #[.int .i64 y1, .int .i64 y2, .int .u32 (y3 : Int), .int .u32 (y4 : Int)] 50)
                replace K7 := K7.alloc (.cells #[.int .i64 y1, .int .i64 y2, .int .u32 (y3 : Int), .int .u32 (y4 : Int)] 50)
                replace DY := DY.alloc DY.size (.cells #[.int .i64 y1, .int .i64 y2, .int .u32 (y3 : Int), .int .u32 (y4 : Int)] 50)
                clear hgw gw
                have kk := HKY.out _ DY
                have z0 := kk.1.cell 0
                have z1 := kk.1.cell 1
                have y5 := kk.2.1.cell 5
                have y7 := kk.2.1.cell 7
                have y8 := kk.2.1.cell 8
                clear kk
                go_wp2_with fail
                have lt6 := K6.lt
                have lt7 := K7.lt
                refine (HC.out _ ((HKY.out _ DY).2.2.1.gr HP.out)).mono ?_
                rintro e w3 ⟨A1, n1, c1, B1, m1, d1, rfl, hl1, hm1, oa1, ob1, h9⟩
                replace K6 := K6.below h9 K6.lt
                replace K7 := K7.below h9 K7.lt
                replace KW := KW.below h9 KW.lt
                replace DY := DY.trans (h9.mono DY.size)
                have GO1 : GO w3 _ A1 n1 c1 D B1 m1 d1 V := ⟨oa1, ob1⟩
                clear h9 oa1 ob1 z0 z1 y5 y7 y8
                have d0' := K6.cell 0
                have f0' := K6.frozen 0
                have d1' := K6.cell 1
                have f1' := K6.frozen 1
                have PP := put2 (x := (.slice A1 n1 c1)) (y := (.slice B1 m1 d1)) K6 DY l6
                replace K7 := (K7.far (p := ⟨g6, 0, none⟩) (by simp; omega) (.slice A1 n1 c1)).far (p := ⟨g6, 1, none⟩) (by simp; omega) (.slice B1 m1 d1)
                replace KW := (KW.far (p := ⟨g6, 0, none⟩) (by simp; omega) (.slice A1 n1 c1)).far (p := ⟨g6, 1, none⟩) (by simp; omega) (.slice B1 m1 d1)
                replace GO1 := (GO1.set (g := g6) (by omega) 0 (.slice A1 n1 c1)).set (g := g6) (by omega) 1 (.slice B1 m1 d1)
                replace K6 := PP.1
                replace DY := PP.2
                clear PP
                by_cases hE : E = 0
                · subst hE
                  obtain ⟨hPD, hb⟩ := back_remask HP.out Hy.out Hr.out
                  have HYM : Hid (y3 < 4294967296 ∧ y4 < 4294967296) := Lib.hid (vcq_small HP.out Hy.out)
                  have HC2 := Lib.hid (fun (u : World) (h : GR u A1 n1 c1 D B1 m1 d1 V) => hb ▸ gremask_any A1 n1 c1 D B1 m1 d1 V v1 y3 y4 u h HYM.out.1 HYM.out.2)
                  have HPD := Lib.hid hPD
                  clear hb hPD
                  have kk := HKY.out _ DY
                  have y5 := kk.2.1.cell 5
                  have tK60 := K6.cell 0
                  have tK61 := K6.cell 1
                  have tKW2 := KW.cell 2
                  have tKW3 := KW.cell 3
                  clear kk
                  go_wp2_with fail
                  have lt6 := K6.lt
                  have lt7 := K7.lt
                  refine (HC2.out _ (GO1.gr HPD.out)).mono ?_
                  rintro e w4 ⟨A2, n2, c2, B2, m2, d2, rfl, hl2, hm2, oa2, ob2, h9⟩
                  replace K6 := K6.below h9 K6.lt
                  replace K7 := K7.below h9 K7.lt
                  replace KW := KW.below h9 KW.lt
                  replace GO1 := GO1.below h9
                  replace DY := DY.trans (h9.mono DY.size)
                  have GO2 : GO w4 _ A2 n2 c2 ds B2 m2 d2 us := ⟨oa2, ob2⟩
                  clear h9 oa2 ob2 d0' d1' f0' f1' y5 tK60 tK61 tKW2 tKW3
                  have d0' := K7.cell 0
                  have f0' := K7.frozen 0
                  have d1' := K7.cell 1
                  have f1' := K7.frozen 1
                  have PP := put2 (x := (.slice A2 n2 c2)) (y := (.slice B2 m2 d2)) K7 DY l7
                  replace K6 := (K6.far (p := ⟨g7, 0, none⟩) (by simp; omega) (.slice A2 n2 c2)).far (p := ⟨g7, 1, none⟩) (by simp; omega) (.slice B2 m2 d2)
                  replace KW := (KW.far (p := ⟨g7, 0, none⟩) (by simp; omega) (.slice A2 n2 c2)).far (p := ⟨g7, 1, none⟩) (by simp; omega) (.slice B2 m2 d2)
                  replace GO1 := (GO1.set (g := g7) (by omega) 0 (.slice A2 n2 c2)).set (g := g7) (by omega) 1 (.slice B2 m2 d2)
                  replace GO2 := (GO2.set (g := g7) (by omega) 0 (.slice A2 n2 c2)).set (g := g7) (by omega) 1 (.slice B2 m2 d2)
                  replace K7 := PP.1
                  replace DY := PP.2
                  clear PP
                  have GF := GO1.down (show w1.heap.size + 1 ≤ _ by have := Hlg.out; omega)
                  have GR2 := GO2.gr HP.out
                  have HF := Lib.hid (And.intro K6 (And.intro K7 (And.intro GR2 (And.intro GF DY))))
                  clear K6 K7 GR2 GF DY GO1 GO2 KW
                  go_wp2_with fail
                  go_meet
                  exact ⟨0, 0, A1, n1, c1, D, B1, m1, d1, V, A2, n2, c2, B2, m2, d2, rfl, rfl, HF.out.1, HF.out.2.1, HF.out.2.2.1, .inr ⟨rfl, rfl, HPD.out, HF.out.2.2.2.1⟩, HF.out.2.2.2.2⟩
                · have e0 : (E == 0) = false := by simp; exact hE
                  obtain ⟨hD, hV⟩ := isok_no HI.out hE
                  have hn0 : n1 = 0 := by rw [← hl1, hD]; rfl
                  have hm0 : m1 = 0 := by rw [← hm1, hV]; rfl
                  have HF := Lib.hid (And.intro K6 (And.intro K7 (And.intro ((HKY.out _ DY).2.2.1.gr HP.out) (And.intro (And.intro hE (And.intro hn0 hm0)) DY))))
                  clear K6 K7 DY GO1 hE hD hV hn0 hm0 hl1 hm1 KW
                  go_wp2_with fail
                  go_meet
                  exact ⟨E, 0, A1, n1, c1, D, B1, m1, d1, V, A, n, c, B, m, d, rfl, rfl, HF.out.1, HF.out.2.1, HF.out.2.2.1, .inl HF.out.2.2.2.1, HF.out.2.2.2.2⟩
          case rest =>
            clear K6 K7 DY HQ6 HM
            obtain ⟨E, F, A1, n1, c1, D, B1, m1, d1, V, A2, n2, c2, B2, m2, d2, rfl, rfl, K6, K7, G2, HEF, DY⟩ := hcut
            rename World => Z
            rcases HEF with ⟨hE, rfl, rfl⟩ | ⟨rfl, rfl, hP2, GO1⟩
            · have e0 : (E == 0) = false := by simp; exact hE
              have p0 := K6.cell 0
              have p1 := K6.cell 1
              have KF := Lib.hid (HKY.out _ DY)
              clear hE K6 K7 G2 DY HKY l6 l7 hne
              go_wp2
              go_roundw
              case rel => exact ⟨k + 1, A, n, c, ds, B, m, d, us, HK.out.1, HK.out.2, by go_num, HP, Lib.hid KF.out.2.2.1, KF.out.1, KF.out.2.2.2⟩
              case measure => have := HK.out.1; simp [intOf] <;> omega
            · have HSm := Lib.hid (sameG_self ds us ▸ gsame_any A2 n2 c2 ds B2 m2 d2 us A n c ds B m d us _ G2 ((HKY.out _ DY).2.2.1.gr HP.out) : Calls _ _ _ _ (Said (.bool true) _))
              have HCk := Lib.hid (fun (u : World) (h : Below Z.heap.size Z u) => ((show chkG D V = 0 from if_pos (rightG_iff.2 hP2)) ▸ gcheck_any A1 n1 c1 D B1 m1 d1 V u ((GO1.gr hP2).below h) : Calls _ _ _ _ (Said (.int .i64 0) _)))
              have HP2 := Lib.hid hP2
              have HO2 := Lib.hid GO1
              have p0 := K7.cell 0
              have p1 := K7.cell 1
              have kk := HKY.out _ DY
              have z0 := kk.1.cell 0
              have z1 := kk.1.cell 1
              clear G2 hP2 GO1 kk
              go_wp2_with fail
              refine HSm.out.mono ?_
              rintro e w2 ⟨rfl, h9⟩
              replace K6 := K6.below h9 K6.lt
              have DZ := h9
              replace DY := DY.trans (h9.mono DY.size)
              have y0 := K6.cell 0
              have y1 := K6.cell 1
              clear h9 p0 p1 z0 z1 K7
              go_wp2_with fail
              refine (HCk.out _ DZ).mono ?_
              rintro e w3 ⟨rfl, h9⟩
              replace K6 := K6.below h9 K6.lt
              replace DZ := DZ.trans (h9.mono DZ.size)
              replace DY := DY.trans (h9.mono DY.size)
              clear h9 y0 y1
              have y0 := K6.cell 0
              have y1 := K6.cell 1
              have kk := HKY.out _ DY
              have z0 := kk.1.cell 0
              have z1 := kk.1.cell 1
              have f0 := kk.1.frozen 0
              have f1 := kk.1.frozen 1
              have KP := Lib.hid (put2 (x := .slice A1 n1 c1) (y := .slice B1 m1 d1) kk.1 kk.2.2.2 Hg3.out)
              have HO3 := Lib.hid (((HO2.out.below DZ).set (g := w1.heap.size) (by omega) 0 (.slice A1 n1 c1)).set (g := w1.heap.size) (by omega) 1 (.slice B1 m1 d1))
              clear kk K6 DY DZ HKY HO2 l6 l7 hne
              go_wp2
              go_roundw
              case rel => exact ⟨k + 1, A1, n1, c1, D, B1, m1, d1, V, HK.out.1, HK.out.2, by go_num, HP2, HO3, KP.out.1, KP.out.2⟩
              case measure => have := HK.out.1; simp [intOf] <;> omega
    · obtain rfl : nl = k := by omega
      have BH := Lib.hid GB
      clear KG HO HP
      go_wp2
      go_ret
      exact ⟨rfl, BH.out⟩

end Go.Proofs.Ytknimnopopnbhaa
