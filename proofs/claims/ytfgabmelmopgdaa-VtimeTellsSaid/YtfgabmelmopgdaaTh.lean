/-
  VtimeTells' walk. No statement is proved here.
-/
import Derived.Test.YtfgabmelmopgdaaTx
namespace Go.Proofs.Ytfgabmelmopgdaa
open Go.RowKit

/-- a queue that lies somewhere, as a cell -/
abbrev QD := Option Addr × Nat × Nat × List Rn
def qv (y : QD) : List Value := [.slice y.1 y.2.1 y.2.2.1]
theorem length_qv (y : QD) : (qv y).length = 1 := rfl
theorem tms_getD (l : List Rn) (k : Nat) : (l.getD k zeroR).2.2 = (tms l).getD k (0, 0, 0) := by
  unfold tms
  rw [List.getD_eq_getElem?_getD, List.getD_eq_getElem?_getD, List.getElem?_map]
  cases l[k]? <;> rfl
theorem rtop_topK (l : List Rn) : ∀ k, rtop l (k + 1) = (tms l).getD (topK (aF (tms l)) (bF (tms l)) (k + 1)) (0, 0, 0)
  | 0 => by
    have e : topK (aF (tms l)) (bF (tms l)) (0 + 1) = 0 := by
      show (if _ then 0 else topK _ _ 0) = 0
      split
      · exact Eq.refl _
      · exact Eq.refl _
    rw [e]
    show bigger (rtop l 0) 0 (l.getD 0 zeroR) = _
    unfold bigger
    rw [if_pos (Eq.refl _), tms_getD]
  | k + 1 => by
    have ih := rtop_topK l k
    show bigger (rtop l (k + 1)) (k + 1) (l.getD (k + 1) zeroR) = (tms l).getD (if _ then (k + 1) else topK _ _ (k + 1)) (0, 0, 0)
    rw [ih]
    unfold bigger
    rw [if_neg (by omega), tms_getD]
    show (if aF (tms l) (topK (aF (tms l)) (bF (tms l)) (k + 1)) * bF (tms l) (k + 1) < aF (tms l) (k + 1) * bF (tms l) (topK (aF (tms l)) (bF (tms l)) (k + 1)) then _ else _) = _
    split <;> rfl
theorem top_rtop {l : List Rn} {n : Nat} (hr : rightQ l = true) (hn : l.length = n) : topQ l = (rtop l n, decide (0 < n)) := by
  subst hn
  by_cases h0 : 0 < l.length
  · rw [decide_eq_true h0]
    unfold topQ
    rw [if_pos ⟨hr, h0⟩]
    obtain ⟨k, hk⟩ : ∃ k, l.length = k + 1 := ⟨l.length - 1, by omega⟩
    rw [hk, rtop_topK]
    unfold topT topI
    rw [len_tms, hk]
  · rw [decide_eq_false h0]
    unfold topQ
    rw [if_neg (fun q => h0 q.2), show l.length = 0 by omega]
    rfl
theorem top_wrong {l : List Rn} (hr : rightQ l = false) : topQ l = ((0, 0, 0), false) := if_neg (fun q => by rw [hr] at q; exact absurd q.1 (by decide))
theorem get_right {l : List Rn} (hr : rightQ l = true) (i : Int) : getQ l i = rgetQ l i := if_pos hr
theorem get_wrong {l : List Rn} (hr : rightQ l = false) (i : Int) : getQ l i = (zeroR, false) := if_neg (by rw [hr]; decide)

set_option maxRecDepth 100000 in
set_option maxHeartbeats 32000000 in
theorem tells_walk (A : Option Addr) (n c : Nat) (qss : List QD) (B : Option Addr) (m d : Nat) (rs : List Rn) (w : World) (hL : qss.length = n) (hQ : Reads w w.heap.size 1 A n (flat qv qss)) (hQd : ∀ y ∈ qss, Reads w w.heap.size 5 y.1 y.2.1 (flat rv y.2.2.2) ∧ y.2.1 ≤ y.2.2.1 ∧ UQ y.2.2.2)
    (hR : Reads w w.heap.size 5 B m (flat rv rs)) (hU : UQ rs) : Calls Try.prog 3 #[.slice A n c, .slice B m d] w (Said (.bool true) w) := by
  have HWk := Lib.hid (fun (u : World) => wakes_any u)
  have HL := Lib.hid hL
  have HQ := Lib.hid hQ
  have HQd := Lib.hid hQd
  have HR := Lib.hid hR
  have HU := Lib.hid hU
  have GB := Below.refl w.heap.size w
  clear hL hQ hQd hR hU
  go_enter Try.func3, Try.ntmps3
  go_wp2_with fail
  refine (HWk.out _).mono ?_
  rintro e w1 ⟨rfl, h9⟩
  replace GB := GB.trans (h9.mono GB.size)
  clear h9 HWk
  go_upto_block 0 with fail
  go_cut [] (fun X => Below w.heap.size w X)
  case first =>
    go_wp2_with fail
    go_loopw [27] (fun iv wr => ∃ k : Nat, k ≤ n ∧ k ≤ 8 ∧ iv = .int .i64 (k : Int) ∧ Below w.heap.size w wr) (fun iv _ => n - (intOf iv).toNat)
    case atStart => exact ⟨0, Nat.zero_le _, by omega, rfl, GB⟩
    case round =>
      clear GB
      obtain ⟨k, hk, hk8, rfl, hB⟩ := hrel
      by_cases hlt : k < n
      · by_cases h8 : k = 8
        · obtain ⟨⟨Ax, nx, cx, qx⟩, hx⟩ := elem_at (l := qss) (k := k) (by rw [HL.out]; exact hlt)
          obtain ⟨ad, rfl, hb1, hc⟩ := (HQ.out.below hB).elem qv length_qv hx (by omega)
          have d0 : wr.cell? (ad.add k) = some (.slice Ax nx cx) := by have := hc 0 _ rfl; simpa using this
          have e8 : ((k : Int) == 8) = true := by simp; omega
          have i1 : (0 : Int) ≤ (k : Int) := by omega
          have i2 : (k : Int) < (n : Int) := by omega
          have HE := Lib.hid (hB.alloc hB.size (.cells #[.slice Ax nx cx] 26))
          clear hx hb1 hc hB h8 hlt hk hk8
          go_wp2_with fail
          go_meet
          exact HE.out
        · have e8 : ((k : Int) == 8) = false := by simp; omega
          obtain ⟨⟨Ax, nx, cx, qx⟩, hx⟩ := elem_at (l := qss) (k := k) (by rw [HL.out]; exact hlt)
          obtain ⟨⟨A0, n0, c0, q0⟩, hx0⟩ := elem_at (l := qss) (k := 0) (by rw [HL.out]; omega)
          obtain ⟨ad0, e0, _, hc0⟩ := HQ.out.elem qv length_qv hx0 (by omega)
          have e0' := e0
          obtain ⟨ad, e1, hb1, hc⟩ := (HQ.out.below hB).elem qv length_qv hx (by omega)
          rw [e0] at e1
          obtain rfl : ad0 = ad := Option.some.inj e1
          subst e0
          have d0 : wr.cell? (ad0.add k) = some (.slice Ax nx cx) := by have := hc 0 _ rfl; simpa using this
          have HQ0 : Hid (∀ u, Below w.heap.size w u → u.cell? ad0 = some (.slice A0 n0 c0)) := Lib.hid (fun u hu => by
            obtain ⟨ad2, e2, _, hc2⟩ := (HQ.out.below hu).elem qv length_qv hx0 (by omega)
            obtain rfl : ad0 = ad2 := Option.some.inj e2
            have := hc2 0 _ rfl
            rw [show ad0.add (0 * 1 + 0) = ad0 by unfold Addr.add; simp] at this
            exact this)
          have hdx := HQd.out _ (List.mem_of_getElem? hx)
          have hd0 := HQd.out _ (List.mem_of_getElem? hx0)
          have HSh1 := Lib.hid (fun (u : World) (h : Below w.heap.size w u) => short_any Ax nx cx qx u ((hdx.1.below h).more h.size) hdx.2.1)
          have HSh2 := Lib.hid (fun (u : World) (h : Below w.heap.size w u) => short_any A0 n0 c0 q0 u ((hd0.1.below h).more h.size) hd0.2.1)
          obtain ⟨n1, hn1⟩ : ∃ j, min nx 17 = j := ⟨_, rfl⟩
          obtain ⟨q1, hq1⟩ : ∃ j, qx.take 17 = j := ⟨_, rfl⟩
          obtain ⟨n2, hn2⟩ : ∃ j, min n0 17 = j := ⟨_, rfl⟩
          obtain ⟨q2, hq2⟩ : ∃ j, q0.take 17 = j := ⟨_, rfl⟩
          have HU1 : Hid (UQ q1) := Lib.hid (by rw [← hq1]; exact take_uq hdx.2.2 17)
          have HU2 : Hid (UQ q2) := Lib.hid (by rw [← hq2]; exact take_uq hd0.2.2 17)
          have HN1 : Hid (n1 ≤ 17) := Lib.hid (by omega)
          have HN2 : Hid (n2 ≤ 17) := Lib.hid (by omega)
          rw [hn1, hq1] at HSh1
          rw [hn2, hq2] at HSh2
          have i1 : (0 : Int) ≤ (k : Int) := by omega
          have i2 : (k : Int) < (n : Int) := by omega
          have i3 : (0 : Int) < (n : Int) := by omega
          have hn0 : ¬ n = 0 := by omega
          have K6 := Blk.new wr 26 #[.slice Ax nx cx]
          have GB := hB.alloc hB.size (.cells #[.slice Ax nx cx] 26)
          have hwr := hB.size
          have Hk := Lib.hid (And.intro hlt (show k < 8 by omega))
          clear hx hx0 e0' hb1 hc hc0 hdx hd0 hn1 hq1 hn2 hq2 hB e1
          go_upto_region 7 with fail
          obtain ⟨Y, hY⟩ : ∃ Y, wr.alloc (.cells #[.slice Ax nx cx] 26) = Y := ⟨_, rfl⟩
          obtain ⟨g6, hg6⟩ : ∃ j, wr.heap.size = j := ⟨_, rfl⟩
          rw [hY] at K6 GB ⊢
          rw [hg6] at K6 hwr ⊢
          clear hY hg6 d0
          go_cut [7, 8] (fun s7 s8 Z => ∃ (g7 g8 : Nat) (A1 : Option Addr) (c1 : Nat) (A2 : Option Addr) (c2 : Nat), s7 = .pointer (some ⟨g7, 0, none⟩) ∧ s8 = .pointer (some ⟨g8, 0, none⟩) ∧ Blk Z g7 26 #[.slice A1 n1 c1] ∧ Blk Z g8 26 #[.slice A2 n2 c2] ∧ QR Z A1 n1 c1 q1 ∧ QR Z A2 n2 c2 q2 ∧ Blk Z g6 26 #[.slice Ax nx cx] ∧ Below w.heap.size w Z)
          case first =>
            replace K6 : Blk Y.drew _ _ _ := K6
            replace GB := GB.drew
            refine wp_region_held_drew (S := fun u => Below w.heap.size w u ∧ Blk u g6 26 #[.slice Ax nx cx]) (by kernel_rfl) ⟨GB, K6⟩ (fun hS => ?_)
            generalize Y.drew = V at K6 GB hS ⊢
            refine wpAnyH_take (i := 0) (v := .agg #[.slice Ax nx cx]) rfl (by kernel_rfl) (by kernel_rfl) (by kernel_rfl) (fun _ _ _ h => h) (Or.inl ⟨by kernel_rfl, fun u hSw => (by have q0 := hSw.2.cell 0; go_simp)⟩) hS ?_
            change wpAnyH _ _ _ _ _ _ _ (Act.put _ (some 34) _) _
            simp only [Act.put]
            try simp only [List.setIfInBounds_toArray, List.set_cons_zero, List.set_cons_succ]
            refine wpAnyH_take (i := 2) (v := .slice (some ad0) n c) rfl (by kernel_rfl) (by kernel_rfl) (by kernel_rfl) (fun _ _ _ h => h) (Or.inl ⟨by kernel_rfl, fun u hSw => (by go_simp)⟩) hS ?_
            change wpAnyH _ _ _ _ _ _ _ (Act.put _ (some 36) _) _
            simp only [Act.put]
            try simp only [List.setIfInBounds_toArray, List.set_cons_zero, List.set_cons_succ]
            refine wpAnyH_take (i := 3) (v := .pointer (some (ad0))) rfl (by kernel_rfl) (by kernel_rfl) (by kernel_rfl) (fun _ _ _ h => h) (Or.inl ⟨by kernel_rfl, fun u hSw => (by go_simp)⟩) hS ?_
            change wpAnyH _ _ _ _ _ _ _ (Act.put _ (some 37) _) _
            simp only [Act.put]
            try simp only [List.setIfInBounds_toArray, List.set_cons_zero, List.set_cons_succ]
            refine wpAnyH_take (i := 4) (v := .agg #[.slice A0 n0 c0]) rfl (by kernel_rfl) (by kernel_rfl) (by kernel_rfl) (fun _ _ _ h => h) (Or.inl ⟨by kernel_rfl, fun u hSw => (by have q0 := HQ0.out u hSw.1; go_simp)⟩) hS ?_
            change wpAnyH _ _ _ _ _ _ _ (Act.put _ (some 38) _) _
            simp only [Act.put]
            try simp only [List.setIfInBounds_toArray, List.set_cons_zero, List.set_cons_succ]
            refine wpAnyH_ready (rs := [1, 6, 7]) (by kernel_rfl) (by simp) ?_
            refine AllReadyH.cons rfl (fun K hK => ?_) (AllReadyH.cons rfl (fun K hK => ?_) (AllReadyH.cons rfl (fun K hK => ?_) (AllReadyH.nil)))
            · skip
              go_simp
              refine (HSh1.out _ GB).mono ?_
              rintro e1 w1 ⟨A1, c1, rfl, own1, h9⟩
              have G1 := qr_own own1 (by have := HN1.out; omega) HU1.out
              clear own1
              replace K6 := K6.below h9 K6.lt
              replace GB := GB.trans (h9.mono GB.size)
              clear h9
              refine hK.out _ _ ⟨GB, K6⟩ (fun hS => ?_)
              clear hK K
              refine wpAnyH_ready (rs := [5, 6, 7]) (by kernel_rfl) (by simp) ?_
              refine AllReadyH.cons rfl (fun K hK => ?_) (AllReadyH.cons rfl (fun K hK => ?_) (AllReadyH.cons rfl (fun K hK => ?_) (AllReadyH.nil)))
              · skip
                go_simp
                refine (HSh2.out _ GB).mono ?_
                rintro e2 w2 ⟨A2, c2, rfl, own2, h9⟩
                have G2 := qr_own own2 (by have := HN2.out; omega) HU2.out
                clear own2
                replace K6 := K6.below h9 K6.lt
                replace G1 := G1.below h9
                replace GB := GB.trans (h9.mono GB.size)
                clear h9
                refine hK.out _ _ ⟨GB, K6⟩ (fun hS => ?_)
                clear hK K
                refine wpAnyH_ready (rs := [6, 7]) (by kernel_rfl) (by simp) ?_
                refine AllReadyH.cons rfl (fun K hK => ?_) (AllReadyH.cons rfl (fun K hK => ?_) (AllReadyH.nil))
                · skip
                  go_simp
                  have K7 := Blk.new w2 26 #[.slice none 0 0]
                  have hg7 := GB.size
                  have h67 := K6.lt
                  replace K6 := K6.alloc (.cells #[.slice none 0 0] 26)
                  replace G1 := G1.below ((Below.refl _ _).alloc (Nat.le_refl _) (.cells #[.slice none 0 0] 26))
                  replace G2 := G2.below ((Below.refl _ _).alloc (Nat.le_refl _) (.cells #[.slice none 0 0] 26))
                  replace GB := GB.alloc GB.size (.cells #[.slice none 0 0] 26)
                  obtain ⟨g7, hgb7⟩ : ∃ g, w2.heap.size = g := ⟨_, rfl⟩
                  rw [hgb7] at K7 hg7 h67 ⊢
                  clear hgb7
                  generalize w2.alloc (.cells #[.slice none 0 0] 26) = Xa3 at K6 K7 G1 G2 GB ⊢
                  refine hK.out _ _ ⟨GB, K6⟩ (fun hS => ?_)
                  clear hK K
                  refine wpAnyH_ready (rs := [7]) (by kernel_rfl) (by simp) ?_
                  refine AllReadyH.cons rfl (fun K hK => ?_) AllReadyH.nil
                  go_simp
                  have K8 := Blk.new Xa3 26 #[.slice none 0 0]
                  have hg8 := GB.size
                  have h68 := K6.lt
                  have h78 := K7.lt
                  replace K6 := K6.alloc (.cells #[.slice none 0 0] 26)
                  replace G1 := G1.below ((Below.refl _ _).alloc (Nat.le_refl _) (.cells #[.slice none 0 0] 26))
                  replace G2 := G2.below ((Below.refl _ _).alloc (Nat.le_refl _) (.cells #[.slice none 0 0] 26))
                  replace K7 := K7.alloc (.cells #[.slice none 0 0] 26)
                  replace GB := GB.alloc GB.size (.cells #[.slice none 0 0] 26)
                  obtain ⟨g8, hgb8⟩ : ∃ g, Xa3.heap.size = g := ⟨_, rfl⟩
                  rw [hgb8] at K8 hg8 h68 h78 ⊢
                  clear hgb8
                  generalize Xa3.alloc (.cells #[.slice none 0 0] 26) = Xa4 at K6 K8 G1 G2 K7 GB ⊢
                  refine hK.out _ _ ⟨GB, K6⟩ (fun hS => ?_)
                  clear hK K
                  refine wpAnyH_ready (rs := [8]) (by kernel_rfl) (by simp) ?_
                  refine AllReadyH.cons rfl (fun K hK => ?_) AllReadyH.nil
                  have d0 := K7.cell 0
                  have f0 := K7.frozen 0
                  have HP7 := put1 (x := .slice A1 n1 c1) K7 GB hg7
                  have K6f := K6.far (p := ⟨g7, 0, none⟩) (by simp; omega) (.slice A1 n1 c1)
                  have G1f := qr_box G1 K7 (.slice A1 n1 c1)
                  have G2f := qr_box G2 K7 (.slice A1 n1 c1)
                  have K8f := K8.far (p := ⟨g7, 0, none⟩) (by simp; omega) (.slice A1 n1 c1)
                  replace K6 := K6f
                  replace K7 := HP7.1
                  replace GB := HP7.2
                  replace G1 := G1f
                  replace G2 := G2f
                  replace K8 := K8f
                  go_simp
                  refine hK.out _ _ ⟨GB, K6⟩ (fun hS => ?_)
                  clear hK K d0 f0
                  refine wpAnyH_ready (rs := [9]) (by kernel_rfl) (by simp) ?_
                  refine AllReadyH.cons rfl (fun K hK => ?_) AllReadyH.nil
                  have d0 := K8.cell 0
                  have f0 := K8.frozen 0
                  have HP8 := put1 (x := .slice A2 n2 c2) K8 GB hg8
                  have K6f := K6.far (p := ⟨g8, 0, none⟩) (by simp; omega) (.slice A2 n2 c2)
                  have G1f := qr_box G1 K8 (.slice A2 n2 c2)
                  have G2f := qr_box G2 K8 (.slice A2 n2 c2)
                  have K7f := K7.far (p := ⟨g8, 0, none⟩) (by simp; omega) (.slice A2 n2 c2)
                  replace K6 := K6f
                  replace K8 := HP8.1
                  replace GB := HP8.2
                  replace G1 := G1f
                  replace G2 := G2f
                  replace K7 := K7f
                  go_simp
                  refine hK.out _ _ ⟨GB, K6⟩ (fun hS => ?_)
                  clear hK K d0 f0
                  refine wpAnyH_done (by kernel_rfl) ?_ _
                  clear hS
                  go_wp2_with fail
                  go_meet
                  exact ⟨_, _, A1, c1, A2, c2, rfl, rfl, K7, K8, G1, G2, K6, GB⟩
                · skip
                  go_simp
                  have K8 := Blk.new w2 26 #[.slice none 0 0]
                  have hg8 := GB.size
                  have h68 := K6.lt
                  replace K6 := K6.alloc (.cells #[.slice none 0 0] 26)
                  replace G1 := G1.below ((Below.refl _ _).alloc (Nat.le_refl _) (.cells #[.slice none 0 0] 26))
                  replace G2 := G2.below ((Below.refl _ _).alloc (Nat.le_refl _) (.cells #[.slice none 0 0] 26))
                  replace GB := GB.alloc GB.size (.cells #[.slice none 0 0] 26)
                  obtain ⟨g8, hgb8⟩ : ∃ g, w2.heap.size = g := ⟨_, rfl⟩
                  rw [hgb8] at K8 hg8 h68 ⊢
                  clear hgb8
                  generalize w2.alloc (.cells #[.slice none 0 0] 26) = Xa7 at K6 K8 G1 G2 GB ⊢
                  refine hK.out _ _ ⟨GB, K6⟩ (fun hS => ?_)
                  clear hK K
                  refine wpAnyH_ready (rs := [6]) (by kernel_rfl) (by simp) ?_
                  refine AllReadyH.cons rfl (fun K hK => ?_) AllReadyH.nil
                  go_simp
                  have K7 := Blk.new Xa7 26 #[.slice none 0 0]
                  have hg7 := GB.size
                  have h67 := K6.lt
                  have h87 := K8.lt
                  replace K6 := K6.alloc (.cells #[.slice none 0 0] 26)
                  replace G1 := G1.below ((Below.refl _ _).alloc (Nat.le_refl _) (.cells #[.slice none 0 0] 26))
                  replace G2 := G2.below ((Below.refl _ _).alloc (Nat.le_refl _) (.cells #[.slice none 0 0] 26))
                  replace K8 := K8.alloc (.cells #[.slice none 0 0] 26)
                  replace GB := GB.alloc GB.size (.cells #[.slice none 0 0] 26)
                  obtain ⟨g7, hgb7⟩ : ∃ g, Xa7.heap.size = g := ⟨_, rfl⟩
                  rw [hgb7] at K7 hg7 h67 h87 ⊢
                  clear hgb7
                  generalize Xa7.alloc (.cells #[.slice none 0 0] 26) = Xa8 at K6 K7 G1 G2 K8 GB ⊢
                  refine hK.out _ _ ⟨GB, K6⟩ (fun hS => ?_)
                  clear hK K
                  refine wpAnyH_ready (rs := [8]) (by kernel_rfl) (by simp) ?_
                  refine AllReadyH.cons rfl (fun K hK => ?_) AllReadyH.nil
                  have d0 := K7.cell 0
                  have f0 := K7.frozen 0
                  have HP7 := put1 (x := .slice A1 n1 c1) K7 GB hg7
                  have K6f := K6.far (p := ⟨g7, 0, none⟩) (by simp; omega) (.slice A1 n1 c1)
                  have G1f := qr_box G1 K7 (.slice A1 n1 c1)
                  have G2f := qr_box G2 K7 (.slice A1 n1 c1)
                  have K8f := K8.far (p := ⟨g7, 0, none⟩) (by simp; omega) (.slice A1 n1 c1)
                  replace K6 := K6f
                  replace K7 := HP7.1
                  replace GB := HP7.2
                  replace G1 := G1f
                  replace G2 := G2f
                  replace K8 := K8f
                  go_simp
                  refine hK.out _ _ ⟨GB, K6⟩ (fun hS => ?_)
                  clear hK K d0 f0
                  refine wpAnyH_ready (rs := [9]) (by kernel_rfl) (by simp) ?_
                  refine AllReadyH.cons rfl (fun K hK => ?_) AllReadyH.nil
                  have d0 := K8.cell 0
                  have f0 := K8.frozen 0
                  have HP8 := put1 (x := .slice A2 n2 c2) K8 GB hg8
                  have K6f := K6.far (p := ⟨g8, 0, none⟩) (by simp; omega) (.slice A2 n2 c2)
                  have G1f := qr_box G1 K8 (.slice A2 n2 c2)
                  have G2f := qr_box G2 K8 (.slice A2 n2 c2)
                  have K7f := K7.far (p := ⟨g8, 0, none⟩) (by simp; omega) (.slice A2 n2 c2)
                  replace K6 := K6f
                  replace K8 := HP8.1
                  replace GB := HP8.2
                  replace G1 := G1f
                  replace G2 := G2f
                  replace K7 := K7f
                  go_simp
                  refine hK.out _ _ ⟨GB, K6⟩ (fun hS => ?_)
                  clear hK K d0 f0
                  refine wpAnyH_done (by kernel_rfl) ?_ _
                  clear hS
                  go_wp2_with fail
                  go_meet
                  exact ⟨_, _, A1, c1, A2, c2, rfl, rfl, K7, K8, G1, G2, K6, GB⟩
              · skip
                go_simp
                have K7 := Blk.new w1 26 #[.slice none 0 0]
                have hg7 := GB.size
                have h67 := K6.lt
                replace K6 := K6.alloc (.cells #[.slice none 0 0] 26)
                replace G1 := G1.below ((Below.refl _ _).alloc (Nat.le_refl _) (.cells #[.slice none 0 0] 26))
                replace GB := GB.alloc GB.size (.cells #[.slice none 0 0] 26)
                obtain ⟨g7, hgb7⟩ : ∃ g, w1.heap.size = g := ⟨_, rfl⟩
                rw [hgb7] at K7 hg7 h67 ⊢
                clear hgb7
                generalize w1.alloc (.cells #[.slice none 0 0] 26) = Xa11 at K6 K7 G1 GB ⊢
                refine hK.out _ _ ⟨GB, K6⟩ (fun hS => ?_)
                clear hK K
                refine wpAnyH_ready (rs := [5, 7]) (by kernel_rfl) (by simp) ?_
                refine AllReadyH.cons rfl (fun K hK => ?_) (AllReadyH.cons rfl (fun K hK => ?_) (AllReadyH.nil))
                · skip
                  go_simp
                  refine (HSh2.out _ GB).mono ?_
                  rintro e12 w12 ⟨A2, c2, rfl, own2, h9⟩
                  have G2 := qr_own own2 (by have := HN2.out; omega) HU2.out
                  clear own2
                  replace K6 := K6.below h9 K6.lt
                  replace G1 := G1.below h9
                  replace K7 := K7.below h9 K7.lt
                  replace GB := GB.trans (h9.mono GB.size)
                  clear h9
                  refine hK.out _ _ ⟨GB, K6⟩ (fun hS => ?_)
                  clear hK K
                  refine wpAnyH_ready (rs := [7]) (by kernel_rfl) (by simp) ?_
                  refine AllReadyH.cons rfl (fun K hK => ?_) AllReadyH.nil
                  go_simp
                  have K8 := Blk.new w12 26 #[.slice none 0 0]
                  have hg8 := GB.size
                  have h68 := K6.lt
                  have h78 := K7.lt
                  replace K6 := K6.alloc (.cells #[.slice none 0 0] 26)
                  replace G1 := G1.below ((Below.refl _ _).alloc (Nat.le_refl _) (.cells #[.slice none 0 0] 26))
                  replace K7 := K7.alloc (.cells #[.slice none 0 0] 26)
                  replace G2 := G2.below ((Below.refl _ _).alloc (Nat.le_refl _) (.cells #[.slice none 0 0] 26))
                  replace GB := GB.alloc GB.size (.cells #[.slice none 0 0] 26)
                  obtain ⟨g8, hgb8⟩ : ∃ g, w12.heap.size = g := ⟨_, rfl⟩
                  rw [hgb8] at K8 hg8 h68 h78 ⊢
                  clear hgb8
                  generalize w12.alloc (.cells #[.slice none 0 0] 26) = Xa13 at K6 K8 G1 K7 G2 GB ⊢
                  refine hK.out _ _ ⟨GB, K6⟩ (fun hS => ?_)
                  clear hK K
                  refine wpAnyH_ready (rs := [8]) (by kernel_rfl) (by simp) ?_
                  refine AllReadyH.cons rfl (fun K hK => ?_) AllReadyH.nil
                  have d0 := K7.cell 0
                  have f0 := K7.frozen 0
                  have HP7 := put1 (x := .slice A1 n1 c1) K7 GB hg7
                  have K6f := K6.far (p := ⟨g7, 0, none⟩) (by simp; omega) (.slice A1 n1 c1)
                  have G1f := qr_box G1 K7 (.slice A1 n1 c1)
                  have G2f := qr_box G2 K7 (.slice A1 n1 c1)
                  have K8f := K8.far (p := ⟨g7, 0, none⟩) (by simp; omega) (.slice A1 n1 c1)
                  replace K6 := K6f
                  replace K7 := HP7.1
                  replace GB := HP7.2
                  replace G1 := G1f
                  replace G2 := G2f
                  replace K8 := K8f
                  go_simp
                  refine hK.out _ _ ⟨GB, K6⟩ (fun hS => ?_)
                  clear hK K d0 f0
                  refine wpAnyH_ready (rs := [9]) (by kernel_rfl) (by simp) ?_
                  refine AllReadyH.cons rfl (fun K hK => ?_) AllReadyH.nil
                  have d0 := K8.cell 0
                  have f0 := K8.frozen 0
                  have HP8 := put1 (x := .slice A2 n2 c2) K8 GB hg8
                  have K6f := K6.far (p := ⟨g8, 0, none⟩) (by simp; omega) (.slice A2 n2 c2)
                  have G1f := qr_box G1 K8 (.slice A2 n2 c2)
                  have G2f := qr_box G2 K8 (.slice A2 n2 c2)
                  have K7f := K7.far (p := ⟨g8, 0, none⟩) (by simp; omega) (.slice A2 n2 c2)
                  replace K6 := K6f
                  replace K8 := HP8.1
                  replace GB := HP8.2
                  replace G1 := G1f
                  replace G2 := G2f
                  replace K7 := K7f
                  go_simp
                  refine hK.out _ _ ⟨GB, K6⟩ (fun hS => ?_)
                  clear hK K d0 f0
                  refine wpAnyH_done (by kernel_rfl) ?_ _
                  clear hS
                  go_wp2_with fail
                  go_meet
                  exact ⟨_, _, A1, c1, A2, c2, rfl, rfl, K7, K8, G1, G2, K6, GB⟩
                · skip
                  go_simp
                  have K8 := Blk.new Xa11 26 #[.slice none 0 0]
                  have hg8 := GB.size
                  have h68 := K6.lt
                  have h78 := K7.lt
                  replace K6 := K6.alloc (.cells #[.slice none 0 0] 26)
                  replace G1 := G1.below ((Below.refl _ _).alloc (Nat.le_refl _) (.cells #[.slice none 0 0] 26))
                  replace K7 := K7.alloc (.cells #[.slice none 0 0] 26)
                  replace GB := GB.alloc GB.size (.cells #[.slice none 0 0] 26)
                  obtain ⟨g8, hgb8⟩ : ∃ g, Xa11.heap.size = g := ⟨_, rfl⟩
                  rw [hgb8] at K8 hg8 h68 h78 ⊢
                  clear hgb8
                  generalize Xa11.alloc (.cells #[.slice none 0 0] 26) = Xa16 at K6 K8 G1 K7 GB ⊢
                  refine hK.out _ _ ⟨GB, K6⟩ (fun hS => ?_)
                  clear hK K
                  refine wpAnyH_ready (rs := [5]) (by kernel_rfl) (by simp) ?_
                  refine AllReadyH.cons rfl (fun K hK => ?_) AllReadyH.nil
                  go_simp
                  refine (HSh2.out _ GB).mono ?_
                  rintro e17 w17 ⟨A2, c2, rfl, own2, h9⟩
                  have G2 := qr_own own2 (by have := HN2.out; omega) HU2.out
                  clear own2
                  replace K6 := K6.below h9 K6.lt
                  replace G1 := G1.below h9
                  replace K7 := K7.below h9 K7.lt
                  replace K8 := K8.below h9 K8.lt
                  replace GB := GB.trans (h9.mono GB.size)
                  clear h9
                  refine hK.out _ _ ⟨GB, K6⟩ (fun hS => ?_)
                  clear hK K
                  refine wpAnyH_ready (rs := [8]) (by kernel_rfl) (by simp) ?_
                  refine AllReadyH.cons rfl (fun K hK => ?_) AllReadyH.nil
                  have d0 := K7.cell 0
                  have f0 := K7.frozen 0
                  have HP7 := put1 (x := .slice A1 n1 c1) K7 GB hg7
                  have K6f := K6.far (p := ⟨g7, 0, none⟩) (by simp; omega) (.slice A1 n1 c1)
                  have G1f := qr_box G1 K7 (.slice A1 n1 c1)
                  have G2f := qr_box G2 K7 (.slice A1 n1 c1)
                  have K8f := K8.far (p := ⟨g7, 0, none⟩) (by simp; omega) (.slice A1 n1 c1)
                  replace K6 := K6f
                  replace K7 := HP7.1
                  replace GB := HP7.2
                  replace G1 := G1f
                  replace G2 := G2f
                  replace K8 := K8f
                  go_simp
                  refine hK.out _ _ ⟨GB, K6⟩ (fun hS => ?_)
                  clear hK K d0 f0
                  refine wpAnyH_ready (rs := [9]) (by kernel_rfl) (by simp) ?_
                  refine AllReadyH.cons rfl (fun K hK => ?_) AllReadyH.nil
                  have d0 := K8.cell 0
                  have f0 := K8.frozen 0
                  have HP8 := put1 (x := .slice A2 n2 c2) K8 GB hg8
                  have K6f := K6.far (p := ⟨g8, 0, none⟩) (by simp; omega) (.slice A2 n2 c2)
                  have G1f := qr_box G1 K8 (.slice A2 n2 c2)
                  have G2f := qr_box G2 K8 (.slice A2 n2 c2)
                  have K7f := K7.far (p := ⟨g8, 0, none⟩) (by simp; omega) (.slice A2 n2 c2)
                  replace K6 := K6f
                  replace K8 := HP8.1
                  replace GB := HP8.2
                  replace G1 := G1f
                  replace G2 := G2f
                  replace K7 := K7f
                  go_simp
                  refine hK.out _ _ ⟨GB, K6⟩ (fun hS => ?_)
                  clear hK K d0 f0
                  refine wpAnyH_done (by kernel_rfl) ?_ _
                  clear hS
                  go_wp2_with fail
                  go_meet
                  exact ⟨_, _, A1, c1, A2, c2, rfl, rfl, K7, K8, G1, G2, K6, GB⟩
              · skip
                go_simp
                have K8 := Blk.new w1 26 #[.slice none 0 0]
                have hg8 := GB.size
                have h68 := K6.lt
                replace K6 := K6.alloc (.cells #[.slice none 0 0] 26)
                replace G1 := G1.below ((Below.refl _ _).alloc (Nat.le_refl _) (.cells #[.slice none 0 0] 26))
                replace GB := GB.alloc GB.size (.cells #[.slice none 0 0] 26)
                obtain ⟨g8, hgb8⟩ : ∃ g, w1.heap.size = g := ⟨_, rfl⟩
                rw [hgb8] at K8 hg8 h68 ⊢
                clear hgb8
                generalize w1.alloc (.cells #[.slice none 0 0] 26) = Xa20 at K6 K8 G1 GB ⊢
                refine hK.out _ _ ⟨GB, K6⟩ (fun hS => ?_)
                clear hK K
                refine wpAnyH_ready (rs := [5, 6]) (by kernel_rfl) (by simp) ?_
                refine AllReadyH.cons rfl (fun K hK => ?_) (AllReadyH.cons rfl (fun K hK => ?_) (AllReadyH.nil))
                · skip
                  go_simp
                  refine (HSh2.out _ GB).mono ?_
                  rintro e21 w21 ⟨A2, c2, rfl, own2, h9⟩
                  have G2 := qr_own own2 (by have := HN2.out; omega) HU2.out
                  clear own2
                  replace K6 := K6.below h9 K6.lt
                  replace G1 := G1.below h9
                  replace K8 := K8.below h9 K8.lt
                  replace GB := GB.trans (h9.mono GB.size)
                  clear h9
                  refine hK.out _ _ ⟨GB, K6⟩ (fun hS => ?_)
                  clear hK K
                  refine wpAnyH_ready (rs := [6]) (by kernel_rfl) (by simp) ?_
                  refine AllReadyH.cons rfl (fun K hK => ?_) AllReadyH.nil
                  go_simp
                  have K7 := Blk.new w21 26 #[.slice none 0 0]
                  have hg7 := GB.size
                  have h67 := K6.lt
                  have h87 := K8.lt
                  replace K6 := K6.alloc (.cells #[.slice none 0 0] 26)
                  replace G1 := G1.below ((Below.refl _ _).alloc (Nat.le_refl _) (.cells #[.slice none 0 0] 26))
                  replace K8 := K8.alloc (.cells #[.slice none 0 0] 26)
                  replace G2 := G2.below ((Below.refl _ _).alloc (Nat.le_refl _) (.cells #[.slice none 0 0] 26))
                  replace GB := GB.alloc GB.size (.cells #[.slice none 0 0] 26)
                  obtain ⟨g7, hgb7⟩ : ∃ g, w21.heap.size = g := ⟨_, rfl⟩
                  rw [hgb7] at K7 hg7 h67 h87 ⊢
                  clear hgb7
                  generalize w21.alloc (.cells #[.slice none 0 0] 26) = Xa22 at K6 K7 G1 K8 G2 GB ⊢
                  refine hK.out _ _ ⟨GB, K6⟩ (fun hS => ?_)
                  clear hK K
                  refine wpAnyH_ready (rs := [8]) (by kernel_rfl) (by simp) ?_
                  refine AllReadyH.cons rfl (fun K hK => ?_) AllReadyH.nil
                  have d0 := K7.cell 0
                  have f0 := K7.frozen 0
                  have HP7 := put1 (x := .slice A1 n1 c1) K7 GB hg7
                  have K6f := K6.far (p := ⟨g7, 0, none⟩) (by simp; omega) (.slice A1 n1 c1)
                  have G1f := qr_box G1 K7 (.slice A1 n1 c1)
                  have G2f := qr_box G2 K7 (.slice A1 n1 c1)
                  have K8f := K8.far (p := ⟨g7, 0, none⟩) (by simp; omega) (.slice A1 n1 c1)
                  replace K6 := K6f
                  replace K7 := HP7.1
                  replace GB := HP7.2
                  replace G1 := G1f
                  replace G2 := G2f
                  replace K8 := K8f
                  go_simp
                  refine hK.out _ _ ⟨GB, K6⟩ (fun hS => ?_)
                  clear hK K d0 f0
                  refine wpAnyH_ready (rs := [9]) (by kernel_rfl) (by simp) ?_
                  refine AllReadyH.cons rfl (fun K hK => ?_) AllReadyH.nil
                  have d0 := K8.cell 0
                  have f0 := K8.frozen 0
                  have HP8 := put1 (x := .slice A2 n2 c2) K8 GB hg8
                  have K6f := K6.far (p := ⟨g8, 0, none⟩) (by simp; omega) (.slice A2 n2 c2)
                  have G1f := qr_box G1 K8 (.slice A2 n2 c2)
                  have G2f := qr_box G2 K8 (.slice A2 n2 c2)
                  have K7f := K7.far (p := ⟨g8, 0, none⟩) (by simp; omega) (.slice A2 n2 c2)
                  replace K6 := K6f
                  replace K8 := HP8.1
                  replace GB := HP8.2
                  replace G1 := G1f
                  replace G2 := G2f
                  replace K7 := K7f
                  go_simp
                  refine hK.out _ _ ⟨GB, K6⟩ (fun hS => ?_)
                  clear hK K d0 f0
                  refine wpAnyH_done (by kernel_rfl) ?_ _
                  clear hS
                  go_wp2_with fail
                  go_meet
                  exact ⟨_, _, A1, c1, A2, c2, rfl, rfl, K7, K8, G1, G2, K6, GB⟩
                · skip
                  go_simp
                  have K7 := Blk.new Xa20 26 #[.slice none 0 0]
                  have hg7 := GB.size
                  have h67 := K6.lt
                  have h87 := K8.lt
                  replace K6 := K6.alloc (.cells #[.slice none 0 0] 26)
                  replace G1 := G1.below ((Below.refl _ _).alloc (Nat.le_refl _) (.cells #[.slice none 0 0] 26))
                  replace K8 := K8.alloc (.cells #[.slice none 0 0] 26)
                  replace GB := GB.alloc GB.size (.cells #[.slice none 0 0] 26)
                  obtain ⟨g7, hgb7⟩ : ∃ g, Xa20.heap.size = g := ⟨_, rfl⟩
                  rw [hgb7] at K7 hg7 h67 h87 ⊢
                  clear hgb7
                  generalize Xa20.alloc (.cells #[.slice none 0 0] 26) = Xa25 at K6 K7 G1 K8 GB ⊢
                  refine hK.out _ _ ⟨GB, K6⟩ (fun hS => ?_)
                  clear hK K
                  refine wpAnyH_ready (rs := [5]) (by kernel_rfl) (by simp) ?_
                  refine AllReadyH.cons rfl (fun K hK => ?_) AllReadyH.nil
                  go_simp
                  refine (HSh2.out _ GB).mono ?_
                  rintro e26 w26 ⟨A2, c2, rfl, own2, h9⟩
                  have G2 := qr_own own2 (by have := HN2.out; omega) HU2.out
                  clear own2
                  replace K6 := K6.below h9 K6.lt
                  replace G1 := G1.below h9
                  replace K8 := K8.below h9 K8.lt
                  replace K7 := K7.below h9 K7.lt
                  replace GB := GB.trans (h9.mono GB.size)
                  clear h9
                  refine hK.out _ _ ⟨GB, K6⟩ (fun hS => ?_)
                  clear hK K
                  refine wpAnyH_ready (rs := [8]) (by kernel_rfl) (by simp) ?_
                  refine AllReadyH.cons rfl (fun K hK => ?_) AllReadyH.nil
                  have d0 := K7.cell 0
                  have f0 := K7.frozen 0
                  have HP7 := put1 (x := .slice A1 n1 c1) K7 GB hg7
                  have K6f := K6.far (p := ⟨g7, 0, none⟩) (by simp; omega) (.slice A1 n1 c1)
                  have G1f := qr_box G1 K7 (.slice A1 n1 c1)
                  have G2f := qr_box G2 K7 (.slice A1 n1 c1)
                  have K8f := K8.far (p := ⟨g7, 0, none⟩) (by simp; omega) (.slice A1 n1 c1)
                  replace K6 := K6f
                  replace K7 := HP7.1
                  replace GB := HP7.2
                  replace G1 := G1f
                  replace G2 := G2f
                  replace K8 := K8f
                  go_simp
                  refine hK.out _ _ ⟨GB, K6⟩ (fun hS => ?_)
                  clear hK K d0 f0
                  refine wpAnyH_ready (rs := [9]) (by kernel_rfl) (by simp) ?_
                  refine AllReadyH.cons rfl (fun K hK => ?_) AllReadyH.nil
                  have d0 := K8.cell 0
                  have f0 := K8.frozen 0
                  have HP8 := put1 (x := .slice A2 n2 c2) K8 GB hg8
                  have K6f := K6.far (p := ⟨g8, 0, none⟩) (by simp; omega) (.slice A2 n2 c2)
                  have G1f := qr_box G1 K8 (.slice A2 n2 c2)
                  have G2f := qr_box G2 K8 (.slice A2 n2 c2)
                  have K7f := K7.far (p := ⟨g8, 0, none⟩) (by simp; omega) (.slice A2 n2 c2)
                  replace K6 := K6f
                  replace K8 := HP8.1
                  replace GB := HP8.2
                  replace G1 := G1f
                  replace G2 := G2f
                  replace K7 := K7f
                  go_simp
                  refine hK.out _ _ ⟨GB, K6⟩ (fun hS => ?_)
                  clear hK K d0 f0
                  refine wpAnyH_done (by kernel_rfl) ?_ _
                  clear hS
                  go_wp2_with fail
                  go_meet
                  exact ⟨_, _, A1, c1, A2, c2, rfl, rfl, K7, K8, G1, G2, K6, GB⟩
            · skip
              go_simp
              have K7 := Blk.new V 26 #[.slice none 0 0]
              have hg7 := GB.size
              have h67 := K6.lt
              replace K6 := K6.alloc (.cells #[.slice none 0 0] 26)
              replace GB := GB.alloc GB.size (.cells #[.slice none 0 0] 26)
              obtain ⟨g7, hgb7⟩ : ∃ g, V.heap.size = g := ⟨_, rfl⟩
              rw [hgb7] at K7 hg7 h67 ⊢
              clear hgb7
              generalize V.alloc (.cells #[.slice none 0 0] 26) = Xa29 at K6 K7  GB ⊢
              refine hK.out _ _ ⟨GB, K6⟩ (fun hS => ?_)
              clear hK K
              refine wpAnyH_ready (rs := [1, 7]) (by kernel_rfl) (by simp) ?_
              refine AllReadyH.cons rfl (fun K hK => ?_) (AllReadyH.cons rfl (fun K hK => ?_) (AllReadyH.nil))
              · skip
                go_simp
                refine (HSh1.out _ GB).mono ?_
                rintro e30 w30 ⟨A1, c1, rfl, own1, h9⟩
                have G1 := qr_own own1 (by have := HN1.out; omega) HU1.out
                clear own1
                replace K6 := K6.below h9 K6.lt
                replace K7 := K7.below h9 K7.lt
                replace GB := GB.trans (h9.mono GB.size)
                clear h9
                refine hK.out _ _ ⟨GB, K6⟩ (fun hS => ?_)
                clear hK K
                refine wpAnyH_ready (rs := [5, 7]) (by kernel_rfl) (by simp) ?_
                refine AllReadyH.cons rfl (fun K hK => ?_) (AllReadyH.cons rfl (fun K hK => ?_) (AllReadyH.nil))
                · skip
                  go_simp
                  refine (HSh2.out _ GB).mono ?_
                  rintro e31 w31 ⟨A2, c2, rfl, own2, h9⟩
                  have G2 := qr_own own2 (by have := HN2.out; omega) HU2.out
                  clear own2
                  replace K6 := K6.below h9 K6.lt
                  replace K7 := K7.below h9 K7.lt
                  replace G1 := G1.below h9
                  replace GB := GB.trans (h9.mono GB.size)
                  clear h9
                  refine hK.out _ _ ⟨GB, K6⟩ (fun hS => ?_)
                  clear hK K
                  refine wpAnyH_ready (rs := [7]) (by kernel_rfl) (by simp) ?_
                  refine AllReadyH.cons rfl (fun K hK => ?_) AllReadyH.nil
                  go_simp
                  have K8 := Blk.new w31 26 #[.slice none 0 0]
                  have hg8 := GB.size
                  have h68 := K6.lt
                  have h78 := K7.lt
                  replace K6 := K6.alloc (.cells #[.slice none 0 0] 26)
                  replace K7 := K7.alloc (.cells #[.slice none 0 0] 26)
                  replace G1 := G1.below ((Below.refl _ _).alloc (Nat.le_refl _) (.cells #[.slice none 0 0] 26))
                  replace G2 := G2.below ((Below.refl _ _).alloc (Nat.le_refl _) (.cells #[.slice none 0 0] 26))
                  replace GB := GB.alloc GB.size (.cells #[.slice none 0 0] 26)
                  obtain ⟨g8, hgb8⟩ : ∃ g, w31.heap.size = g := ⟨_, rfl⟩
                  rw [hgb8] at K8 hg8 h68 h78 ⊢
                  clear hgb8
                  generalize w31.alloc (.cells #[.slice none 0 0] 26) = Xa32 at K6 K8 K7 G1 G2 GB ⊢
                  refine hK.out _ _ ⟨GB, K6⟩ (fun hS => ?_)
                  clear hK K
                  refine wpAnyH_ready (rs := [8]) (by kernel_rfl) (by simp) ?_
                  refine AllReadyH.cons rfl (fun K hK => ?_) AllReadyH.nil
                  have d0 := K7.cell 0
                  have f0 := K7.frozen 0
                  have HP7 := put1 (x := .slice A1 n1 c1) K7 GB hg7
                  have K6f := K6.far (p := ⟨g7, 0, none⟩) (by simp; omega) (.slice A1 n1 c1)
                  have G1f := qr_box G1 K7 (.slice A1 n1 c1)
                  have G2f := qr_box G2 K7 (.slice A1 n1 c1)
                  have K8f := K8.far (p := ⟨g7, 0, none⟩) (by simp; omega) (.slice A1 n1 c1)
                  replace K6 := K6f
                  replace K7 := HP7.1
                  replace GB := HP7.2
                  replace G1 := G1f
                  replace G2 := G2f
                  replace K8 := K8f
                  go_simp
                  refine hK.out _ _ ⟨GB, K6⟩ (fun hS => ?_)
                  clear hK K d0 f0
                  refine wpAnyH_ready (rs := [9]) (by kernel_rfl) (by simp) ?_
                  refine AllReadyH.cons rfl (fun K hK => ?_) AllReadyH.nil
                  have d0 := K8.cell 0
                  have f0 := K8.frozen 0
                  have HP8 := put1 (x := .slice A2 n2 c2) K8 GB hg8
                  have K6f := K6.far (p := ⟨g8, 0, none⟩) (by simp; omega) (.slice A2 n2 c2)
                  have G1f := qr_box G1 K8 (.slice A2 n2 c2)
                  have G2f := qr_box G2 K8 (.slice A2 n2 c2)
                  have K7f := K7.far (p := ⟨g8, 0, none⟩) (by simp; omega) (.slice A2 n2 c2)
                  replace K6 := K6f
                  replace K8 := HP8.1
                  replace GB := HP8.2
                  replace G1 := G1f
                  replace G2 := G2f
                  replace K7 := K7f
                  go_simp
                  refine hK.out _ _ ⟨GB, K6⟩ (fun hS => ?_)
                  clear hK K d0 f0
                  refine wpAnyH_done (by kernel_rfl) ?_ _
                  clear hS
                  go_wp2_with fail
                  go_meet
                  exact ⟨_, _, A1, c1, A2, c2, rfl, rfl, K7, K8, G1, G2, K6, GB⟩
                · skip
                  go_simp
                  have K8 := Blk.new w30 26 #[.slice none 0 0]
                  have hg8 := GB.size
                  have h68 := K6.lt
                  have h78 := K7.lt
                  replace K6 := K6.alloc (.cells #[.slice none 0 0] 26)
                  replace K7 := K7.alloc (.cells #[.slice none 0 0] 26)
                  replace G1 := G1.below ((Below.refl _ _).alloc (Nat.le_refl _) (.cells #[.slice none 0 0] 26))
                  replace GB := GB.alloc GB.size (.cells #[.slice none 0 0] 26)
                  obtain ⟨g8, hgb8⟩ : ∃ g, w30.heap.size = g := ⟨_, rfl⟩
                  rw [hgb8] at K8 hg8 h68 h78 ⊢
                  clear hgb8
                  generalize w30.alloc (.cells #[.slice none 0 0] 26) = Xa35 at K6 K8 K7 G1 GB ⊢
                  refine hK.out _ _ ⟨GB, K6⟩ (fun hS => ?_)
                  clear hK K
                  refine wpAnyH_ready (rs := [5]) (by kernel_rfl) (by simp) ?_
                  refine AllReadyH.cons rfl (fun K hK => ?_) AllReadyH.nil
                  go_simp
                  refine (HSh2.out _ GB).mono ?_
                  rintro e36 w36 ⟨A2, c2, rfl, own2, h9⟩
                  have G2 := qr_own own2 (by have := HN2.out; omega) HU2.out
                  clear own2
                  replace K6 := K6.below h9 K6.lt
                  replace K7 := K7.below h9 K7.lt
                  replace G1 := G1.below h9
                  replace K8 := K8.below h9 K8.lt
                  replace GB := GB.trans (h9.mono GB.size)
                  clear h9
                  refine hK.out _ _ ⟨GB, K6⟩ (fun hS => ?_)
                  clear hK K
                  refine wpAnyH_ready (rs := [8]) (by kernel_rfl) (by simp) ?_
                  refine AllReadyH.cons rfl (fun K hK => ?_) AllReadyH.nil
                  have d0 := K7.cell 0
                  have f0 := K7.frozen 0
                  have HP7 := put1 (x := .slice A1 n1 c1) K7 GB hg7
                  have K6f := K6.far (p := ⟨g7, 0, none⟩) (by simp; omega) (.slice A1 n1 c1)
                  have G1f := qr_box G1 K7 (.slice A1 n1 c1)
                  have G2f := qr_box G2 K7 (.slice A1 n1 c1)
                  have K8f := K8.far (p := ⟨g7, 0, none⟩) (by simp; omega) (.slice A1 n1 c1)
                  replace K6 := K6f
                  replace K7 := HP7.1
                  replace GB := HP7.2
                  replace G1 := G1f
                  replace G2 := G2f
                  replace K8 := K8f
                  go_simp
                  refine hK.out _ _ ⟨GB, K6⟩ (fun hS => ?_)
                  clear hK K d0 f0
                  refine wpAnyH_ready (rs := [9]) (by kernel_rfl) (by simp) ?_
                  refine AllReadyH.cons rfl (fun K hK => ?_) AllReadyH.nil
                  have d0 := K8.cell 0
                  have f0 := K8.frozen 0
                  have HP8 := put1 (x := .slice A2 n2 c2) K8 GB hg8
                  have K6f := K6.far (p := ⟨g8, 0, none⟩) (by simp; omega) (.slice A2 n2 c2)
                  have G1f := qr_box G1 K8 (.slice A2 n2 c2)
                  have G2f := qr_box G2 K8 (.slice A2 n2 c2)
                  have K7f := K7.far (p := ⟨g8, 0, none⟩) (by simp; omega) (.slice A2 n2 c2)
                  replace K6 := K6f
                  replace K8 := HP8.1
                  replace GB := HP8.2
                  replace G1 := G1f
                  replace G2 := G2f
                  replace K7 := K7f
                  go_simp
                  refine hK.out _ _ ⟨GB, K6⟩ (fun hS => ?_)
                  clear hK K d0 f0
                  refine wpAnyH_done (by kernel_rfl) ?_ _
                  clear hS
                  go_wp2_with fail
                  go_meet
                  exact ⟨_, _, A1, c1, A2, c2, rfl, rfl, K7, K8, G1, G2, K6, GB⟩
              · skip
                go_simp
                have K8 := Blk.new Xa29 26 #[.slice none 0 0]
                have hg8 := GB.size
                have h68 := K6.lt
                have h78 := K7.lt
                replace K6 := K6.alloc (.cells #[.slice none 0 0] 26)
                replace K7 := K7.alloc (.cells #[.slice none 0 0] 26)
                replace GB := GB.alloc GB.size (.cells #[.slice none 0 0] 26)
                obtain ⟨g8, hgb8⟩ : ∃ g, Xa29.heap.size = g := ⟨_, rfl⟩
                rw [hgb8] at K8 hg8 h68 h78 ⊢
                clear hgb8
                generalize Xa29.alloc (.cells #[.slice none 0 0] 26) = Xa39 at K6 K8 K7 GB ⊢
                refine hK.out _ _ ⟨GB, K6⟩ (fun hS => ?_)
                clear hK K
                refine wpAnyH_ready (rs := [1]) (by kernel_rfl) (by simp) ?_
                refine AllReadyH.cons rfl (fun K hK => ?_) AllReadyH.nil
                go_simp
                refine (HSh1.out _ GB).mono ?_
                rintro e40 w40 ⟨A1, c1, rfl, own1, h9⟩
                have G1 := qr_own own1 (by have := HN1.out; omega) HU1.out
                clear own1
                replace K6 := K6.below h9 K6.lt
                replace K7 := K7.below h9 K7.lt
                replace K8 := K8.below h9 K8.lt
                replace GB := GB.trans (h9.mono GB.size)
                clear h9
                refine hK.out _ _ ⟨GB, K6⟩ (fun hS => ?_)
                clear hK K
                refine wpAnyH_ready (rs := [5]) (by kernel_rfl) (by simp) ?_
                refine AllReadyH.cons rfl (fun K hK => ?_) AllReadyH.nil
                go_simp
                refine (HSh2.out _ GB).mono ?_
                rintro e41 w41 ⟨A2, c2, rfl, own2, h9⟩
                have G2 := qr_own own2 (by have := HN2.out; omega) HU2.out
                clear own2
                replace K6 := K6.below h9 K6.lt
                replace K7 := K7.below h9 K7.lt
                replace K8 := K8.below h9 K8.lt
                replace G1 := G1.below h9
                replace GB := GB.trans (h9.mono GB.size)
                clear h9
                refine hK.out _ _ ⟨GB, K6⟩ (fun hS => ?_)
                clear hK K
                refine wpAnyH_ready (rs := [8]) (by kernel_rfl) (by simp) ?_
                refine AllReadyH.cons rfl (fun K hK => ?_) AllReadyH.nil
                have d0 := K7.cell 0
                have f0 := K7.frozen 0
                have HP7 := put1 (x := .slice A1 n1 c1) K7 GB hg7
                have K6f := K6.far (p := ⟨g7, 0, none⟩) (by simp; omega) (.slice A1 n1 c1)
                have G1f := qr_box G1 K7 (.slice A1 n1 c1)
                have G2f := qr_box G2 K7 (.slice A1 n1 c1)
                have K8f := K8.far (p := ⟨g7, 0, none⟩) (by simp; omega) (.slice A1 n1 c1)
                replace K6 := K6f
                replace K7 := HP7.1
                replace GB := HP7.2
                replace G1 := G1f
                replace G2 := G2f
                replace K8 := K8f
                go_simp
                refine hK.out _ _ ⟨GB, K6⟩ (fun hS => ?_)
                clear hK K d0 f0
                refine wpAnyH_ready (rs := [9]) (by kernel_rfl) (by simp) ?_
                refine AllReadyH.cons rfl (fun K hK => ?_) AllReadyH.nil
                have d0 := K8.cell 0
                have f0 := K8.frozen 0
                have HP8 := put1 (x := .slice A2 n2 c2) K8 GB hg8
                have K6f := K6.far (p := ⟨g8, 0, none⟩) (by simp; omega) (.slice A2 n2 c2)
                have G1f := qr_box G1 K8 (.slice A2 n2 c2)
                have G2f := qr_box G2 K8 (.slice A2 n2 c2)
                have K7f := K7.far (p := ⟨g8, 0, none⟩) (by simp; omega) (.slice A2 n2 c2)
                replace K6 := K6f
                replace K8 := HP8.1
                replace GB := HP8.2
                replace G1 := G1f
                replace G2 := G2f
                replace K7 := K7f
                go_simp
                refine hK.out _ _ ⟨GB, K6⟩ (fun hS => ?_)
                clear hK K d0 f0
                refine wpAnyH_done (by kernel_rfl) ?_ _
                clear hS
                go_wp2_with fail
                go_meet
                exact ⟨_, _, A1, c1, A2, c2, rfl, rfl, K7, K8, G1, G2, K6, GB⟩
            · skip
              go_simp
              have K8 := Blk.new V 26 #[.slice none 0 0]
              have hg8 := GB.size
              have h68 := K6.lt
              replace K6 := K6.alloc (.cells #[.slice none 0 0] 26)
              replace GB := GB.alloc GB.size (.cells #[.slice none 0 0] 26)
              obtain ⟨g8, hgb8⟩ : ∃ g, V.heap.size = g := ⟨_, rfl⟩
              rw [hgb8] at K8 hg8 h68 ⊢
              clear hgb8
              generalize V.alloc (.cells #[.slice none 0 0] 26) = Xa44 at K6 K8  GB ⊢
              refine hK.out _ _ ⟨GB, K6⟩ (fun hS => ?_)
              clear hK K
              refine wpAnyH_ready (rs := [1, 6]) (by kernel_rfl) (by simp) ?_
              refine AllReadyH.cons rfl (fun K hK => ?_) (AllReadyH.cons rfl (fun K hK => ?_) (AllReadyH.nil))
              · skip
                go_simp
                refine (HSh1.out _ GB).mono ?_
                rintro e45 w45 ⟨A1, c1, rfl, own1, h9⟩
                have G1 := qr_own own1 (by have := HN1.out; omega) HU1.out
                clear own1
                replace K6 := K6.below h9 K6.lt
                replace K8 := K8.below h9 K8.lt
                replace GB := GB.trans (h9.mono GB.size)
                clear h9
                refine hK.out _ _ ⟨GB, K6⟩ (fun hS => ?_)
                clear hK K
                refine wpAnyH_ready (rs := [5, 6]) (by kernel_rfl) (by simp) ?_
                refine AllReadyH.cons rfl (fun K hK => ?_) (AllReadyH.cons rfl (fun K hK => ?_) (AllReadyH.nil))
                · skip
                  go_simp
                  refine (HSh2.out _ GB).mono ?_
                  rintro e46 w46 ⟨A2, c2, rfl, own2, h9⟩
                  have G2 := qr_own own2 (by have := HN2.out; omega) HU2.out
                  clear own2
                  replace K6 := K6.below h9 K6.lt
                  replace K8 := K8.below h9 K8.lt
                  replace G1 := G1.below h9
                  replace GB := GB.trans (h9.mono GB.size)
                  clear h9
                  refine hK.out _ _ ⟨GB, K6⟩ (fun hS => ?_)
                  clear hK K
                  refine wpAnyH_ready (rs := [6]) (by kernel_rfl) (by simp) ?_
                  refine AllReadyH.cons rfl (fun K hK => ?_) AllReadyH.nil
                  go_simp
                  have K7 := Blk.new w46 26 #[.slice none 0 0]
                  have hg7 := GB.size
                  have h67 := K6.lt
                  have h87 := K8.lt
                  replace K6 := K6.alloc (.cells #[.slice none 0 0] 26)
                  replace K8 := K8.alloc (.cells #[.slice none 0 0] 26)
                  replace G1 := G1.below ((Below.refl _ _).alloc (Nat.le_refl _) (.cells #[.slice none 0 0] 26))
                  replace G2 := G2.below ((Below.refl _ _).alloc (Nat.le_refl _) (.cells #[.slice none 0 0] 26))
                  replace GB := GB.alloc GB.size (.cells #[.slice none 0 0] 26)
                  obtain ⟨g7, hgb7⟩ : ∃ g, w46.heap.size = g := ⟨_, rfl⟩
                  rw [hgb7] at K7 hg7 h67 h87 ⊢
                  clear hgb7
                  generalize w46.alloc (.cells #[.slice none 0 0] 26) = Xa47 at K6 K7 K8 G1 G2 GB ⊢
                  refine hK.out _ _ ⟨GB, K6⟩ (fun hS => ?_)
                  clear hK K
                  refine wpAnyH_ready (rs := [8]) (by kernel_rfl) (by simp) ?_
                  refine AllReadyH.cons rfl (fun K hK => ?_) AllReadyH.nil
                  have d0 := K7.cell 0
                  have f0 := K7.frozen 0
                  have HP7 := put1 (x := .slice A1 n1 c1) K7 GB hg7
                  have K6f := K6.far (p := ⟨g7, 0, none⟩) (by simp; omega) (.slice A1 n1 c1)
                  have G1f := qr_box G1 K7 (.slice A1 n1 c1)
                  have G2f := qr_box G2 K7 (.slice A1 n1 c1)
                  have K8f := K8.far (p := ⟨g7, 0, none⟩) (by simp; omega) (.slice A1 n1 c1)
                  replace K6 := K6f
                  replace K7 := HP7.1
                  replace GB := HP7.2
                  replace G1 := G1f
                  replace G2 := G2f
                  replace K8 := K8f
                  go_simp
                  refine hK.out _ _ ⟨GB, K6⟩ (fun hS => ?_)
                  clear hK K d0 f0
                  refine wpAnyH_ready (rs := [9]) (by kernel_rfl) (by simp) ?_
                  refine AllReadyH.cons rfl (fun K hK => ?_) AllReadyH.nil
                  have d0 := K8.cell 0
                  have f0 := K8.frozen 0
                  have HP8 := put1 (x := .slice A2 n2 c2) K8 GB hg8
                  have K6f := K6.far (p := ⟨g8, 0, none⟩) (by simp; omega) (.slice A2 n2 c2)
                  have G1f := qr_box G1 K8 (.slice A2 n2 c2)
                  have G2f := qr_box G2 K8 (.slice A2 n2 c2)
                  have K7f := K7.far (p := ⟨g8, 0, none⟩) (by simp; omega) (.slice A2 n2 c2)
                  replace K6 := K6f
                  replace K8 := HP8.1
                  replace GB := HP8.2
                  replace G1 := G1f
                  replace G2 := G2f
                  replace K7 := K7f
                  go_simp
                  refine hK.out _ _ ⟨GB, K6⟩ (fun hS => ?_)
                  clear hK K d0 f0
                  refine wpAnyH_done (by kernel_rfl) ?_ _
                  clear hS
                  go_wp2_with fail
                  go_meet
                  exact ⟨_, _, A1, c1, A2, c2, rfl, rfl, K7, K8, G1, G2, K6, GB⟩
                · skip
                  go_simp
                  have K7 := Blk.new w45 26 #[.slice none 0 0]
                  have hg7 := GB.size
                  have h67 := K6.lt
                  have h87 := K8.lt
                  replace K6 := K6.alloc (.cells #[.slice none 0 0] 26)
                  replace K8 := K8.alloc (.cells #[.slice none 0 0] 26)
                  replace G1 := G1.below ((Below.refl _ _).alloc (Nat.le_refl _) (.cells #[.slice none 0 0] 26))
                  replace GB := GB.alloc GB.size (.cells #[.slice none 0 0] 26)
                  obtain ⟨g7, hgb7⟩ : ∃ g, w45.heap.size = g := ⟨_, rfl⟩
                  rw [hgb7] at K7 hg7 h67 h87 ⊢
                  clear hgb7
                  generalize w45.alloc (.cells #[.slice none 0 0] 26) = Xa50 at K6 K7 K8 G1 GB ⊢
                  refine hK.out _ _ ⟨GB, K6⟩ (fun hS => ?_)
                  clear hK K
                  refine wpAnyH_ready (rs := [5]) (by kernel_rfl) (by simp) ?_
                  refine AllReadyH.cons rfl (fun K hK => ?_) AllReadyH.nil
                  go_simp
                  refine (HSh2.out _ GB).mono ?_
                  rintro e51 w51 ⟨A2, c2, rfl, own2, h9⟩
                  have G2 := qr_own own2 (by have := HN2.out; omega) HU2.out
                  clear own2
                  replace K6 := K6.below h9 K6.lt
                  replace K8 := K8.below h9 K8.lt
                  replace G1 := G1.below h9
                  replace K7 := K7.below h9 K7.lt
                  replace GB := GB.trans (h9.mono GB.size)
                  clear h9
                  refine hK.out _ _ ⟨GB, K6⟩ (fun hS => ?_)
                  clear hK K
                  refine wpAnyH_ready (rs := [8]) (by kernel_rfl) (by simp) ?_
                  refine AllReadyH.cons rfl (fun K hK => ?_) AllReadyH.nil
                  have d0 := K7.cell 0
                  have f0 := K7.frozen 0
                  have HP7 := put1 (x := .slice A1 n1 c1) K7 GB hg7
                  have K6f := K6.far (p := ⟨g7, 0, none⟩) (by simp; omega) (.slice A1 n1 c1)
                  have G1f := qr_box G1 K7 (.slice A1 n1 c1)
                  have G2f := qr_box G2 K7 (.slice A1 n1 c1)
                  have K8f := K8.far (p := ⟨g7, 0, none⟩) (by simp; omega) (.slice A1 n1 c1)
                  replace K6 := K6f
                  replace K7 := HP7.1
                  replace GB := HP7.2
                  replace G1 := G1f
                  replace G2 := G2f
                  replace K8 := K8f
                  go_simp
                  refine hK.out _ _ ⟨GB, K6⟩ (fun hS => ?_)
                  clear hK K d0 f0
                  refine wpAnyH_ready (rs := [9]) (by kernel_rfl) (by simp) ?_
                  refine AllReadyH.cons rfl (fun K hK => ?_) AllReadyH.nil
                  have d0 := K8.cell 0
                  have f0 := K8.frozen 0
                  have HP8 := put1 (x := .slice A2 n2 c2) K8 GB hg8
                  have K6f := K6.far (p := ⟨g8, 0, none⟩) (by simp; omega) (.slice A2 n2 c2)
                  have G1f := qr_box G1 K8 (.slice A2 n2 c2)
                  have G2f := qr_box G2 K8 (.slice A2 n2 c2)
                  have K7f := K7.far (p := ⟨g8, 0, none⟩) (by simp; omega) (.slice A2 n2 c2)
                  replace K6 := K6f
                  replace K8 := HP8.1
                  replace GB := HP8.2
                  replace G1 := G1f
                  replace G2 := G2f
                  replace K7 := K7f
                  go_simp
                  refine hK.out _ _ ⟨GB, K6⟩ (fun hS => ?_)
                  clear hK K d0 f0
                  refine wpAnyH_done (by kernel_rfl) ?_ _
                  clear hS
                  go_wp2_with fail
                  go_meet
                  exact ⟨_, _, A1, c1, A2, c2, rfl, rfl, K7, K8, G1, G2, K6, GB⟩
              · skip
                go_simp
                have K7 := Blk.new Xa44 26 #[.slice none 0 0]
                have hg7 := GB.size
                have h67 := K6.lt
                have h87 := K8.lt
                replace K6 := K6.alloc (.cells #[.slice none 0 0] 26)
                replace K8 := K8.alloc (.cells #[.slice none 0 0] 26)
                replace GB := GB.alloc GB.size (.cells #[.slice none 0 0] 26)
                obtain ⟨g7, hgb7⟩ : ∃ g, Xa44.heap.size = g := ⟨_, rfl⟩
                rw [hgb7] at K7 hg7 h67 h87 ⊢
                clear hgb7
                generalize Xa44.alloc (.cells #[.slice none 0 0] 26) = Xa54 at K6 K7 K8 GB ⊢
                refine hK.out _ _ ⟨GB, K6⟩ (fun hS => ?_)
                clear hK K
                refine wpAnyH_ready (rs := [1]) (by kernel_rfl) (by simp) ?_
                refine AllReadyH.cons rfl (fun K hK => ?_) AllReadyH.nil
                go_simp
                refine (HSh1.out _ GB).mono ?_
                rintro e55 w55 ⟨A1, c1, rfl, own1, h9⟩
                have G1 := qr_own own1 (by have := HN1.out; omega) HU1.out
                clear own1
                replace K6 := K6.below h9 K6.lt
                replace K8 := K8.below h9 K8.lt
                replace K7 := K7.below h9 K7.lt
                replace GB := GB.trans (h9.mono GB.size)
                clear h9
                refine hK.out _ _ ⟨GB, K6⟩ (fun hS => ?_)
                clear hK K
                refine wpAnyH_ready (rs := [5]) (by kernel_rfl) (by simp) ?_
                refine AllReadyH.cons rfl (fun K hK => ?_) AllReadyH.nil
                go_simp
                refine (HSh2.out _ GB).mono ?_
                rintro e56 w56 ⟨A2, c2, rfl, own2, h9⟩
                have G2 := qr_own own2 (by have := HN2.out; omega) HU2.out
                clear own2
                replace K6 := K6.below h9 K6.lt
                replace K8 := K8.below h9 K8.lt
                replace K7 := K7.below h9 K7.lt
                replace G1 := G1.below h9
                replace GB := GB.trans (h9.mono GB.size)
                clear h9
                refine hK.out _ _ ⟨GB, K6⟩ (fun hS => ?_)
                clear hK K
                refine wpAnyH_ready (rs := [8]) (by kernel_rfl) (by simp) ?_
                refine AllReadyH.cons rfl (fun K hK => ?_) AllReadyH.nil
                have d0 := K7.cell 0
                have f0 := K7.frozen 0
                have HP7 := put1 (x := .slice A1 n1 c1) K7 GB hg7
                have K6f := K6.far (p := ⟨g7, 0, none⟩) (by simp; omega) (.slice A1 n1 c1)
                have G1f := qr_box G1 K7 (.slice A1 n1 c1)
                have G2f := qr_box G2 K7 (.slice A1 n1 c1)
                have K8f := K8.far (p := ⟨g7, 0, none⟩) (by simp; omega) (.slice A1 n1 c1)
                replace K6 := K6f
                replace K7 := HP7.1
                replace GB := HP7.2
                replace G1 := G1f
                replace G2 := G2f
                replace K8 := K8f
                go_simp
                refine hK.out _ _ ⟨GB, K6⟩ (fun hS => ?_)
                clear hK K d0 f0
                refine wpAnyH_ready (rs := [9]) (by kernel_rfl) (by simp) ?_
                refine AllReadyH.cons rfl (fun K hK => ?_) AllReadyH.nil
                have d0 := K8.cell 0
                have f0 := K8.frozen 0
                have HP8 := put1 (x := .slice A2 n2 c2) K8 GB hg8
                have K6f := K6.far (p := ⟨g8, 0, none⟩) (by simp; omega) (.slice A2 n2 c2)
                have G1f := qr_box G1 K8 (.slice A2 n2 c2)
                have G2f := qr_box G2 K8 (.slice A2 n2 c2)
                have K7f := K7.far (p := ⟨g8, 0, none⟩) (by simp; omega) (.slice A2 n2 c2)
                replace K6 := K6f
                replace K8 := HP8.1
                replace GB := HP8.2
                replace G1 := G1f
                replace G2 := G2f
                replace K7 := K7f
                go_simp
                refine hK.out _ _ ⟨GB, K6⟩ (fun hS => ?_)
                clear hK K d0 f0
                refine wpAnyH_done (by kernel_rfl) ?_ _
                clear hS
                go_wp2_with fail
                go_meet
                exact ⟨_, _, A1, c1, A2, c2, rfl, rfl, K7, K8, G1, G2, K6, GB⟩
          case rest =>
            clear K6 GB
            obtain ⟨g7, g8, A1, c1, A2, c2, rfl, rfl, K7, K8, G1, G2, K6, GB⟩ := hcut
            rename World => Z
            have hk7 : k < 8 := Hk.out.2
            clear hlt hk hk8 h8 i1 i2 i3 hn0
            cases hr : rightQ q1 with
            | false =>
              have HRt := Lib.hid (rrightq_any A1 n1 c1 q1 _ G1)
              rw [hr] at HRt
              have z0 := K7.cell 0
              go_wp2_with fail
              refine HRt.out.mono ?_
              rintro e9 wa ⟨rfl, h9⟩
              clear z0 HRt
              replace K6 := K6.below h9 K6.lt
              replace K7 := K7.below h9 K7.lt
              replace K8 := K8.below h9 K8.lt
              replace G1 := G1.below h9
              replace G2 := G2.below h9
              replace GB := GB.trans (h9.mono GB.size)
              clear h9
              have HCk := Lib.hid (qcheck_any A1 n1 c1 q1 _ G1)
              rw [show chkQ q1 = 200 by unfold chkQ; rw [hr]; rfl] at HCk
              have z0 := K7.cell 0
              go_wp2_with fail
              refine HCk.out.mono ?_
              rintro e9 wb ⟨rfl, h9⟩
              clear z0 HCk
              replace K6 := K6.below h9 K6.lt
              replace K7 := K7.below h9 K7.lt
              replace K8 := K8.below h9 K8.lt
              replace G1 := G1.below h9
              replace G2 := G2.below h9
              replace GB := GB.trans (h9.mono GB.size)
              clear h9
              obtain ⟨sm, hsm⟩ : ∃ b, decide (q1 = q2) = b := ⟨_, rfl⟩
              have hsm2 : (sm != sm) = false := by cases sm <;> rfl
              have HS1 : Hid (∀ u, QR u A1 n1 c1 q1 → QR u A2 n2 c2 q2 → Calls Try.prog 13 #[.agg #[.slice A1 n1 c1], .agg #[.slice A2 n2 c2]] u (Said (.bool sm) u)) := Lib.hid (fun u h1 h2 => hsm ▸ vsame_any A1 n1 c1 q1 A2 n2 c2 q2 u h1 h2)
              have HS2 : Hid (∀ u, QR u A1 n1 c1 q1 → QR u A2 n2 c2 q2 → Calls Try.prog 14 #[.agg #[.slice A1 n1 c1], .agg #[.slice A2 n2 c2]] u (Said (.bool sm) u)) := Lib.hid (fun u h1 h2 => hsm ▸ rsame_any A1 n1 c1 q1 A2 n2 c2 q2 u h1 h2)
              have HS3 : Hid (∀ u A3 c3, QR u A1 n1 c1 q1 → QR u A3 n1 c3 q1 → Calls Try.prog 13 #[.agg #[.slice A1 n1 c1], .agg #[.slice A3 n1 c3]] u (Said (.bool true) u)) := Lib.hid (fun u A3 c3 h1 h2 => same_self A1 n1 c1 A3 c3 q1 u h1 h2)
              clear hsm
              go_upto_region 10 with fail
              go_cut [71] (fun s X => s = .bool false ∧ Blk X g7 26 #[.slice A1 n1 c1] ∧ QR X A1 n1 c1 q1 ∧ Below w.heap.size w X)
              case first =>
                replace K6 : Blk wb.drew _ _ _ := K6
                replace K7 : Blk wb.drew _ _ _ := K7
                replace K8 : Blk wb.drew _ _ _ := K8
                replace G1 := G1.below ((Below.refl _ wb).drew)
                replace G2 := G2.below ((Below.refl _ wb).drew)
                replace GB := GB.drew
                refine wp_region_held_drew (S := fun u => Below w.heap.size w u ∧ Blk u g6 26 #[.slice Ax nx cx] ∧ Blk u g7 26 #[.slice A1 n1 c1] ∧ Blk u g8 26 #[.slice A2 n2 c2]) (by kernel_rfl) ⟨GB, K6, K7, K8⟩ (fun hS => ?_)
                generalize wb.drew = V at K6 K7 K8 G1 G2 GB hS ⊢
                refine wpAnyH_take (i := 0) (v := .int .i64 200) rfl (by kernel_rfl) (by kernel_rfl) (by kernel_rfl) (fun _ _ _ h => h) (Or.inl ⟨by kernel_rfl, fun u hSw => (by go_simp)⟩) hS ?_
                change wpAnyH _ _ _ _ _ _ _ (Act.put _ (some 44) _) _
                simp only [Act.put]
                try simp only [List.setIfInBounds_toArray, List.set_cons_zero, List.set_cons_succ]
                refine wpAnyH_take (i := 1) (v := .bool false) rfl (by kernel_rfl) (by kernel_rfl) (by kernel_rfl) (fun _ _ _ h => h) (Or.inl ⟨by kernel_rfl, fun u hSw => (by go_simp)⟩) hS ?_
                change wpAnyH _ _ _ _ _ _ _ (Act.put _ (some 45) _) _
                simp only [Act.put]
                try simp only [List.setIfInBounds_toArray, List.set_cons_zero, List.set_cons_succ]
                refine wpAnyH_take (i := 2) (v := .bool false) rfl (by kernel_rfl) (by kernel_rfl) (by kernel_rfl) (fun _ _ _ h => h) (Or.inl ⟨by kernel_rfl, fun u hSw => (by go_simp)⟩) hS ?_
                change wpAnyH _ _ _ _ _ _ _ (Act.put _ (some 46) _) _
                simp only [Act.put]
                try simp only [List.setIfInBounds_toArray, List.set_cons_zero, List.set_cons_succ]
                refine wpAnyH_take (i := 3) (v := .bool false) rfl (by kernel_rfl) (by kernel_rfl) (by kernel_rfl) (fun _ _ _ h => h) (Or.inl ⟨by kernel_rfl, fun u hSw => (by go_simp)⟩) hS ?_
                change wpAnyH _ _ _ _ _ _ _ (Act.put _ (some 47) _) _
                simp only [Act.put]
                try simp only [List.setIfInBounds_toArray, List.set_cons_zero, List.set_cons_succ]
                refine wpAnyH_take (i := 4) (v := .bool false) rfl (by kernel_rfl) (by kernel_rfl) (by kernel_rfl) (fun _ _ _ h => h) (Or.inl ⟨by kernel_rfl, fun u hSw => (by go_simp)⟩) hS ?_
                change wpAnyH _ _ _ _ _ _ _ (Act.put _ (some 48) _) _
                simp only [Act.put]
                try simp only [List.setIfInBounds_toArray, List.set_cons_zero, List.set_cons_succ]
                refine wpAnyH_take (i := 5) (v := .bool false) rfl (by kernel_rfl) (by kernel_rfl) (by kernel_rfl) (fun _ _ _ h => h) (Or.inl ⟨by kernel_rfl, fun u hSw => (by go_simp)⟩) hS ?_
                change wpAnyH _ _ _ _ _ _ _ (Act.put _ (some 49) _) _
                simp only [Act.put]
                try simp only [List.setIfInBounds_toArray, List.set_cons_zero, List.set_cons_succ]
                refine wpAnyH_take (i := 6) (v := .bool true) rfl (by kernel_rfl) (by kernel_rfl) (by kernel_rfl) (fun _ _ _ h => h) (Or.inl ⟨by kernel_rfl, fun u hSw => (by go_simp)⟩) hS ?_
                change wpAnyH _ _ _ _ _ _ _ (Act.put _ (some 50) _) _
                simp only [Act.put]
                try simp only [List.setIfInBounds_toArray, List.set_cons_zero, List.set_cons_succ]
                refine wpAnyH_take (i := 7) (v := .bool true) rfl (by kernel_rfl) (by kernel_rfl) (by kernel_rfl) (fun _ _ _ h => h) (Or.inl ⟨by kernel_rfl, fun u hSw => (by go_simp)⟩) hS ?_
                change wpAnyH _ _ _ _ _ _ _ (Act.put _ (some 51) _) _
                simp only [Act.put]
                try simp only [List.setIfInBounds_toArray, List.set_cons_zero, List.set_cons_succ]
                refine wpAnyH_take (i := 8) (v := .int .i64 200) rfl (by kernel_rfl) (by kernel_rfl) (by kernel_rfl) (fun _ _ _ h => h) (Or.inl ⟨by kernel_rfl, fun u hSw => (by go_simp)⟩) hS ?_
                change wpAnyH _ _ _ _ _ _ _ (Act.put _ (some 52) _) _
                simp only [Act.put]
                try simp only [List.setIfInBounds_toArray, List.set_cons_zero, List.set_cons_succ]
                refine wpAnyH_take (i := 9) (v := .bool false) rfl (by kernel_rfl) (by kernel_rfl) (by kernel_rfl) (fun _ _ _ h => h) (Or.inl ⟨by kernel_rfl, fun u hSw => (by go_simp)⟩) hS ?_
                change wpAnyH _ _ _ _ _ _ _ (Act.put _ (some 53) _) _
                simp only [Act.put]
                try simp only [List.setIfInBounds_toArray, List.set_cons_zero, List.set_cons_succ]
                refine wpAnyH_take (i := 10) (v := .bool false) rfl (by kernel_rfl) (by kernel_rfl) (by kernel_rfl) (fun _ _ _ h => h) (Or.inl ⟨by kernel_rfl, fun u hSw => (by go_simp)⟩) hS ?_
                change wpAnyH _ _ _ _ _ _ _ (Act.put _ (some 54) _) _
                simp only [Act.put]
                try simp only [List.setIfInBounds_toArray, List.set_cons_zero, List.set_cons_succ]
                refine wpAnyH_take (i := 11) (v := .bool false) rfl (by kernel_rfl) (by kernel_rfl) (by kernel_rfl) (fun _ _ _ h => h) (Or.inl ⟨by kernel_rfl, fun u hSw => (by go_simp)⟩) hS ?_
                change wpAnyH _ _ _ _ _ _ _ (Act.put _ (some 55) _) _
                simp only [Act.put]
                try simp only [List.setIfInBounds_toArray, List.set_cons_zero, List.set_cons_succ]
                refine wpAnyH_take (i := 12) (v := .bool false) rfl (by kernel_rfl) (by kernel_rfl) (by kernel_rfl) (fun _ _ _ h => h) (Or.inl ⟨by kernel_rfl, fun u hSw => (by go_simp)⟩) hS ?_
                change wpAnyH _ _ _ _ _ _ _ (Act.put _ (some 56) _) _
                simp only [Act.put]
                try simp only [List.setIfInBounds_toArray, List.set_cons_zero, List.set_cons_succ]
                refine wpAnyH_take (i := 13) (v := .agg #[.slice A1 n1 c1]) rfl (by kernel_rfl) (by kernel_rfl) (by kernel_rfl) (fun _ _ _ h => h) (Or.inl ⟨by kernel_rfl, fun u hSw => (by have q0 := hSw.2.2.1.cell 0; go_simp)⟩) hS ?_
                change wpAnyH _ _ _ _ _ _ _ (Act.put _ (some 57) _) _
                simp only [Act.put]
                try simp only [List.setIfInBounds_toArray, List.set_cons_zero, List.set_cons_succ]
                refine wpAnyH_take (i := 14) (v := .agg #[.slice A2 n2 c2]) rfl (by kernel_rfl) (by kernel_rfl) (by kernel_rfl) (fun _ _ _ h => h) (Or.inl ⟨by kernel_rfl, fun u hSw => (by have q0 := hSw.2.2.2.cell 0; go_simp)⟩) hS ?_
                change wpAnyH _ _ _ _ _ _ _ (Act.put _ (some 58) _) _
                simp only [Act.put]
                try simp only [List.setIfInBounds_toArray, List.set_cons_zero, List.set_cons_succ]
                refine wpAnyH_take (i := 16) (v := .agg #[.slice A1 n1 c1]) rfl (by kernel_rfl) (by kernel_rfl) (by kernel_rfl) (fun _ _ _ h => h) (Or.inl ⟨by kernel_rfl, fun u hSw => (by have q0 := hSw.2.2.1.cell 0; go_simp)⟩) hS ?_
                change wpAnyH _ _ _ _ _ _ _ (Act.put _ (some 60) _) _
                simp only [Act.put]
                try simp only [List.setIfInBounds_toArray, List.set_cons_zero, List.set_cons_succ]
                refine wpAnyH_take (i := 17) (v := .agg #[.slice A2 n2 c2]) rfl (by kernel_rfl) (by kernel_rfl) (by kernel_rfl) (fun _ _ _ h => h) (Or.inl ⟨by kernel_rfl, fun u hSw => (by have q0 := hSw.2.2.2.cell 0; go_simp)⟩) hS ?_
                change wpAnyH _ _ _ _ _ _ _ (Act.put _ (some 61) _) _
                simp only [Act.put]
                try simp only [List.setIfInBounds_toArray, List.set_cons_zero, List.set_cons_succ]
                refine wpAnyH_ready (rs := [15]) (by kernel_rfl) (by simp) ?_
                refine AllReadyH.cons rfl (fun K hK => ?_) AllReadyH.nil
                go_simp
                refine (HS1.out _ G1 G2).mono ?_
                rintro e1 w1 ⟨rfl, h9⟩
                replace K6 := K6.below h9 K6.lt
                replace K7 := K7.below h9 K7.lt
                replace K8 := K8.below h9 K8.lt
                replace G1 := G1.below h9
                replace G2 := G2.below h9
                replace GB := GB.trans (h9.mono GB.size)
                clear h9
                refine hK.out _ _ ⟨GB, K6, K7, K8⟩ (fun hS => ?_)
                clear hK K
                refine wpAnyH_ready (rs := [18]) (by kernel_rfl) (by simp) ?_
                refine AllReadyH.cons rfl (fun K hK => ?_) AllReadyH.nil
                go_simp
                refine (HS2.out _ G1 G2).mono ?_
                rintro e2 w2 ⟨rfl, h9⟩
                replace K6 := K6.below h9 K6.lt
                replace K7 := K7.below h9 K7.lt
                replace K8 := K8.below h9 K8.lt
                replace G1 := G1.below h9
                replace G2 := G2.below h9
                replace GB := GB.trans (h9.mono GB.size)
                clear h9
                refine hK.out _ _ ⟨GB, K6, K7, K8⟩ (fun hS => ?_)
                clear hK K
                refine wpAnyH_take (i := 19) (v := .bool false) rfl (by kernel_rfl) (by kernel_rfl) (by kernel_rfl) (fun _ _ _ h => h) (Or.inl ⟨by kernel_rfl, fun u hSw => (by go_simp)⟩) hS ?_
                change wpAnyH _ _ _ _ _ _ _ (Act.put _ (some 63) _) _
                simp only [Act.put]
                try simp only [List.setIfInBounds_toArray, List.set_cons_zero, List.set_cons_succ]
                refine wpAnyH_take (i := 20) (v := .bool false) rfl (by kernel_rfl) (by kernel_rfl) (by kernel_rfl) (fun _ _ _ h => h) (Or.inl ⟨by kernel_rfl, fun u hSw => (by go_simp)⟩) hS ?_
                change wpAnyH _ _ _ _ _ _ _ (Act.put _ (some 64) _) _
                simp only [Act.put]
                try simp only [List.setIfInBounds_toArray, List.set_cons_zero, List.set_cons_succ]
                refine wpAnyH_take (i := 21) (v := .bool false) rfl (by kernel_rfl) (by kernel_rfl) (by kernel_rfl) (fun _ _ _ h => h) (Or.inl ⟨by kernel_rfl, fun u hSw => (by go_simp)⟩) hS ?_
                change wpAnyH _ _ _ _ _ _ _ (Act.put _ (some 65) _) _
                simp only [Act.put]
                try simp only [List.setIfInBounds_toArray, List.set_cons_zero, List.set_cons_succ]
                refine wpAnyH_take (i := 22) (v := .agg #[.slice A1 n1 c1]) rfl (by kernel_rfl) (by kernel_rfl) (by kernel_rfl) (fun _ _ _ h => h) (Or.inl ⟨by kernel_rfl, fun u hSw => (by have q0 := hSw.2.2.1.cell 0; go_simp)⟩) hS ?_
                change wpAnyH _ _ _ _ _ _ _ (Act.put _ (some 66) _) _
                simp only [Act.put]
                try simp only [List.setIfInBounds_toArray, List.set_cons_zero, List.set_cons_succ]
                refine wpAnyH_take (i := 23) (v := .agg #[.slice Ax nx cx]) rfl (by kernel_rfl) (by kernel_rfl) (by kernel_rfl) (fun _ _ _ h => h) (Or.inl ⟨by kernel_rfl, fun u hSw => (by have q0 := hSw.2.1.cell 0; go_simp)⟩) hS ?_
                change wpAnyH _ _ _ _ _ _ _ (Act.put _ (some 67) _) _
                simp only [Act.put]
                try simp only [List.setIfInBounds_toArray, List.set_cons_zero, List.set_cons_succ]
                refine wpAnyH_ready (rs := [24]) (by kernel_rfl) (by simp) ?_
                refine AllReadyH.cons rfl (fun K hK => ?_) AllReadyH.nil
                go_simp
                refine (HSh1.out _ GB).mono ?_
                rintro e3 w3 ⟨A3, c3, rfl, own3, h9⟩
                have G3 := qr_own own3 (by have := HN1.out; omega) HU1.out
                clear own3
                replace K6 := K6.below h9 K6.lt
                replace K7 := K7.below h9 K7.lt
                replace K8 := K8.below h9 K8.lt
                replace G1 := G1.below h9
                replace G2 := G2.below h9
                replace GB := GB.trans (h9.mono GB.size)
                clear h9
                refine hK.out _ _ ⟨GB, K6, K7, K8⟩ (fun hS => ?_)
                clear hK K
                refine wpAnyH_ready (rs := [25]) (by kernel_rfl) (by simp) ?_
                refine AllReadyH.cons rfl (fun K hK => ?_) AllReadyH.nil
                go_simp
                refine (HS3.out _ _ _ G1 G3).mono ?_
                rintro e4 w4 ⟨rfl, h9⟩
                replace K6 := K6.below h9 K6.lt
                replace K7 := K7.below h9 K7.lt
                replace K8 := K8.below h9 K8.lt
                replace G1 := G1.below h9
                replace G2 := G2.below h9
                replace G3 := G3.below h9
                replace GB := GB.trans (h9.mono GB.size)
                clear h9
                refine hK.out _ _ ⟨GB, K6, K7, K8⟩ (fun hS => ?_)
                clear hK K
                refine wpAnyH_take (i := 26) (v := .bool false) rfl (by kernel_rfl) (by kernel_rfl) (by kernel_rfl) (fun _ _ _ h => h) (Or.inl ⟨by kernel_rfl, fun u hSw => (by go_simp)⟩) hS ?_
                change wpAnyH _ _ _ _ _ _ _ (Act.put _ (some 70) _) _
                simp only [Act.put]
                try simp only [List.setIfInBounds_toArray, List.set_cons_zero, List.set_cons_succ]
                refine wpAnyH_take (i := 27) (v := .bool false) rfl (by kernel_rfl) (by kernel_rfl) (by kernel_rfl) (fun _ _ _ h => h) (Or.inl ⟨by kernel_rfl, fun u hSw => (by go_simp)⟩) hS ?_
                change wpAnyH _ _ _ _ _ _ _ (Act.put _ (some 71) _) _
                simp only [Act.put]
                try simp only [List.setIfInBounds_toArray, List.set_cons_zero, List.set_cons_succ]
                refine wpAnyH_done (by kernel_rfl) ?_ _
                clear hS
                go_wp2_with fail
                go_meet
                exact ⟨rfl, K7, G1, GB⟩
              case rest =>
                clear K6 K7 K8 G1 G2 GB HS1 HS2 HS3 HSh1 HSh2
                obtain ⟨rfl, K7, G1, GB⟩ := hcut
                rename World => X4
                have HTo := Lib.hid (fun (u : World) (hq : QR u A1 n1 c1 q1) => top_any A1 n1 c1 q1 u hq (by have := HN1.out; omega))
                have HrT := Lib.hid (fun (u : World) (hq : QR u A1 n1 c1 q1) => rtop_any A1 n1 c1 q1 u hq)
                rw [top_wrong hr] at HTo
                obtain ⟨⟨o1, o2, o3⟩, ho⟩ : ∃ o, rtop q1 n1 = o := ⟨_, rfl⟩
                obtain ⟨tb, htb⟩ : ∃ b, decide (0 < n1) = b := ⟨_, rfl⟩
                rw [ho, htb] at HrT
                skip
                unfold fr at HTo HrT
                have v1 : ((o1 : Int) != (o1 : Int)) = false := by simp
                have v2 : ((o2 : Int) != (o2 : Int)) = false := by simp
                have v3 : ((o3 : Int) != (o3 : Int)) = false := by simp
                have v4 : ((o1 : Int) == (o1 : Int)) = true := by simp
                have v5 : ((o2 : Int) == (o2 : Int)) = true := by simp
                have v6 : ((o3 : Int) == (o3 : Int)) = true := by simp
                have v7 : (tb != tb) = false := by cases tb <;> rfl
                have v8 : (tb == tb) = true := by cases tb <;> rfl
                have HX1 := Lib.hid (HTo.out _ G1)
                clear ho htb HTo
                have z0 := K7.cell 0
                go_wp2_with fail
                refine HX1.out.mono ?_
                rintro e9 wc ⟨rfl, h9⟩
                clear z0 HX1
                replace K7 := K7.below h9 K7.lt
                replace G1 := G1.below h9
                replace GB := GB.trans (h9.mono GB.size)
                clear h9
                have K11 := Blk.new wc 36 #[.int .u64 0, .int .u64 0, .int .u64 0]
                replace K7 := K7.alloc (.cells #[.int .u64 0, .int .u64 0, .int .u64 0] 36)
                replace G1 := G1.below ((Below.refl _ _).alloc (Nat.le_refl _) (.cells #[.int .u64 0, .int .u64 0, .int .u64 0] 36))
                replace GB := GB.alloc GB.size (.cells #[.int .u64 0, .int .u64 0, .int .u64 0] 36)
                have HX2 := Lib.hid (HrT.out _ G1)
                have z0 := K7.cell 0
                go_wp2_with fail
                refine HX2.out.mono ?_
                rintro e9 wd ⟨rfl, h9⟩
                clear z0 HX2 HrT
                replace K7 := K7.below h9 K7.lt
                replace K11 := K11.below h9 K11.lt
                replace G1 := G1.below h9
                replace GB := GB.trans (h9.mono GB.size)
                clear h9
                have K13 := Blk.new wd 36 #[.int .u64 (o1 : Int), .int .u64 (o2 : Int), .int .u64 (o3 : Int)]
                replace K7 := K7.alloc (.cells #[.int .u64 (o1 : Int), .int .u64 (o2 : Int), .int .u64 (o3 : Int)] 36)
                replace K11 := K11.alloc (.cells #[.int .u64 (o1 : Int), .int .u64 (o2 : Int), .int .u64 (o3 : Int)] 36)
                replace G1 := G1.below ((Below.refl _ _).alloc (Nat.le_refl _) (.cells #[.int .u64 (o1 : Int), .int .u64 (o2 : Int), .int .u64 (o3 : Int)] 36))
                replace GB := GB.alloc GB.size (.cells #[.int .u64 (o1 : Int), .int .u64 (o2 : Int), .int .u64 (o3 : Int)] 36)
                have z0 := K11.cell 0
                have z1 := K11.cell 1
                have z2 := K11.cell 2
                have y0 := K13.cell 0
                have y1 := K13.cell 1
                have y2 := K13.cell 2
                have HX := Lib.hid (And.intro K7 (And.intro G1 GB))
                clear K7 K11 K13 G1 GB
                go_wp2_with fail
                clear z0 z1 z2 y0 y1 y2 v1 v2 v3 v4 v5 v6
                go_loopw [105] (fun iv wr => ∃ i : Nat, i ≤ 18 ∧ iv = .int .i64 (i : Int) ∧ Blk wr g7 26 #[.slice A1 n1 c1] ∧ QR wr A1 n1 c1 q1 ∧ Below w.heap.size w wr) (fun iv _ => 18 - (intOf iv).toNat)
                case atStart => exact ⟨0, by omega, rfl, HX.out.1, HX.out.2.1, HX.out.2.2⟩
                case round =>
                  obtain ⟨i, hi, rfl, K7, G1, GB⟩ := hrel
                  by_cases hit : i < 18
                  · have HGe := Lib.hid (fun (u : World) (hq : QR u A1 n1 c1 q1) => get_any A1 n1 c1 q1 (i : Int) u hq)
                    have HrG := Lib.hid (fun (u : World) (hq : QR u A1 n1 c1 q1) => rget_any A1 n1 c1 q1 (i : Int) u hq)
                    rw [get_wrong hr] at HGe
                    obtain ⟨⟨⟨e1, e2, e3, e4, e5⟩, gb⟩, hg⟩ : ∃ x, rgetQ q1 (i : Int) = x := ⟨_, rfl⟩
                    rw [hg] at HrG
                    unfold zeroR at HGe
                    unfold agR at HGe HrG
                    have u1 : (e1 != e1) = false := by simp
                    have u2 : (e2 != e2) = false := by simp
                    have u3 : ((e3 : Int) != (e3 : Int)) = false := by simp
                    have u4 : ((e4 : Int) != (e4 : Int)) = false := by simp
                    have u5 : ((e5 : Int) != (e5 : Int)) = false := by simp
                    have u6 : (gb != gb) = false := by cases gb <;> rfl
                    have u7 : (gb == gb) = true := by cases gb <;> rfl
                    have HX1 := Lib.hid (HGe.out _ G1)
                    have Hit := Lib.hid hit
                    have z0 := K7.cell 0
                    clear hg HGe
                    go_wp2_with fail
                    refine HX1.out.mono ?_
                    rintro e9 wc ⟨rfl, h9⟩
                    clear z0 HX1
                    replace K7 := K7.below h9 K7.lt
                    replace G1 := G1.below h9
                    replace GB := GB.trans (h9.mono GB.size)
                    clear h9
                    have K16 := Blk.new wc 40 #[.int .i64 0, .int .i64 0, .int .u64 0, .int .u64 0, .int .u64 0]
                    replace K7 := K7.alloc (.cells #[.int .i64 0, .int .i64 0, .int .u64 0, .int .u64 0, .int .u64 0] 40)
                    replace G1 := G1.below ((Below.refl _ _).alloc (Nat.le_refl _) (.cells #[.int .i64 0, .int .i64 0, .int .u64 0, .int .u64 0, .int .u64 0] 40))
                    replace GB := GB.alloc GB.size (.cells #[.int .i64 0, .int .i64 0, .int .u64 0, .int .u64 0, .int .u64 0] 40)
                    have HX2 := Lib.hid (HrG.out _ G1)
                    have z0 := K7.cell 0
                    go_wp2_with fail
                    refine HX2.out.mono ?_
                    rintro e9 wd ⟨rfl, h9⟩
                    clear z0 HX2 HrG
                    replace K7 := K7.below h9 K7.lt
                    replace K16 := K16.below h9 K16.lt
                    replace G1 := G1.below h9
                    replace GB := GB.trans (h9.mono GB.size)
                    clear h9
                    have K18 := Blk.new wd 40 #[.int .i64 e1, .int .i64 e2, .int .u64 (e3 : Int), .int .u64 (e4 : Int), .int .u64 (e5 : Int)]
                    replace K7 := K7.alloc (.cells #[.int .i64 e1, .int .i64 e2, .int .u64 (e3 : Int), .int .u64 (e4 : Int), .int .u64 (e5 : Int)] 40)
                    replace K16 := K16.alloc (.cells #[.int .i64 e1, .int .i64 e2, .int .u64 (e3 : Int), .int .u64 (e4 : Int), .int .u64 (e5 : Int)] 40)
                    replace G1 := G1.below ((Below.refl _ _).alloc (Nat.le_refl _) (.cells #[.int .i64 e1, .int .i64 e2, .int .u64 (e3 : Int), .int .u64 (e4 : Int), .int .u64 (e5 : Int)] 40))
                    replace GB := GB.alloc GB.size (.cells #[.int .i64 e1, .int .i64 e2, .int .u64 (e3 : Int), .int .u64 (e4 : Int), .int .u64 (e5 : Int)] 40)
                    have z0 := K16.cell 0
                    have z1 := K16.cell 1
                    have z2 := K16.cell 2
                    have z3 := K16.cell 3
                    have z4 := K16.cell 4
                    have y0 := K18.cell 0
                    have y1 := K18.cell 1
                    have y2 := K18.cell 2
                    have y3 := K18.cell 3
                    have y4 := K18.cell 4
                    have HXe := Lib.hid (And.intro K7 (And.intro G1 GB))
                    clear K7 K16 K18 G1 GB
                    go_wp2_with fail
                    go_roundw
                    case rel => exact ⟨i + 1, Hit.out, by go_num, HXe.out.1, HXe.out.2.1, HXe.out.2.2⟩
                    case measure => have := Hit.out; simp [intOf] <;> omega
                  · obtain rfl : i = 18 := by omega
                    have hk8' : k < 8 := Hk.out.2
                    have HXe := Lib.hid GB
                    clear K7 G1 GB hit hi
                    go_wp2_with fail
                    go_roundw
                    case rel => exact ⟨k + 1, Hk.out.1, by omega, by go_num, HXe.out⟩
                    case measure => have := Hk.out; simp [intOf] <;> omega
            | true =>
              have HRt := Lib.hid (rrightq_any A1 n1 c1 q1 _ G1)
              rw [hr] at HRt
              have z0 := K7.cell 0
              go_wp2_with fail
              refine HRt.out.mono ?_
              rintro e9 wa ⟨rfl, h9⟩
              clear z0 HRt
              replace K6 := K6.below h9 K6.lt
              replace K7 := K7.below h9 K7.lt
              replace K8 := K8.below h9 K8.lt
              replace G1 := G1.below h9
              replace G2 := G2.below h9
              replace GB := GB.trans (h9.mono GB.size)
              clear h9
              have HCk := Lib.hid (qcheck_any A1 n1 c1 q1 _ G1)
              rw [show chkQ q1 = 0 by unfold chkQ; rw [hr]; rfl] at HCk
              have z0 := K7.cell 0
              go_wp2_with fail
              refine HCk.out.mono ?_
              rintro e9 wb ⟨rfl, h9⟩
              clear z0 HCk
              replace K6 := K6.below h9 K6.lt
              replace K7 := K7.below h9 K7.lt
              replace K8 := K8.below h9 K8.lt
              replace G1 := G1.below h9
              replace G2 := G2.below h9
              replace GB := GB.trans (h9.mono GB.size)
              clear h9
              obtain ⟨sm, hsm⟩ : ∃ b, decide (q1 = q2) = b := ⟨_, rfl⟩
              have hsm2 : (sm != sm) = false := by cases sm <;> rfl
              have HS1 : Hid (∀ u, QR u A1 n1 c1 q1 → QR u A2 n2 c2 q2 → Calls Try.prog 13 #[.agg #[.slice A1 n1 c1], .agg #[.slice A2 n2 c2]] u (Said (.bool sm) u)) := Lib.hid (fun u h1 h2 => hsm ▸ vsame_any A1 n1 c1 q1 A2 n2 c2 q2 u h1 h2)
              have HS2 : Hid (∀ u, QR u A1 n1 c1 q1 → QR u A2 n2 c2 q2 → Calls Try.prog 14 #[.agg #[.slice A1 n1 c1], .agg #[.slice A2 n2 c2]] u (Said (.bool sm) u)) := Lib.hid (fun u h1 h2 => hsm ▸ rsame_any A1 n1 c1 q1 A2 n2 c2 q2 u h1 h2)
              have HS3 : Hid (∀ u A3 c3, QR u A1 n1 c1 q1 → QR u A3 n1 c3 q1 → Calls Try.prog 13 #[.agg #[.slice A1 n1 c1], .agg #[.slice A3 n1 c3]] u (Said (.bool true) u)) := Lib.hid (fun u A3 c3 h1 h2 => same_self A1 n1 c1 A3 c3 q1 u h1 h2)
              clear hsm
              go_upto_region 10 with fail
              go_cut [71] (fun s X => s = .bool false ∧ Blk X g7 26 #[.slice A1 n1 c1] ∧ QR X A1 n1 c1 q1 ∧ Below w.heap.size w X)
              case first =>
                replace K6 : Blk wb.drew _ _ _ := K6
                replace K7 : Blk wb.drew _ _ _ := K7
                replace K8 : Blk wb.drew _ _ _ := K8
                replace G1 := G1.below ((Below.refl _ wb).drew)
                replace G2 := G2.below ((Below.refl _ wb).drew)
                replace GB := GB.drew
                refine wp_region_held_drew (S := fun u => Below w.heap.size w u ∧ Blk u g6 26 #[.slice Ax nx cx] ∧ Blk u g7 26 #[.slice A1 n1 c1] ∧ Blk u g8 26 #[.slice A2 n2 c2]) (by kernel_rfl) ⟨GB, K6, K7, K8⟩ (fun hS => ?_)
                generalize wb.drew = V at K6 K7 K8 G1 G2 GB hS ⊢
                refine wpAnyH_take (i := 0) (v := .int .i64 0) rfl (by kernel_rfl) (by kernel_rfl) (by kernel_rfl) (fun _ _ _ h => h) (Or.inl ⟨by kernel_rfl, fun u hSw => (by go_simp)⟩) hS ?_
                change wpAnyH _ _ _ _ _ _ _ (Act.put _ (some 44) _) _
                simp only [Act.put]
                try simp only [List.setIfInBounds_toArray, List.set_cons_zero, List.set_cons_succ]
                refine wpAnyH_take (i := 1) (v := .bool true) rfl (by kernel_rfl) (by kernel_rfl) (by kernel_rfl) (fun _ _ _ h => h) (Or.inl ⟨by kernel_rfl, fun u hSw => (by go_simp)⟩) hS ?_
                change wpAnyH _ _ _ _ _ _ _ (Act.put _ (some 45) _) _
                simp only [Act.put]
                try simp only [List.setIfInBounds_toArray, List.set_cons_zero, List.set_cons_succ]
                refine wpAnyH_take (i := 2) (v := .bool true) rfl (by kernel_rfl) (by kernel_rfl) (by kernel_rfl) (fun _ _ _ h => h) (Or.inl ⟨by kernel_rfl, fun u hSw => (by go_simp)⟩) hS ?_
                change wpAnyH _ _ _ _ _ _ _ (Act.put _ (some 46) _) _
                simp only [Act.put]
                try simp only [List.setIfInBounds_toArray, List.set_cons_zero, List.set_cons_succ]
                refine wpAnyH_take (i := 3) (v := .bool false) rfl (by kernel_rfl) (by kernel_rfl) (by kernel_rfl) (fun _ _ _ h => h) (Or.inl ⟨by kernel_rfl, fun u hSw => (by go_simp)⟩) hS ?_
                change wpAnyH _ _ _ _ _ _ _ (Act.put _ (some 47) _) _
                simp only [Act.put]
                try simp only [List.setIfInBounds_toArray, List.set_cons_zero, List.set_cons_succ]
                refine wpAnyH_take (i := 4) (v := .bool false) rfl (by kernel_rfl) (by kernel_rfl) (by kernel_rfl) (fun _ _ _ h => h) (Or.inl ⟨by kernel_rfl, fun u hSw => (by go_simp)⟩) hS ?_
                change wpAnyH _ _ _ _ _ _ _ (Act.put _ (some 48) _) _
                simp only [Act.put]
                try simp only [List.setIfInBounds_toArray, List.set_cons_zero, List.set_cons_succ]
                refine wpAnyH_take (i := 5) (v := .bool true) rfl (by kernel_rfl) (by kernel_rfl) (by kernel_rfl) (fun _ _ _ h => h) (Or.inl ⟨by kernel_rfl, fun u hSw => (by go_simp)⟩) hS ?_
                change wpAnyH _ _ _ _ _ _ _ (Act.put _ (some 49) _) _
                simp only [Act.put]
                try simp only [List.setIfInBounds_toArray, List.set_cons_zero, List.set_cons_succ]
                refine wpAnyH_take (i := 6) (v := .bool false) rfl (by kernel_rfl) (by kernel_rfl) (by kernel_rfl) (fun _ _ _ h => h) (Or.inl ⟨by kernel_rfl, fun u hSw => (by go_simp)⟩) hS ?_
                change wpAnyH _ _ _ _ _ _ _ (Act.put _ (some 50) _) _
                simp only [Act.put]
                try simp only [List.setIfInBounds_toArray, List.set_cons_zero, List.set_cons_succ]
                refine wpAnyH_take (i := 7) (v := .bool false) rfl (by kernel_rfl) (by kernel_rfl) (by kernel_rfl) (fun _ _ _ h => h) (Or.inl ⟨by kernel_rfl, fun u hSw => (by go_simp)⟩) hS ?_
                change wpAnyH _ _ _ _ _ _ _ (Act.put _ (some 51) _) _
                simp only [Act.put]
                try simp only [List.setIfInBounds_toArray, List.set_cons_zero, List.set_cons_succ]
                refine wpAnyH_take (i := 8) (v := undef) rfl (by kernel_rfl) (by kernel_rfl) (by kernel_rfl) (fun _ _ _ h => h) (Or.inr ⟨by kernel_rfl, rfl⟩) hS ?_
                change wpAnyH _ _ _ _ _ _ _ (Act.put _ (some 52) _) _
                simp only [Act.put]
                try simp only [List.setIfInBounds_toArray, List.set_cons_zero, List.set_cons_succ]
                refine wpAnyH_take (i := 9) (v := undef) rfl (by kernel_rfl) (by kernel_rfl) (by kernel_rfl) (fun _ _ _ h => h) (Or.inr ⟨by kernel_rfl, rfl⟩) hS ?_
                change wpAnyH _ _ _ _ _ _ _ (Act.put _ (some 53) _) _
                simp only [Act.put]
                try simp only [List.setIfInBounds_toArray, List.set_cons_zero, List.set_cons_succ]
                refine wpAnyH_take (i := 10) (v := .bool false) rfl (by kernel_rfl) (by kernel_rfl) (by kernel_rfl) (fun _ _ _ h => h) (Or.inl ⟨by kernel_rfl, fun u hSw => (by go_simp)⟩) hS ?_
                change wpAnyH _ _ _ _ _ _ _ (Act.put _ (some 54) _) _
                simp only [Act.put]
                try simp only [List.setIfInBounds_toArray, List.set_cons_zero, List.set_cons_succ]
                refine wpAnyH_take (i := 11) (v := .bool false) rfl (by kernel_rfl) (by kernel_rfl) (by kernel_rfl) (fun _ _ _ h => h) (Or.inl ⟨by kernel_rfl, fun u hSw => (by go_simp)⟩) hS ?_
                change wpAnyH _ _ _ _ _ _ _ (Act.put _ (some 55) _) _
                simp only [Act.put]
                try simp only [List.setIfInBounds_toArray, List.set_cons_zero, List.set_cons_succ]
                refine wpAnyH_take (i := 12) (v := .bool false) rfl (by kernel_rfl) (by kernel_rfl) (by kernel_rfl) (fun _ _ _ h => h) (Or.inl ⟨by kernel_rfl, fun u hSw => (by go_simp)⟩) hS ?_
                change wpAnyH _ _ _ _ _ _ _ (Act.put _ (some 56) _) _
                simp only [Act.put]
                try simp only [List.setIfInBounds_toArray, List.set_cons_zero, List.set_cons_succ]
                refine wpAnyH_take (i := 13) (v := .agg #[.slice A1 n1 c1]) rfl (by kernel_rfl) (by kernel_rfl) (by kernel_rfl) (fun _ _ _ h => h) (Or.inl ⟨by kernel_rfl, fun u hSw => (by have q0 := hSw.2.2.1.cell 0; go_simp)⟩) hS ?_
                change wpAnyH _ _ _ _ _ _ _ (Act.put _ (some 57) _) _
                simp only [Act.put]
                try simp only [List.setIfInBounds_toArray, List.set_cons_zero, List.set_cons_succ]
                refine wpAnyH_take (i := 14) (v := .agg #[.slice A2 n2 c2]) rfl (by kernel_rfl) (by kernel_rfl) (by kernel_rfl) (fun _ _ _ h => h) (Or.inl ⟨by kernel_rfl, fun u hSw => (by have q0 := hSw.2.2.2.cell 0; go_simp)⟩) hS ?_
                change wpAnyH _ _ _ _ _ _ _ (Act.put _ (some 58) _) _
                simp only [Act.put]
                try simp only [List.setIfInBounds_toArray, List.set_cons_zero, List.set_cons_succ]
                refine wpAnyH_take (i := 16) (v := .agg #[.slice A1 n1 c1]) rfl (by kernel_rfl) (by kernel_rfl) (by kernel_rfl) (fun _ _ _ h => h) (Or.inl ⟨by kernel_rfl, fun u hSw => (by have q0 := hSw.2.2.1.cell 0; go_simp)⟩) hS ?_
                change wpAnyH _ _ _ _ _ _ _ (Act.put _ (some 60) _) _
                simp only [Act.put]
                try simp only [List.setIfInBounds_toArray, List.set_cons_zero, List.set_cons_succ]
                refine wpAnyH_take (i := 17) (v := .agg #[.slice A2 n2 c2]) rfl (by kernel_rfl) (by kernel_rfl) (by kernel_rfl) (fun _ _ _ h => h) (Or.inl ⟨by kernel_rfl, fun u hSw => (by have q0 := hSw.2.2.2.cell 0; go_simp)⟩) hS ?_
                change wpAnyH _ _ _ _ _ _ _ (Act.put _ (some 61) _) _
                simp only [Act.put]
                try simp only [List.setIfInBounds_toArray, List.set_cons_zero, List.set_cons_succ]
                refine wpAnyH_ready (rs := [15]) (by kernel_rfl) (by simp) ?_
                refine AllReadyH.cons rfl (fun K hK => ?_) AllReadyH.nil
                go_simp
                refine (HS1.out _ G1 G2).mono ?_
                rintro e1 w1 ⟨rfl, h9⟩
                replace K6 := K6.below h9 K6.lt
                replace K7 := K7.below h9 K7.lt
                replace K8 := K8.below h9 K8.lt
                replace G1 := G1.below h9
                replace G2 := G2.below h9
                replace GB := GB.trans (h9.mono GB.size)
                clear h9
                refine hK.out _ _ ⟨GB, K6, K7, K8⟩ (fun hS => ?_)
                clear hK K
                refine wpAnyH_ready (rs := [18]) (by kernel_rfl) (by simp) ?_
                refine AllReadyH.cons rfl (fun K hK => ?_) AllReadyH.nil
                go_simp
                refine (HS2.out _ G1 G2).mono ?_
                rintro e2 w2 ⟨rfl, h9⟩
                replace K6 := K6.below h9 K6.lt
                replace K7 := K7.below h9 K7.lt
                replace K8 := K8.below h9 K8.lt
                replace G1 := G1.below h9
                replace G2 := G2.below h9
                replace GB := GB.trans (h9.mono GB.size)
                clear h9
                refine hK.out _ _ ⟨GB, K6, K7, K8⟩ (fun hS => ?_)
                clear hK K
                refine wpAnyH_take (i := 19) (v := .bool false) rfl (by kernel_rfl) (by kernel_rfl) (by kernel_rfl) (fun _ _ _ h => h) (Or.inl ⟨by kernel_rfl, fun u hSw => (by go_simp)⟩) hS ?_
                change wpAnyH _ _ _ _ _ _ _ (Act.put _ (some 63) _) _
                simp only [Act.put]
                try simp only [List.setIfInBounds_toArray, List.set_cons_zero, List.set_cons_succ]
                refine wpAnyH_take (i := 20) (v := .bool false) rfl (by kernel_rfl) (by kernel_rfl) (by kernel_rfl) (fun _ _ _ h => h) (Or.inl ⟨by kernel_rfl, fun u hSw => (by go_simp)⟩) hS ?_
                change wpAnyH _ _ _ _ _ _ _ (Act.put _ (some 64) _) _
                simp only [Act.put]
                try simp only [List.setIfInBounds_toArray, List.set_cons_zero, List.set_cons_succ]
                refine wpAnyH_take (i := 21) (v := .bool false) rfl (by kernel_rfl) (by kernel_rfl) (by kernel_rfl) (fun _ _ _ h => h) (Or.inl ⟨by kernel_rfl, fun u hSw => (by go_simp)⟩) hS ?_
                change wpAnyH _ _ _ _ _ _ _ (Act.put _ (some 65) _) _
                simp only [Act.put]
                try simp only [List.setIfInBounds_toArray, List.set_cons_zero, List.set_cons_succ]
                refine wpAnyH_take (i := 22) (v := .agg #[.slice A1 n1 c1]) rfl (by kernel_rfl) (by kernel_rfl) (by kernel_rfl) (fun _ _ _ h => h) (Or.inl ⟨by kernel_rfl, fun u hSw => (by have q0 := hSw.2.2.1.cell 0; go_simp)⟩) hS ?_
                change wpAnyH _ _ _ _ _ _ _ (Act.put _ (some 66) _) _
                simp only [Act.put]
                try simp only [List.setIfInBounds_toArray, List.set_cons_zero, List.set_cons_succ]
                refine wpAnyH_take (i := 23) (v := .agg #[.slice Ax nx cx]) rfl (by kernel_rfl) (by kernel_rfl) (by kernel_rfl) (fun _ _ _ h => h) (Or.inl ⟨by kernel_rfl, fun u hSw => (by have q0 := hSw.2.1.cell 0; go_simp)⟩) hS ?_
                change wpAnyH _ _ _ _ _ _ _ (Act.put _ (some 67) _) _
                simp only [Act.put]
                try simp only [List.setIfInBounds_toArray, List.set_cons_zero, List.set_cons_succ]
                refine wpAnyH_ready (rs := [24]) (by kernel_rfl) (by simp) ?_
                refine AllReadyH.cons rfl (fun K hK => ?_) AllReadyH.nil
                go_simp
                refine (HSh1.out _ GB).mono ?_
                rintro e3 w3 ⟨A3, c3, rfl, own3, h9⟩
                have G3 := qr_own own3 (by have := HN1.out; omega) HU1.out
                clear own3
                replace K6 := K6.below h9 K6.lt
                replace K7 := K7.below h9 K7.lt
                replace K8 := K8.below h9 K8.lt
                replace G1 := G1.below h9
                replace G2 := G2.below h9
                replace GB := GB.trans (h9.mono GB.size)
                clear h9
                refine hK.out _ _ ⟨GB, K6, K7, K8⟩ (fun hS => ?_)
                clear hK K
                refine wpAnyH_ready (rs := [25]) (by kernel_rfl) (by simp) ?_
                refine AllReadyH.cons rfl (fun K hK => ?_) AllReadyH.nil
                go_simp
                refine (HS3.out _ _ _ G1 G3).mono ?_
                rintro e4 w4 ⟨rfl, h9⟩
                replace K6 := K6.below h9 K6.lt
                replace K7 := K7.below h9 K7.lt
                replace K8 := K8.below h9 K8.lt
                replace G1 := G1.below h9
                replace G2 := G2.below h9
                replace G3 := G3.below h9
                replace GB := GB.trans (h9.mono GB.size)
                clear h9
                refine hK.out _ _ ⟨GB, K6, K7, K8⟩ (fun hS => ?_)
                clear hK K
                refine wpAnyH_take (i := 26) (v := .bool false) rfl (by kernel_rfl) (by kernel_rfl) (by kernel_rfl) (fun _ _ _ h => h) (Or.inl ⟨by kernel_rfl, fun u hSw => (by go_simp)⟩) hS ?_
                change wpAnyH _ _ _ _ _ _ _ (Act.put _ (some 70) _) _
                simp only [Act.put]
                try simp only [List.setIfInBounds_toArray, List.set_cons_zero, List.set_cons_succ]
                refine wpAnyH_take (i := 27) (v := .bool false) rfl (by kernel_rfl) (by kernel_rfl) (by kernel_rfl) (fun _ _ _ h => h) (Or.inl ⟨by kernel_rfl, fun u hSw => (by go_simp)⟩) hS ?_
                change wpAnyH _ _ _ _ _ _ _ (Act.put _ (some 71) _) _
                simp only [Act.put]
                try simp only [List.setIfInBounds_toArray, List.set_cons_zero, List.set_cons_succ]
                refine wpAnyH_done (by kernel_rfl) ?_ _
                clear hS
                go_wp2_with fail
                go_meet
                exact ⟨rfl, K7, G1, GB⟩
              case rest =>
                clear K6 K7 K8 G1 G2 GB HS1 HS2 HS3 HSh1 HSh2
                obtain ⟨rfl, K7, G1, GB⟩ := hcut
                rename World => X4
                have HTo := Lib.hid (fun (u : World) (hq : QR u A1 n1 c1 q1) => top_any A1 n1 c1 q1 u hq (by have := HN1.out; omega))
                have HrT := Lib.hid (fun (u : World) (hq : QR u A1 n1 c1 q1) => rtop_any A1 n1 c1 q1 u hq)
                rw [top_rtop hr G1.len] at HTo
                obtain ⟨⟨o1, o2, o3⟩, ho⟩ : ∃ o, rtop q1 n1 = o := ⟨_, rfl⟩
                obtain ⟨tb, htb⟩ : ∃ b, decide (0 < n1) = b := ⟨_, rfl⟩
                rw [ho, htb] at HrT
                rw [ho, htb] at HTo
                unfold fr at HTo HrT
                have v1 : ((o1 : Int) != (o1 : Int)) = false := by simp
                have v2 : ((o2 : Int) != (o2 : Int)) = false := by simp
                have v3 : ((o3 : Int) != (o3 : Int)) = false := by simp
                have v4 : ((o1 : Int) == (o1 : Int)) = true := by simp
                have v5 : ((o2 : Int) == (o2 : Int)) = true := by simp
                have v6 : ((o3 : Int) == (o3 : Int)) = true := by simp
                have v7 : (tb != tb) = false := by cases tb <;> rfl
                have v8 : (tb == tb) = true := by cases tb <;> rfl
                have HX1 := Lib.hid (HTo.out _ G1)
                clear ho htb HTo
                have z0 := K7.cell 0
                go_wp2_with fail
                refine HX1.out.mono ?_
                rintro e9 wc ⟨rfl, h9⟩
                clear z0 HX1
                replace K7 := K7.below h9 K7.lt
                replace G1 := G1.below h9
                replace GB := GB.trans (h9.mono GB.size)
                clear h9
                have K11 := Blk.new wc 36 #[.int .u64 (o1 : Int), .int .u64 (o2 : Int), .int .u64 (o3 : Int)]
                replace K7 := K7.alloc (.cells #[.int .u64 (o1 : Int), .int .u64 (o2 : Int), .int .u64 (o3 : Int)] 36)
                replace G1 := G1.below ((Below.refl _ _).alloc (Nat.le_refl _) (.cells #[.int .u64 (o1 : Int), .int .u64 (o2 : Int), .int .u64 (o3 : Int)] 36))
                replace GB := GB.alloc GB.size (.cells #[.int .u64 (o1 : Int), .int .u64 (o2 : Int), .int .u64 (o3 : Int)] 36)
                have HX2 := Lib.hid (HrT.out _ G1)
                have z0 := K7.cell 0
                go_wp2_with fail
                refine HX2.out.mono ?_
                rintro e9 wd ⟨rfl, h9⟩
                clear z0 HX2 HrT
                replace K7 := K7.below h9 K7.lt
                replace K11 := K11.below h9 K11.lt
                replace G1 := G1.below h9
                replace GB := GB.trans (h9.mono GB.size)
                clear h9
                have K13 := Blk.new wd 36 #[.int .u64 (o1 : Int), .int .u64 (o2 : Int), .int .u64 (o3 : Int)]
                replace K7 := K7.alloc (.cells #[.int .u64 (o1 : Int), .int .u64 (o2 : Int), .int .u64 (o3 : Int)] 36)
                replace K11 := K11.alloc (.cells #[.int .u64 (o1 : Int), .int .u64 (o2 : Int), .int .u64 (o3 : Int)] 36)
                replace G1 := G1.below ((Below.refl _ _).alloc (Nat.le_refl _) (.cells #[.int .u64 (o1 : Int), .int .u64 (o2 : Int), .int .u64 (o3 : Int)] 36))
                replace GB := GB.alloc GB.size (.cells #[.int .u64 (o1 : Int), .int .u64 (o2 : Int), .int .u64 (o3 : Int)] 36)
                have z0 := K11.cell 0
                have z1 := K11.cell 1
                have z2 := K11.cell 2
                have y0 := K13.cell 0
                have y1 := K13.cell 1
                have y2 := K13.cell 2
                have HX := Lib.hid (And.intro K7 (And.intro G1 GB))
                clear K7 K11 K13 G1 GB
                go_wp2_with fail
                clear z0 z1 z2 y0 y1 y2 v1 v2 v3 v4 v5 v6
                go_loopw [105] (fun iv wr => ∃ i : Nat, i ≤ 18 ∧ iv = .int .i64 (i : Int) ∧ Blk wr g7 26 #[.slice A1 n1 c1] ∧ QR wr A1 n1 c1 q1 ∧ Below w.heap.size w wr) (fun iv _ => 18 - (intOf iv).toNat)
                case atStart => exact ⟨0, by omega, rfl, HX.out.1, HX.out.2.1, HX.out.2.2⟩
                case round =>
                  obtain ⟨i, hi, rfl, K7, G1, GB⟩ := hrel
                  by_cases hit : i < 18
                  · have HGe := Lib.hid (fun (u : World) (hq : QR u A1 n1 c1 q1) => get_any A1 n1 c1 q1 (i : Int) u hq)
                    have HrG := Lib.hid (fun (u : World) (hq : QR u A1 n1 c1 q1) => rget_any A1 n1 c1 q1 (i : Int) u hq)
                    rw [get_right hr] at HGe
                    obtain ⟨⟨⟨e1, e2, e3, e4, e5⟩, gb⟩, hg⟩ : ∃ x, rgetQ q1 (i : Int) = x := ⟨_, rfl⟩
                    rw [hg] at HrG
                    rw [hg] at HGe
                    unfold agR at HGe HrG
                    have u1 : (e1 != e1) = false := by simp
                    have u2 : (e2 != e2) = false := by simp
                    have u3 : ((e3 : Int) != (e3 : Int)) = false := by simp
                    have u4 : ((e4 : Int) != (e4 : Int)) = false := by simp
                    have u5 : ((e5 : Int) != (e5 : Int)) = false := by simp
                    have u6 : (gb != gb) = false := by cases gb <;> rfl
                    have u7 : (gb == gb) = true := by cases gb <;> rfl
                    have HX1 := Lib.hid (HGe.out _ G1)
                    have Hit := Lib.hid hit
                    have z0 := K7.cell 0
                    clear hg HGe
                    go_wp2_with fail
                    refine HX1.out.mono ?_
                    rintro e9 wc ⟨rfl, h9⟩
                    clear z0 HX1
                    replace K7 := K7.below h9 K7.lt
                    replace G1 := G1.below h9
                    replace GB := GB.trans (h9.mono GB.size)
                    clear h9
                    have K16 := Blk.new wc 40 #[.int .i64 e1, .int .i64 e2, .int .u64 (e3 : Int), .int .u64 (e4 : Int), .int .u64 (e5 : Int)]
                    replace K7 := K7.alloc (.cells #[.int .i64 e1, .int .i64 e2, .int .u64 (e3 : Int), .int .u64 (e4 : Int), .int .u64 (e5 : Int)] 40)
                    replace G1 := G1.below ((Below.refl _ _).alloc (Nat.le_refl _) (.cells #[.int .i64 e1, .int .i64 e2, .int .u64 (e3 : Int), .int .u64 (e4 : Int), .int .u64 (e5 : Int)] 40))
                    replace GB := GB.alloc GB.size (.cells #[.int .i64 e1, .int .i64 e2, .int .u64 (e3 : Int), .int .u64 (e4 : Int), .int .u64 (e5 : Int)] 40)
                    have HX2 := Lib.hid (HrG.out _ G1)
                    have z0 := K7.cell 0
                    go_wp2_with fail
                    refine HX2.out.mono ?_
                    rintro e9 wd ⟨rfl, h9⟩
                    clear z0 HX2 HrG
                    replace K7 := K7.below h9 K7.lt
                    replace K16 := K16.below h9 K16.lt
                    replace G1 := G1.below h9
                    replace GB := GB.trans (h9.mono GB.size)
                    clear h9
                    have K18 := Blk.new wd 40 #[.int .i64 e1, .int .i64 e2, .int .u64 (e3 : Int), .int .u64 (e4 : Int), .int .u64 (e5 : Int)]
                    replace K7 := K7.alloc (.cells #[.int .i64 e1, .int .i64 e2, .int .u64 (e3 : Int), .int .u64 (e4 : Int), .int .u64 (e5 : Int)] 40)
                    replace K16 := K16.alloc (.cells #[.int .i64 e1, .int .i64 e2, .int .u64 (e3 : Int), .int .u64 (e4 : Int), .int .u64 (e5 : Int)] 40)
                    replace G1 := G1.below ((Below.refl _ _).alloc (Nat.le_refl _) (.cells #[.int .i64 e1, .int .i64 e2, .int .u64 (e3 : Int), .int .u64 (e4 : Int), .int .u64 (e5 : Int)] 40))
                    replace GB := GB.alloc GB.size (.cells #[.int .i64 e1, .int .i64 e2, .int .u64 (e3 : Int), .int .u64 (e4 : Int), .int .u64 (e5 : Int)] 40)
                    have z0 := K16.cell 0
                    have z1 := K16.cell 1
                    have z2 := K16.cell 2
                    have z3 := K16.cell 3
                    have z4 := K16.cell 4
                    have y0 := K18.cell 0
                    have y1 := K18.cell 1
                    have y2 := K18.cell 2
                    have y3 := K18.cell 3
                    have y4 := K18.cell 4
                    have HXe := Lib.hid (And.intro K7 (And.intro G1 GB))
                    clear K7 K16 K18 G1 GB
                    go_wp2_with fail
                    go_roundw
                    case rel => exact ⟨i + 1, Hit.out, by go_num, HXe.out.1, HXe.out.2.1, HXe.out.2.2⟩
                    case measure => have := Hit.out; simp [intOf] <;> omega
                  · obtain rfl : i = 18 := by omega
                    have hk8' : k < 8 := Hk.out.2
                    have HXe := Lib.hid GB
                    clear K7 G1 GB hit hi
                    go_wp2_with fail
                    go_roundw
                    case rel => exact ⟨k + 1, Hk.out.1, by omega, by go_num, HXe.out⟩
                    case measure => have := Hk.out; simp [intOf] <;> omega
      · obtain rfl : k = n := by omega
        go_wp2_with fail
        go_meet
        exact hB
  case rest =>
    clear GB
    have GB := hcut
    rename World => X
    go_wp2_with fail
    go_loopw [147] (fun iv wr => ∃ k : Nat, k ≤ m ∧ k ≤ 12 ∧ iv = .int .i64 (k : Int) ∧ Below w.heap.size w wr) (fun iv _ => m - (intOf iv).toNat)
    case atStart => exact ⟨0, Nat.zero_le _, by omega, rfl, GB⟩
    case round =>
      clear GB
      obtain ⟨k, hk, hk8, rfl, hB⟩ := hrel
      by_cases hlt : k < m
      · have hlr := rns_len HR.out
        obtain ⟨⟨a, b, h, l, x⟩, hx⟩ := elem_at (l := rs) (k := k) (by rw [hlr]; exact hlt)
        obtain ⟨ad, rfl, hb1, d0, d1, d2, d3, d4⟩ := rn_at (HR.out.below hB) hx
        have hu := HU.out _ (List.mem_of_getElem? hx)
        have i1 : (0 : Int) ≤ (k : Int) := by omega
        have i2 : (k : Int) < (m : Int) := by omega
        by_cases h8 : k = 12
        · have e8 : ((k : Int) == 12) = true := by simp; omega
          have HE := Lib.hid (hB.alloc hB.size (.cells #[.int .i64 a, .int .i64 b, .int .u64 (h : Int), .int .u64 (l : Int), .int .u64 (x : Int)] 40))
          clear hx hb1 hB h8 hlt hk hk8 hu hlr
          go_wp2_with fail
          go_ret
          exact ⟨rfl, HE.out⟩
        · have e8 : ((k : Int) == 12) = false := by simp; omega
          have HCk := Lib.hid (fun (u : World) => checkr_any a b h l x u hu)
          have HRr := Lib.hid (fun (u : World) => rrunner_any a b h l x u hu)
          unfold chkR at HCk
          have K21 := Blk.new wr 40 #[.int .i64 a, .int .i64 b, .int .u64 (h : Int), .int .u64 (l : Int), .int .u64 (x : Int)]
          have hsz := hB.size
          replace hB := hB.alloc hsz (.cells #[.int .i64 a, .int .i64 b, .int .u64 (h : Int), .int .u64 (l : Int), .int .u64 (x : Int)] 40)
          have Hk := Lib.hid (And.intro hlt (show k + 1 ≤ 12 by omega))
          have hk20 : k < 20 := by omega
          clear hx hb1 hu hlr h8 hlt hk hk8
          go_upto_region 29 with fail
          obtain ⟨Y, hY⟩ : ∃ Y, wr.alloc (.cells #[.int .i64 a, .int .i64 b, .int .u64 (h : Int), .int .u64 (l : Int), .int .u64 (x : Int)] 40) = Y := ⟨_, rfl⟩
          obtain ⟨g21, hg21⟩ : ∃ j, wr.heap.size = j := ⟨_, rfl⟩
          rw [hY] at K21 hB ⊢
          rw [hg21] at K21 ⊢
          clear hY hg21 d0 d1 d2 d3 d4 hsz
          have z0 := K21.cell 0
          have z1 := K21.cell 1
          have z2 := K21.cell 2
          have z3 := K21.cell 3
          have z4 := K21.cell 4
          cases hr : rightR (a, b, h, l, x) with
          | false =>
            rw [hr] at HRr
            rw [hr, if_neg (by decide)] at HCk
            clear hr
            go_wp2_with fail
            refine (HCk.out _).mono ?_
            rintro e9 w8 ⟨rfl, h9⟩
            replace K21 := K21.below h9 K21.lt
            replace hB := hB.trans (h9.mono hB.size)
            clear h9 z0 z1 z2 z3 z4
            have z0 := K21.cell 0
            have z1 := K21.cell 1
            have z2 := K21.cell 2
            have z3 := K21.cell 3
            have z4 := K21.cell 4
            go_wp2_with fail
            refine (HRr.out _).mono ?_
            rintro e9 w9 ⟨rfl, h9⟩
            replace hB := hB.trans (h9.mono hB.size)
            clear h9 z0 z1 z2 z3 z4 K21
            have Hx := Lib.hid hB
            clear hB
            go_wp2_with fail
            go_roundw
            case rel => exact ⟨k + 1, Hk.out.1, Hk.out.2, by go_num, Hx.out⟩
            case measure => have := Hk.out; simp [intOf] <;> omega
          | true =>
            rw [hr] at HRr
            rw [hr, if_pos rfl] at HCk
            clear hr
            go_wp2_with fail
            refine (HCk.out _).mono ?_
            rintro e9 w8 ⟨rfl, h9⟩
            replace K21 := K21.below h9 K21.lt
            replace hB := hB.trans (h9.mono hB.size)
            clear h9 z0 z1 z2 z3 z4
            have z0 := K21.cell 0
            have z1 := K21.cell 1
            have z2 := K21.cell 2
            have z3 := K21.cell 3
            have z4 := K21.cell 4
            go_wp2_with fail
            refine (HRr.out _).mono ?_
            rintro e9 w9 ⟨rfl, h9⟩
            replace hB := hB.trans (h9.mono hB.size)
            clear h9 z0 z1 z2 z3 z4 K21
            have Hx := Lib.hid hB
            clear hB
            go_wp2_with fail
            go_roundw
            case rel => exact ⟨k + 1, Hk.out.1, Hk.out.2, by go_num, Hx.out⟩
            case measure => have := Hk.out; simp [intOf] <;> omega
      · obtain rfl : k = m := by omega
        have HE := Lib.hid hB
        clear hB
        go_wp2
        go_ret
        exact ⟨rfl, HE.out⟩

end Go.Proofs.Ytfgabmelmopgdaa
