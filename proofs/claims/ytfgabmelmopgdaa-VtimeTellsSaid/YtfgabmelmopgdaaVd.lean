/-
  The landed vtime: unfound, Get. No statement is proved here.
-/
import Derived.Test.YtfgabmelmopgdaaVc
import Derived.Deep.DeepCutAuto
namespace Go.Proofs.Ytfgabmelmopgdaa
open Go.RowKit

theorem put1 {w w1 : World} {g b : Nat} {t : TypeId} {p x : Value} (K : Blk w1 g t #[p]) (B : Below b w w1) (hg : b ≤ g) : Blk (w1.setCell ⟨g, 0, none⟩ x) g t #[x] ∧ Below b w (w1.setCell ⟨g, 0, none⟩ x) := by
  refine ⟨?_, B.setCell (p := ⟨g, 0, none⟩) hg x⟩
  have := K.set_ 0 x
  simpa using this
theorem put5 {w w1 : World} {g b : Nat} {t : TypeId} {p1 p2 p3 p4 p5 x y z p q : Value} (K : Blk w1 g t #[p1, p2, p3, p4, p5]) (B : Below b w w1) (hg : b ≤ g) :
    Blk (((((w1.setCell ⟨g, 0, none⟩ x).setCell ⟨g, 1, none⟩ y).setCell ⟨g, 2, none⟩ z).setCell ⟨g, 3, none⟩ p).setCell ⟨g, 4, none⟩ q) g t #[x, y, z, p, q] ∧
    Below b w (((((w1.setCell ⟨g, 0, none⟩ x).setCell ⟨g, 1, none⟩ y).setCell ⟨g, 2, none⟩ z).setCell ⟨g, 3, none⟩ p).setCell ⟨g, 4, none⟩ q) := by
  refine ⟨?_, ((((B.setCell (p := ⟨g, 0, none⟩) hg x).setCell (p := ⟨g, 1, none⟩) hg y).setCell (p := ⟨g, 2, none⟩) hg z).setCell (p := ⟨g, 3, none⟩) hg p).setCell (p := ⟨g, 4, none⟩) hg q⟩
  have := ((((K.set_ 0 x).set_ 1 y).set_ 2 z).set_ 3 p).set_ 4 q
  simpa using this

set_option maxRecDepth 100000 in
set_option maxHeartbeats 8000000 in
theorem unfound_any (A : Option Addr) (n c : Nat) (qs : List Rn) (fits : Bool) (A2 : Option Addr) (n2 c2 : Nat) (is : List Int) (w : World) (hG : QR w A n c qs) (hI : IR w A2 n2 is) :
    Calls Try.prog 38 #[.agg #[.slice A n c], .bool fits, .slice A2 n2 c2] w (Said (.int .i64 (unfoundQ qs fits is)) w) := by
  obtain ⟨K0, GB⟩ := box1 w 26 #[.slice A n c]
  have HRi := Lib.hid (fun (u : World) (h : Below w.heap.size w u) => rise_any A2 n2 c2 is u (hI.below h))
  have HG := Lib.hid hG
  have HI := Lib.hid hI
  cases fits with
  | false =>
    have HUn := Lib.hid (fun (u : World) (h : Below w.heap.size w u) => unfit_any A n c qs false u (HG.out.below h))
    have hV : unfitQ qs false = unfoundQ qs false is := by
      unfold unfitQ unfoundQ
      split <;> rfl
    have hne : unfitQ qs false ≠ 0 := by
      unfold unfitQ
      split <;> decide
    obtain ⟨E, hE⟩ : ∃ E, unfitQ qs false = E := ⟨_, rfl⟩
    rw [hE] at HUn hV hne
    rw [← hV]
    have e0 : (E != 0) = true := by simpa using hne
    clear hE hV hne hG hI HRi
    go_enter Try.func38, Try.ntmps38
    go_upto_region 1 with fail
    obtain ⟨W2, hW2⟩ : ∃ W2, w.alloc (.cells #[.slice A n c] 26) = W2 := ⟨_, rfl⟩
    rw [hW2] at K0 GB ⊢
    clear hW2
    replace K0 : Blk W2.drew _ _ _ := K0
    replace GB := GB.drew
    refine wp_region_held_drew (S := fun u => Below w.heap.size w u ∧ Blk u w.heap.size 26 #[.slice A n c]) (by kernel_rfl) ⟨GB, K0⟩ (fun hS => ?_)
    generalize W2.drew = V at K0 GB hS ⊢
    refine wpAnyH_take (i := 0) (v := .agg #[.slice A n c]) rfl (by kernel_rfl) (by kernel_rfl) (by kernel_rfl) (fun _ _ _ h => h) (Or.inl ⟨by kernel_rfl, fun u hSw => (by have q0 := hSw.2.cell 0; go_simp)⟩) hS ?_
    change wpAnyH _ _ _ _ _ _ _ (Act.put _ (some 12) _) _
    simp only [Act.put]
    refine wpAnyH_take (i := 1) (v := .bool false) rfl (by kernel_rfl) (by kernel_rfl) (by kernel_rfl) (fun _ _ _ h => h) (Or.inl ⟨by kernel_rfl, fun u hSw => (by go_simp)⟩) hS ?_
    change wpAnyH _ _ _ _ _ _ _ (Act.put _ (some 13) _) _
    simp only [Act.put]
    refine wpAnyH_take (i := 2) (v := .bool false) rfl (by kernel_rfl) (by kernel_rfl) (by kernel_rfl) (fun _ _ _ h => h) (Or.inl ⟨by kernel_rfl, fun u hSw => (by go_simp)⟩) hS ?_
    change wpAnyH _ _ _ _ _ _ _ (Act.put _ (some 14) _) _
    simp only [Act.put]
    refine wpAnyH_take (i := 3) (v := undef) rfl (by kernel_rfl) (by kernel_rfl) (by kernel_rfl) (fun _ _ _ h => h) (Or.inr ⟨by kernel_rfl, rfl⟩) hS ?_
    change wpAnyH _ _ _ _ _ _ _ (Act.put _ (some 15) _) _
    simp only [Act.put]
    refine wpAnyH_take (i := 4) (v := undef) rfl (by kernel_rfl) (by kernel_rfl) (by kernel_rfl) (fun _ _ _ h => h) (Or.inr ⟨by kernel_rfl, rfl⟩) hS ?_
    change wpAnyH _ _ _ _ _ _ _ (Act.put _ (some 16) _) _
    simp only [Act.put]
    refine wpAnyH_take (i := 5) (v := .bool false) rfl (by kernel_rfl) (by kernel_rfl) (by kernel_rfl) (fun _ _ _ h => h) (Or.inl ⟨by kernel_rfl, fun u hSw => (by go_simp)⟩) hS ?_
    change wpAnyH _ _ _ _ _ _ _ (Act.put _ (some 17) _) _
    simp only [Act.put]
    refine wpAnyH_ready (rs := [6]) (by kernel_rfl) (by simp) ?_
    refine AllReadyH.cons rfl (fun K hK => ?_) AllReadyH.nil
    go_simp
    refine (HUn.out _ GB).mono ?_
    rintro e1 w1 ⟨rfl, h9⟩
    replace K0 := K0.below h9 K0.lt
    replace GB := GB.trans (h9.mono GB.size)
    clear h9
    refine hK.out _ _ ⟨GB, K0⟩ (fun hS => ?_)
    clear hK K
    refine wpAnyH_take (i := 7) (v := .int .i64 E) rfl (by kernel_rfl) (by kernel_rfl) (by kernel_rfl) (fun _ _ _ h => h) (Or.inl ⟨by kernel_rfl, fun u hSw => (by go_simp)⟩) hS ?_
    change wpAnyH _ _ _ _ _ _ _ (Act.put _ (some 7) _) _
    simp only [Act.put]
    refine wpAnyH_done (by kernel_rfl) ?_ _
    clear hS
    go_simp
    go_wp2_with fail
    go_ret
    exact ⟨rfl, GB⟩
  | true =>
    obtain ⟨bb, hbb⟩ : ∃ b, riseI 0 is = b := ⟨_, rfl⟩
    have HUn := Lib.hid (fun (u : World) (h : Below w.heap.size w u) => unfit_any A n c qs bb u (HG.out.below h))
    rw [hbb] at HRi
    obtain ⟨E, hE⟩ : ∃ E, unfitQ qs bb = E := ⟨_, rfl⟩
    rw [hE] at HUn
    by_cases hz : E = 0
    · subst hz
      have hq : rightQ qs = true ∧ bb = true := by
        unfold unfitQ at hE
        cases h1 : rightQ qs <;> cases bb <;> simp [h1] at hE ⊢
      have HS := Lib.hid (rightQ_iff.1 hq.1).rise
      have HV : Hid (unfoundQ qs true is = if is.all (fun i => (kf qs i).isSome) = true then 0 else 4) := Lib.hid (by
        unfold unfoundQ
        rw [hbb, hq.1, hq.2]
        rfl)
      have HL := Lib.hid hI.len
      have n9 := hI.small
      obtain ⟨E, hz⟩ : ∃ E : Int, E = 0 := ⟨0, rfl⟩
      rw [← hz] at HUn
      have e0 : (E != 0) = false := by rw [hz]; rfl
      clear hE hbb hq hG hI hz
      go_enter Try.func38, Try.ntmps38
      go_upto_region 1 with fail
      obtain ⟨W2, hW2⟩ : ∃ W2, w.alloc (.cells #[.slice A n c] 26) = W2 := ⟨_, rfl⟩
      rw [hW2] at K0 GB ⊢
      clear hW2
      replace K0 : Blk W2.drew _ _ _ := K0
      replace GB := GB.drew
      refine wp_region_held_drew (S := fun u => Below w.heap.size w u ∧ Blk u w.heap.size 26 #[.slice A n c]) (by kernel_rfl) ⟨GB, K0⟩ (fun hS => ?_)
      generalize W2.drew = V at K0 GB hS ⊢
      refine wpAnyH_take (i := 0) (v := .agg #[.slice A n c]) rfl (by kernel_rfl) (by kernel_rfl) (by kernel_rfl) (fun _ _ _ h => h) (Or.inl ⟨by kernel_rfl, fun u hSw => (by have q0 := hSw.2.cell 0; go_simp)⟩) hS ?_
      change wpAnyH _ _ _ _ _ _ _ (Act.put _ (some 12) _) _
      simp only [Act.put]
      refine wpAnyH_take (i := 1) (v := .bool true) rfl (by kernel_rfl) (by kernel_rfl) (by kernel_rfl) (fun _ _ _ h => h) (Or.inl ⟨by kernel_rfl, fun u hSw => (by go_simp)⟩) hS ?_
      change wpAnyH _ _ _ _ _ _ _ (Act.put _ (some 13) _) _
      simp only [Act.put]
      refine wpAnyH_take (i := 2) (v := .bool true) rfl (by kernel_rfl) (by kernel_rfl) (by kernel_rfl) (fun _ _ _ h => h) (Or.inl ⟨by kernel_rfl, fun u hSw => (by go_simp)⟩) hS ?_
      change wpAnyH _ _ _ _ _ _ _ (Act.put _ (some 14) _) _
      simp only [Act.put]
      refine wpAnyH_take (i := 3) (v := .slice A2 n2 c2) rfl (by kernel_rfl) (by kernel_rfl) (by kernel_rfl) (fun _ _ _ h => h) (Or.inl ⟨by kernel_rfl, fun u hSw => (by go_simp)⟩) hS ?_
      change wpAnyH _ _ _ _ _ _ _ (Act.put _ (some 15) _) _
      simp only [Act.put]
      refine wpAnyH_ready (rs := [4]) (by kernel_rfl) (by simp) ?_
      refine AllReadyH.cons rfl (fun K hK => ?_) AllReadyH.nil
      go_simp
      refine (HRi.out _ GB).mono ?_
      rintro e1 w1 ⟨rfl, rfl⟩
      refine hK.out _ _ ⟨GB, K0⟩ (fun hS => ?_)
      clear hK K
      refine wpAnyH_take (i := 5) (v := .bool bb) rfl (by kernel_rfl) (by kernel_rfl) (by kernel_rfl) (fun _ _ _ h => h) (Or.inl ⟨by kernel_rfl, fun u hSw => (by go_simp)⟩) hS ?_
      change wpAnyH _ _ _ _ _ _ _ (Act.put _ (some 17) _) _
      simp only [Act.put]
      refine wpAnyH_ready (rs := [6]) (by kernel_rfl) (by simp) ?_
      refine AllReadyH.cons rfl (fun K hK => ?_) AllReadyH.nil
      go_simp
      refine (HUn.out _ GB).mono ?_
      rintro e2 w2 ⟨rfl, h9⟩
      replace K0 := K0.below h9 K0.lt
      replace GB := GB.trans (h9.mono GB.size)
      clear h9
      refine hK.out _ _ ⟨GB, K0⟩ (fun hS => ?_)
      clear hK K
      refine wpAnyH_take (i := 7) (v := .int .i64 E) rfl (by kernel_rfl) (by kernel_rfl) (by kernel_rfl) (fun _ _ _ h => h) (Or.inl ⟨by kernel_rfl, fun u hSw => (by go_simp)⟩) hS ?_
      change wpAnyH _ _ _ _ _ _ _ (Act.put _ (some 7) _) _
      simp only [Act.put]
      refine wpAnyH_done (by kernel_rfl) ?_ _
      clear hS
      go_simp
      clear HUn HRi
      go_wp2_with fail
      go_loopw [24] (fun i wr => ∃ k : Nat, k ≤ n2 ∧ i = .int .i64 (k : Int) ∧ Hid ((is.take k).all (fun i => (kf qs i).isSome) = true) ∧ Blk wr w.heap.size 26 #[.slice A n c] ∧ Below w.heap.size w wr) (fun i _ => n2 - (intOf i).toNat)
      case atStart => exact ⟨0, Nat.zero_le _, rfl, Lib.hid rfl, K0, GB⟩
      case round =>
        clear K0 GB
        obtain ⟨k, hk, rfl, HA, K0, GB⟩ := hrel
        by_cases hlt : k < n2
        · obtain ⟨i, hx⟩ := elem_at (l := is) (k := k) (by rw [HL.out]; exact hlt)
          obtain ⟨ad, rfl, hb, c0⟩ := (HI.out.below GB).at_ hx
          have HX := Lib.hid hx
          have j0 : (0 : Int) ≤ (k : Int) := by omega
          have j1 : (k : Int) < (n2 : Int) := by omega
          have HFi := Lib.hid (fun (u : World) (h : Below w.heap.size w u) => find_any A n c qs i u (HG.out.below h).row HS.out HG.out.small)
          have z0 := K0.cell 0
          clear hx
          cases hf : (kf qs i).isSome with
          | false =>
            rw [hf] at HFi
            have HE : Hid (unfoundQ qs true is = 4) := Lib.hid (by
              rw [HV.out, if_neg]
              intro h
              have := List.all_eq_true.1 h i (List.mem_of_getElem? HX.out)
              rw [hf] at this
              cases this)
            clear hf
            go_wp2_with fail
            refine (HFi.out _ GB).mono ?_
            rintro e w1 ⟨rfl, h9⟩
            replace GB := GB.trans (h9.mono GB.size)
            clear h9 z0 K0
            go_wp2
            go_ret
            exact ⟨retI HE.out.symm, GB⟩
          | true =>
            rw [hf] at HFi
            have HE : Hid ((is.take (k + 1)).all (fun i => (kf qs i).isSome) = true) := Lib.hid (by
              rw [List.take_add_one, HX.out, List.all_append, HA.out]
              simp [hf])
            clear hf
            go_wp2_with fail
            refine (HFi.out _ GB).mono ?_
            rintro e w1 ⟨rfl, h9⟩
            replace K0 := K0.below h9 K0.lt
            replace GB := GB.trans (h9.mono GB.size)
            clear h9 z0
            go_wp2
            go_roundw
            case rel => exact ⟨k + 1, by omega, by go_num, HE, K0, GB⟩
            case measure => simp [intOf] <;> omega
        · obtain rfl : k = n2 := by omega
          have HE : Hid (unfoundQ qs true is = 0) := Lib.hid (by
            have := HA.out
            rw [← HL.out, List.take_length] at this
            rw [HV.out, if_pos this])
          go_wp2
          go_ret
          exact ⟨retI HE.out.symm, GB⟩
    · have hV : E = unfoundQ qs true is := by
        rw [← hE]
        unfold unfitQ unfoundQ
        unfold unfitQ at hE
        rw [hbb]
        cases h1 : rightQ qs <;> cases bb <;> simp [h1] at hE ⊢
        omega
      have e0 : (E != 0) = true := by simpa using hz
      rw [← hV]
      clear hE hbb hz hV hG hI
      go_enter Try.func38, Try.ntmps38
      go_upto_region 1 with fail
      obtain ⟨W2, hW2⟩ : ∃ W2, w.alloc (.cells #[.slice A n c] 26) = W2 := ⟨_, rfl⟩
      rw [hW2] at K0 GB ⊢
      clear hW2
      replace K0 : Blk W2.drew _ _ _ := K0
      replace GB := GB.drew
      refine wp_region_held_drew (S := fun u => Below w.heap.size w u ∧ Blk u w.heap.size 26 #[.slice A n c]) (by kernel_rfl) ⟨GB, K0⟩ (fun hS => ?_)
      generalize W2.drew = V at K0 GB hS ⊢
      refine wpAnyH_take (i := 0) (v := .agg #[.slice A n c]) rfl (by kernel_rfl) (by kernel_rfl) (by kernel_rfl) (fun _ _ _ h => h) (Or.inl ⟨by kernel_rfl, fun u hSw => (by have q0 := hSw.2.cell 0; go_simp)⟩) hS ?_
      change wpAnyH _ _ _ _ _ _ _ (Act.put _ (some 12) _) _
      simp only [Act.put]
      refine wpAnyH_take (i := 1) (v := .bool true) rfl (by kernel_rfl) (by kernel_rfl) (by kernel_rfl) (fun _ _ _ h => h) (Or.inl ⟨by kernel_rfl, fun u hSw => (by go_simp)⟩) hS ?_
      change wpAnyH _ _ _ _ _ _ _ (Act.put _ (some 13) _) _
      simp only [Act.put]
      refine wpAnyH_take (i := 2) (v := .bool true) rfl (by kernel_rfl) (by kernel_rfl) (by kernel_rfl) (fun _ _ _ h => h) (Or.inl ⟨by kernel_rfl, fun u hSw => (by go_simp)⟩) hS ?_
      change wpAnyH _ _ _ _ _ _ _ (Act.put _ (some 14) _) _
      simp only [Act.put]
      refine wpAnyH_take (i := 3) (v := .slice A2 n2 c2) rfl (by kernel_rfl) (by kernel_rfl) (by kernel_rfl) (fun _ _ _ h => h) (Or.inl ⟨by kernel_rfl, fun u hSw => (by go_simp)⟩) hS ?_
      change wpAnyH _ _ _ _ _ _ _ (Act.put _ (some 15) _) _
      simp only [Act.put]
      refine wpAnyH_ready (rs := [4]) (by kernel_rfl) (by simp) ?_
      refine AllReadyH.cons rfl (fun K hK => ?_) AllReadyH.nil
      go_simp
      refine (HRi.out _ GB).mono ?_
      rintro e1 w1 ⟨rfl, rfl⟩
      refine hK.out _ _ ⟨GB, K0⟩ (fun hS => ?_)
      clear hK K
      refine wpAnyH_take (i := 5) (v := .bool bb) rfl (by kernel_rfl) (by kernel_rfl) (by kernel_rfl) (fun _ _ _ h => h) (Or.inl ⟨by kernel_rfl, fun u hSw => (by go_simp)⟩) hS ?_
      change wpAnyH _ _ _ _ _ _ _ (Act.put _ (some 17) _) _
      simp only [Act.put]
      refine wpAnyH_ready (rs := [6]) (by kernel_rfl) (by simp) ?_
      refine AllReadyH.cons rfl (fun K hK => ?_) AllReadyH.nil
      go_simp
      refine (HUn.out _ GB).mono ?_
      rintro e2 w2 ⟨rfl, h9⟩
      replace K0 := K0.below h9 K0.lt
      replace GB := GB.trans (h9.mono GB.size)
      clear h9
      refine hK.out _ _ ⟨GB, K0⟩ (fun hS => ?_)
      clear hK K
      refine wpAnyH_take (i := 7) (v := .int .i64 E) rfl (by kernel_rfl) (by kernel_rfl) (by kernel_rfl) (fun _ _ _ h => h) (Or.inl ⟨by kernel_rfl, fun u hSw => (by go_simp)⟩) hS ?_
      change wpAnyH _ _ _ _ _ _ _ (Act.put _ (some 7) _) _
      simp only [Act.put]
      refine wpAnyH_done (by kernel_rfl) ?_ _
      clear hS
      go_simp
      go_wp2_with fail
      go_ret
      exact ⟨rfl, GB⟩

theorem get_yes {qs : List Rn} {i : Int} {r : Rn} (hr : rightQ qs = true) (hk : kf qs i = some r) : unfoundQ qs true [i] = 0 ∧ getQ qs i = (r, true) := by
  have hR := rightQ_iff.1 hr
  have h1 := rightR_iff.1 (hR.get hk)
  have h2 := kf_id hk
  refine ⟨?_, ?_⟩
  · unfold unfoundQ riseI riseI
    rw [hr, show decide ((0 : Int) < i) = true from decide_eq_true (by omega), show decide (i ≤ 16) = true from decide_eq_true (by omega)]
    simp [hk]
  · unfold getQ
    rw [if_pos hr, hk]
theorem get_no {qs : List Rn} {i : Int} (h : ∀ r, rightQ qs = true → kf qs i = some r → False) : unfoundQ qs true [i] ≠ 0 ∧ getQ qs i = (zeroR, false) := by
  unfold unfoundQ getQ
  cases hr : rightQ qs with
  | false => exact ⟨by simp, by simp⟩
  | true =>
    cases hk : kf qs i with
    | some r => exact (h r hr hk).elim
    | none =>
      refine ⟨?_, by simp⟩
      simp only [hk, List.all_cons]
      split
      · rename_i h; cases h
      · split <;> simp

set_option maxRecDepth 100000 in
set_option maxHeartbeats 8000000 in
theorem get_any (A : Option Addr) (n c : Nat) (qs : List Rn) (i : Int) (w : World) (hG : QR w A n c qs) :
    Calls Try.prog 17 #[.agg #[.slice A n c], .int .i64 i] w (Said (.tuple #[.agg (agR (getQ qs i).1), .bool (getQ qs i).2]) w) := by
  obtain ⟨K0, K, GB⟩ := blks2 w 26 40 #[.slice A n c] #[.int .i64 0, .int .i64 0, .int .u64 0, .int .u64 0, .int .u64 0]
  have HG := Lib.hid hG
  have HUn := Lib.hid (fun (u : World) (h : Below w.heap.size w u) (A2 : Option Addr) (c2 : Nat) (hI : IR u A2 1 [i]) => unfound_any A n c qs true A2 1 c2 [i] u (HG.out.below h) hI)
  by_cases hd : ∃ r, rightQ qs = true ∧ kf qs i = some r
  · obtain ⟨⟨r1, r2, r3, r4, r5⟩, hr, hk⟩ := hd
    have q := get_yes hr hk
    rw [q.1] at HUn
    rw [q.2]
    have HFi := Lib.hid (fun (u : World) (h : Below w.heap.size w u) => find_any A n c qs i u (HG.out.below h).row (rightQ_iff.1 hr).rise HG.out.small)
    have hx := low_at (rightQ_iff.1 hr).rise hk
    obtain ⟨p, hp⟩ : ∃ p, low qs i = p := ⟨_, rfl⟩
    rw [hp] at HFi hx
    rw [hk] at HFi
    have HX := Lib.hid hx
    have hpn : p < n := by have := (List.getElem?_eq_some_iff.1 hx).1; have := hG.len; omega
    have j0 : (0 : Int) ≤ (p : Int) := by omega
    have j1 : (p : Int) < (n : Int) := by omega
    unfold agR
    dsimp only
    clear q hr hk hx hp hG
    go_enter Try.func17, Try.ntmps17
    have HIr : Hid (IR (((w.alloc (.cells #[.slice A n c] 26)).alloc (.cells #[.int .i64 0, .int .i64 0, .int .u64 0, .int .u64 0, .int .u64 0] 40)).alloc (.cells #[.int .i64 i] 3)) (some ⟨w.heap.size + 1 + 1, 0, none⟩) 1 [i]) := Lib.hid ⟨reads_int1 _ 3 i (by simp), by decide⟩
    replace K0 := K0.alloc (.cells #[.int .i64 i] 3)
    replace K := K.alloc (.cells #[.int .i64 i] 3)
    replace GB := GB.alloc GB.size (.cells #[.int .i64 i] 3)
    have zK00 := K0.cell 0
    go_wp2_with fail
    refine (HUn.out _ GB _ _ HIr.out).mono ?_
    rintro e w1 ⟨rfl, h9⟩
    replace K0 := K0.below h9 K0.lt
    replace K := K.below h9 K.lt
    replace GB := GB.trans (h9.mono GB.size)
    clear h9 HIr
    clear zK00
    have zK00 := K0.cell 0
    go_wp2_with fail
    refine (HFi.out _ GB).mono ?_
    rintro e w2 ⟨rfl, h9⟩
    replace K0 := K0.below h9 K0.lt
    replace K := K.below h9 K.lt
    replace GB := GB.trans (h9.mono GB.size)
    clear h9
    clear zK00
    obtain ⟨ad, rfl, hb, c0, c1, c2, c3, c4⟩ := rn_at (HG.out.below GB).row HX.out
    have zK00 := K0.cell 0
    have d0 := K.cell 0
    have f0 := K.frozen 0
    have d1 := K.cell 1
    have f1 := K.frozen 1
    have d2 := K.cell 2
    have f2 := K.frozen 2
    have d3 := K.cell 3
    have f3 := K.frozen 3
    have d4 := K.cell 4
    have f4 := K.frozen 4
    have HP := Lib.hid (put5 (x := .int .i64 r1) (y := .int .i64 r2) (z := .int .u64 (r3 : Int)) (p := .int .u64 (r4 : Int)) (q := .int .u64 (r5 : Int)) K GB (by omega))
    clear K GB
    clear K0
    go_wp2_with fail
    exact bodyPost_ret (v := .tuple #[.agg #[.int .i64 r1, .int .i64 r2, .int .u64 (r3 : Int), .int .u64 (r4 : Int), .int .u64 (r5 : Int)], .bool true]) (results_cell_row_tmp Try.results17 _ _ _ _ _ _ rfl HP.out.1 Try.underlying40 rfl (by kernel_rfl)) rfl ⟨rfl, HP.out.2⟩
  · have q := get_no (qs := qs) (i := i) (fun r h1 h2 => hd ⟨r, h1, h2⟩)
    rw [q.2]
    obtain ⟨E, hE⟩ : ∃ E, unfoundQ qs true [i] = E := ⟨_, rfl⟩
    rw [hE] at HUn
    have e0 : (E != 0) = true := by simpa [hE] using q.1
    unfold agR zeroR
    dsimp only
    clear q hd hE hG
    go_enter Try.func17, Try.ntmps17
    have HIr : Hid (IR (((w.alloc (.cells #[.slice A n c] 26)).alloc (.cells #[.int .i64 0, .int .i64 0, .int .u64 0, .int .u64 0, .int .u64 0] 40)).alloc (.cells #[.int .i64 i] 3)) (some ⟨w.heap.size + 1 + 1, 0, none⟩) 1 [i]) := Lib.hid ⟨reads_int1 _ 3 i (by simp), by decide⟩
    replace K0 := K0.alloc (.cells #[.int .i64 i] 3)
    replace K := K.alloc (.cells #[.int .i64 i] 3)
    replace GB := GB.alloc GB.size (.cells #[.int .i64 i] 3)
    have zK00 := K0.cell 0
    go_wp2_with fail
    refine (HUn.out _ GB _ _ HIr.out).mono ?_
    rintro e w1 ⟨rfl, h9⟩
    replace K0 := K0.below h9 K0.lt
    replace K := K.below h9 K.lt
    replace GB := GB.trans (h9.mono GB.size)
    clear h9 HIr
    clear zK00
    clear K0
    have d0 := K.cell 0
    have f0 := K.frozen 0
    have d1 := K.cell 1
    have f1 := K.frozen 1
    have d2 := K.cell 2
    have f2 := K.frozen 2
    have d3 := K.cell 3
    have f3 := K.frozen 3
    have d4 := K.cell 4
    have f4 := K.frozen 4
    have HP := Lib.hid (put5 (x := .int .i64 0) (y := .int .i64 0) (z := .int .u64 0) (p := .int .u64 0) (q := .int .u64 0) K GB (by omega))
    clear K GB
    go_wp2_with fail
    exact bodyPost_ret (v := .tuple #[.agg #[.int .i64 0, .int .i64 0, .int .u64 0, .int .u64 0, .int .u64 0], .bool false]) (results_cell_row_tmp Try.results17 _ _ _ _ _ _ rfl HP.out.1 Try.underlying40 rfl (by kernel_rfl)) rfl ⟨rfl, HP.out.2⟩
end Go.Proofs.Ytfgabmelmopgdaa
