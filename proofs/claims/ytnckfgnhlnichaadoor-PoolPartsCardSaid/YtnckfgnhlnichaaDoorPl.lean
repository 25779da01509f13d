/-
  The landed pool: unsplit, unmoved. No statement is proved here.
-/
import Derived.Test.YtnckfgnhlnichaaDoorPk
namespace Go.Proofs.YtnckfgnhlnichaaDoor
open Go.RowKit

set_option maxRecDepth 100000 in
set_option maxHeartbeats 8000000 in
theorem lunsplit_any {G : World → Prop} (hG : Steady G) (A : Option Addr) (n c : Nat) (l : List Nat) (f : Int) (s : Nat) (w : World) (hAt : PAt G w A n c l) (hs : s < 4294967296) :
    Calls Tryd.prog 19 #[.agg #[.slice A n c], .int .i64 f, .int .u32 (s : Int)] w (Said (.int .i64 (splitR l f s).2.2) w) := by
  have hl := hAt.len
  have HRf := Lib.hid (fun (Ap : Option Addr) (m cp : Nat) (ks : List Int) (u : World) (h : Below w.heap.size w u) (hm : m ≤ 1000) (hk : Reads u u.heap.size 1 Ap m (vs ks)) => lrefused_any hG A n c l Ap m cp ks u (hAt.below hG h) hk hm)
  have HK := Lib.hid (box1 w 26 #[.slice A n c])
  have HK2 := Lib.hid (And.intro (HK.out.1.alloc (.cells #[.int .i64 f] 3)) (HK.out.2.alloc HK.out.2.size (.cells #[.int .i64 f] 3)))
  have k1 : (w.alloc (.cells #[.slice A n c] 26)).cell? ⟨w.heap.size, 0, none⟩ = some (.slice A n c) := HK.out.1.cell 0
  have HSet := Lib.hid (fun (u : World) (h : Below w.heap.size w u) => lset_any hG A n c l f u (hAt.below hG h))
  have HCs := Lib.hid (fun u => ccheck_any (s : Int) u (by omega) (by omega))
  have hU := hAt.2.2.2.1
  obtain ⟨E1, hE1⟩ : ∃ E1, refE l [f] = E1 := ⟨_, rfl⟩
  obtain ⟨E2, hE2⟩ : ∃ E2, chkV (s : Int) = E2 := ⟨_, rfl⟩
  rw [hE2] at HCs
  have HE1 := Lib.hid hE1
  clear hAt hG
  by_cases hno : orL [E1, E2] = 0
  · have h1 : E1 = 0 ∧ E2 = 0 := by
      by_cases h : E1 = 0
      · by_cases h2 : E2 = 0
        · exact ⟨h, h2⟩
        · rw [show orL [E1, E2] = E2 by simp [orL, h, h2]] at hno; exact absurd hno h2
      · rw [show orL [E1, E2] = E1 by simp [orL, h]] at hno; exact absurd hno h
    have HOv := Lib.hid hno
    have hr : rightP l = true := by
      cases hr : rightP l with
      | true => rfl
      | false => rw [ref_no hr] at hE1; omega
    have hp : poolB l f = true := by
      cases hp : poolB l f with
      | true => rfl
      | false => rw [ref_bad (k := 0) hr rfl hp] at hE1; omega
    have h8 : s < 256 := by
      by_cases h8 : s < 256
      · exact h8
      · rw [show chkV (s : Int) = 140 from if_neg (by omega)] at hE2; omega
    obtain ⟨k, rfl, hkl⟩ := poolB_true hp
    have hx := at_getD hkl
    have hX : setR l (k : Int) = l.getD k 0 := set_at hr hx
    obtain ⟨x, hxx⟩ : ∃ x, l.getD k 0 = x := ⟨_, rfl⟩
    rw [hxx] at hX hx
    rw [hX] at HSet
    have x8 := (sets_at (right_parts8 hr).2.2.1 hx).1
    have HWi := Lib.hid (fun u => within_any (s : Int) (x : Int) u (by omega) (by omega) (by omega) (by omega))
    have hv : (splitR l (k : Int) s).2.2 = if s = 0 ∨ withinV (mem (s : Int)) (x : Int) = false then 2 else if s = x then 181 else if l.length = 4 then 6 else 0 := by
      unfold splitR splitV
      rw [if_pos hr, if_neg (by rw [hp]; simp), if_neg (by omega), Int.toNat_natCast, hxx]
      split
      · rfl
      · split
        · rfl
        · split <;> rfl
    clear hE1 hE2 h1 hno hr hp hkl hx hX hxx x8 hU h8
    by_cases h0 : s = 0
    · have HV : Hid ((splitR l (k : Int) s).2.2 = 2) := Lib.hid (by rw [hv, if_pos (.inl h0)])
      have e0 : ((s : Int) == 0) = true := by simp; omega
      clear hv h0 hs hl
      go_enter Tryd.func19, Tryd.ntmps19
      go_wp2_with fail
      refine (HRf.out _ 1 _ [(k : Int)] _ HK2.out.2 (by omega) (reads_i1 _ _ _ (by simp))).mono ?_
      rw [HE1.out]
      rintro e w3 ⟨rfl, h3⟩
      have B3 := HK2.out.2.trans (h3.mono HK2.out.2.size)
      have K3 := HK2.out.1.below h3 HK2.out.1.lt
      clear h3 k1
      go_wp2_with fail
      refine (HCs.out _).mono ?_
      rintro e w' ⟨rfl, rfl⟩
      have B4 := B3.alloc B3.size (.cells #[.int .i64 E1, .int .i64 E2] 27)
      have K4 := K3.alloc (.cells #[.int .i64 E1, .int .i64 E2] 27)
      have k3 := K3.cell 0
      have k4 := K4.cell 0
      go_wp2_with fail
      refine (orE_any _ 2 _ [E1, E2] _ (reads_i2 _ _ _ _ rfl) (by omega)).mono ?_
      rw [HOv.out]
      rintro e w' ⟨rfl, rfl⟩
      go_wp2_with fail
      refine (HSet.out _ B4).mono ?_
      rintro e w5 ⟨rfl, h5⟩
      have B5 := B4.trans (h5.mono B4.size)
      have K5 := K4.below h5 K4.lt
      have k5 := K5.cell 0
      clear B3 K3 B4 K4 K5 k3 k4 h5
      go_wp2
      go_ret
      exact ⟨retI HV.out.symm, B5⟩
    · have e0 : ((s : Int) == 0) = false := by simp; omega
      cases hwi : withinV (mem (s : Int)) (x : Int) with
      | false =>
        have HV : Hid ((splitR l (k : Int) s).2.2 = 2) := Lib.hid (by rw [hv, if_pos (.inr hwi)])
        rw [hwi] at HWi
        clear hv h0 hs hl hwi
        go_enter Tryd.func19, Tryd.ntmps19
        go_wp2_with fail
        refine (HRf.out _ 1 _ [(k : Int)] _ HK2.out.2 (by omega) (reads_i1 _ _ _ (by simp))).mono ?_
        rw [HE1.out]
        rintro e w3 ⟨rfl, h3⟩
        have B3 := HK2.out.2.trans (h3.mono HK2.out.2.size)
        have K3 := HK2.out.1.below h3 HK2.out.1.lt
        clear h3 k1
        go_wp2_with fail
        refine (HCs.out _).mono ?_
        rintro e w' ⟨rfl, rfl⟩
        have B4 := B3.alloc B3.size (.cells #[.int .i64 E1, .int .i64 E2] 27)
        have K4 := K3.alloc (.cells #[.int .i64 E1, .int .i64 E2] 27)
        have k3 := K3.cell 0
        have k4 := K4.cell 0
        go_wp2_with fail
        refine (orE_any _ 2 _ [E1, E2] _ (reads_i2 _ _ _ _ rfl) (by omega)).mono ?_
        rw [HOv.out]
        rintro e w' ⟨rfl, rfl⟩
        go_wp2_with fail
        refine (HSet.out _ B4).mono ?_
        rintro e w5 ⟨rfl, h5⟩
        have B5 := B4.trans (h5.mono B4.size)
        have K5 := K4.below h5 K4.lt
        have k5 := K5.cell 0
        clear B3 K3 B4 K4 K5 k3 k4 h5
        go_wp2_with fail
        refine (HWi.out _).mono ?_
        rintro e w' ⟨rfl, rfl⟩
        go_wp2
        go_ret
        exact ⟨retI HV.out.symm, B5⟩
      | true =>
        rw [hwi] at HWi
        by_cases hsx : s = x
        · have HV : Hid ((splitR l (k : Int) s).2.2 = 181) := Lib.hid (by rw [hv, if_neg (by rw [hwi]; simp; exact h0), if_pos hsx])
          have e1 : ((s : Int) == (x : Int)) = true := by simp; omega
          clear hv h0 hs hl hwi hsx
          go_enter Tryd.func19, Tryd.ntmps19
          go_wp2_with fail
          refine (HRf.out _ 1 _ [(k : Int)] _ HK2.out.2 (by omega) (reads_i1 _ _ _ (by simp))).mono ?_
          rw [HE1.out]
          rintro e w3 ⟨rfl, h3⟩
          have B3 := HK2.out.2.trans (h3.mono HK2.out.2.size)
          have K3 := HK2.out.1.below h3 HK2.out.1.lt
          clear h3 k1
          go_wp2_with fail
          refine (HCs.out _).mono ?_
          rintro e w' ⟨rfl, rfl⟩
          have B4 := B3.alloc B3.size (.cells #[.int .i64 E1, .int .i64 E2] 27)
          have K4 := K3.alloc (.cells #[.int .i64 E1, .int .i64 E2] 27)
          have k3 := K3.cell 0
          have k4 := K4.cell 0
          go_wp2_with fail
          refine (orE_any _ 2 _ [E1, E2] _ (reads_i2 _ _ _ _ rfl) (by omega)).mono ?_
          rw [HOv.out]
          rintro e w' ⟨rfl, rfl⟩
          go_wp2_with fail
          refine (HSet.out _ B4).mono ?_
          rintro e w5 ⟨rfl, h5⟩
          have B5 := B4.trans (h5.mono B4.size)
          have K5 := K4.below h5 K4.lt
          have k5 := K5.cell 0
          clear B3 K3 B4 K4 K5 k3 k4 h5
          go_wp2_with fail
          refine (HWi.out _).mono ?_
          rintro e w' ⟨rfl, rfl⟩
          go_wp2
          go_ret
          exact ⟨retI HV.out.symm, B5⟩
        · have e1 : ((s : Int) == (x : Int)) = false := by simp; omega
          by_cases h4 : n = 4
          · have HV : Hid ((splitR l (k : Int) s).2.2 = 6) := Lib.hid (by rw [hv, if_neg (by rw [hwi]; simp; exact h0), if_neg hsx, if_pos (by omega)])
            have e4 : ((n : Int) == 4) = true := by simp; omega
            clear hv h0 hs hl hwi hsx h4
            go_enter Tryd.func19, Tryd.ntmps19
            go_wp2_with fail
            refine (HRf.out _ 1 _ [(k : Int)] _ HK2.out.2 (by omega) (reads_i1 _ _ _ (by simp))).mono ?_
            rw [HE1.out]
            rintro e w3 ⟨rfl, h3⟩
            have B3 := HK2.out.2.trans (h3.mono HK2.out.2.size)
            have K3 := HK2.out.1.below h3 HK2.out.1.lt
            clear h3 k1
            go_wp2_with fail
            refine (HCs.out _).mono ?_
            rintro e w' ⟨rfl, rfl⟩
            have B4 := B3.alloc B3.size (.cells #[.int .i64 E1, .int .i64 E2] 27)
            have K4 := K3.alloc (.cells #[.int .i64 E1, .int .i64 E2] 27)
            have k3 := K3.cell 0
            have k4 := K4.cell 0
            go_wp2_with fail
            refine (orE_any _ 2 _ [E1, E2] _ (reads_i2 _ _ _ _ rfl) (by omega)).mono ?_
            rw [HOv.out]
            rintro e w' ⟨rfl, rfl⟩
            go_wp2_with fail
            refine (HSet.out _ B4).mono ?_
            rintro e w5 ⟨rfl, h5⟩
            have B5 := B4.trans (h5.mono B4.size)
            have K5 := K4.below h5 K4.lt
            have k5 := K5.cell 0
            clear B3 K3 B4 K4 K5 k3 k4 h5
            go_wp2_with fail
            refine (HWi.out _).mono ?_
            rintro e w' ⟨rfl, rfl⟩
            go_wp2
            go_ret
            exact ⟨retI HV.out.symm, B5⟩
          · have HV : Hid ((splitR l (k : Int) s).2.2 = 0) := Lib.hid (by rw [hv, if_neg (by rw [hwi]; simp; exact h0), if_neg hsx, if_neg (by omega)])
            have e4 : ((n : Int) == 4) = false := by simp; omega
            clear hv h0 hs hl hwi hsx h4
            go_enter Tryd.func19, Tryd.ntmps19
            go_wp2_with fail
            refine (HRf.out _ 1 _ [(k : Int)] _ HK2.out.2 (by omega) (reads_i1 _ _ _ (by simp))).mono ?_
            rw [HE1.out]
            rintro e w3 ⟨rfl, h3⟩
            have B3 := HK2.out.2.trans (h3.mono HK2.out.2.size)
            have K3 := HK2.out.1.below h3 HK2.out.1.lt
            clear h3 k1
            go_wp2_with fail
            refine (HCs.out _).mono ?_
            rintro e w' ⟨rfl, rfl⟩
            have B4 := B3.alloc B3.size (.cells #[.int .i64 E1, .int .i64 E2] 27)
            have K4 := K3.alloc (.cells #[.int .i64 E1, .int .i64 E2] 27)
            have k3 := K3.cell 0
            have k4 := K4.cell 0
            go_wp2_with fail
            refine (orE_any _ 2 _ [E1, E2] _ (reads_i2 _ _ _ _ rfl) (by omega)).mono ?_
            rw [HOv.out]
            rintro e w' ⟨rfl, rfl⟩
            go_wp2_with fail
            refine (HSet.out _ B4).mono ?_
            rintro e w5 ⟨rfl, h5⟩
            have B5 := B4.trans (h5.mono B4.size)
            have K5 := K4.below h5 K4.lt
            have k5 := K5.cell 0
            clear B3 K3 B4 K4 K5 k3 k4 h5
            go_wp2_with fail
            refine (HWi.out _).mono ?_
            rintro e w' ⟨rfl, rfl⟩
            go_wp2
            go_ret
            exact ⟨retI HV.out.symm, B5⟩
  · have hv : (splitR l f s).2.2 = orL [E1, E2] := by
      unfold splitR
      cases hr : rightP l with
      | false =>
        rw [ref_no hr] at hE1
        rw [if_neg (by simp), ← hE1]
        rfl
      | true =>
        rw [if_pos rfl]
        unfold splitV
        cases hp : poolB l f with
        | false =>
          rw [ref_bad (k := 0) hr rfl hp] at hE1
          rw [if_pos rfl, ← hE1]
          rfl
        | true =>
          rw [ref_yes hr (by simp [hp])] at hE1
          rw [if_neg (by simp)]
          by_cases h8 : s < 256
          · rw [show chkV (s : Int) = 0 from if_pos (by omega)] at hE2
            exact absurd (by rw [← hE1, ← hE2]; rfl) hno
          · rw [show chkV (s : Int) = 140 from if_neg (by omega)] at hE2
            rw [if_pos h8, ← hE1, ← hE2]
            rfl
    obtain ⟨O, hO⟩ : ∃ O, orL [E1, E2] = O := ⟨_, rfl⟩
    rw [hO] at hv hno
    have HOv := Lib.hid hO
    have HV := Lib.hid hv
    have e0 : (O == 0) = false := by simp; exact hno
    generalize ((setR l f : Nat) : Int) = X at HSet
    clear hv hno hO hE1 hE2 hU hs hl
    go_enter Tryd.func19, Tryd.ntmps19
    go_wp2_with fail
    refine (HRf.out _ 1 _ [f] _ HK2.out.2 (by omega) (reads_i1 _ _ _ (by simp))).mono ?_
    rw [HE1.out]
    rintro e w3 ⟨rfl, h3⟩
    have B3 := HK2.out.2.trans (h3.mono HK2.out.2.size)
    have K3 := HK2.out.1.below h3 HK2.out.1.lt
    clear h3 k1
    go_wp2_with fail
    refine (HCs.out _).mono ?_
    rintro e w' ⟨rfl, rfl⟩
    have B4 := B3.alloc B3.size (.cells #[.int .i64 E1, .int .i64 E2] 27)
    have K4 := K3.alloc (.cells #[.int .i64 E1, .int .i64 E2] 27)
    have k3 := K3.cell 0
    have k4 := K4.cell 0
    go_wp2_with fail
    refine (orE_any _ 2 _ [E1, E2] _ (reads_i2 _ _ _ _ rfl) (by omega)).mono ?_
    rw [HOv.out]
    rintro e w' ⟨rfl, rfl⟩
    go_wp2_with fail
    refine (HSet.out _ B4).mono ?_
    rintro e w5 ⟨rfl, h5⟩
    have B5 := B4.trans (h5.mono B4.size)
    have K5 := K4.below h5 K4.lt
    have k5 := K5.cell 0
    clear B3 K3 B4 K4 K5 k3 k4 h5
    go_wp2
    go_ret
    exact ⟨retI HV.out.symm, B5⟩

set_option maxRecDepth 100000 in
set_option maxHeartbeats 8000000 in
theorem lunmoved_any {G : World → Prop} (hG : Steady G) (A : Option Addr) (n c : Nat) (l : List Nat) (k t : Int) (w : World) (hAt : PAt G w A n c l) :
    Calls Tryd.prog 22 #[.agg #[.slice A n c], .int .i64 k, .int .i64 t] w (Said (.int .i64 (moveR l k t).2.2) w) := by
  have hl := hAt.len
  have HRf := Lib.hid (fun (Ap : Option Addr) (m cp : Nat) (ks : List Int) (u : World) (h : Below w.heap.size w u) (hm : m ≤ 1000) (hk : Reads u u.heap.size 1 Ap m (vs ks)) => lrefused_any hG A n c l Ap m cp ks u (hAt.below hG h) hk hm)
  have HK := Lib.hid (box1 w 26 #[.slice A n c])
  have HK2 := Lib.hid (And.intro (HK.out.1.alloc (.cells #[.int .i64 t] 3)) (HK.out.2.alloc HK.out.2.size (.cells #[.int .i64 t] 3)))
  have k1 : (w.alloc (.cells #[.slice A n c] 26)).cell? ⟨w.heap.size, 0, none⟩ = some (.slice A n c) := HK.out.1.cell 0
  obtain ⟨o, hof⟩ : ∃ o, ofR l k = o := ⟨_, rfl⟩
  obtain ⟨o, bb⟩ := o
  have HOf := Lib.hid (fun (u : World) (h : Below w.heap.size w u) => lof_any hG A n c l k u (hAt.below hG h))
  rw [hof] at HOf
  have HR := Lib.hid (fun (u : World) (h : Below w.heap.size w u) => (hAt.below hG h).1)
  have hnc := hAt.2.1
  obtain ⟨E1, hE1⟩ : ∃ E1, refE l [t] = E1 := ⟨_, rfl⟩
  have HE1 := Lib.hid hE1
  clear hAt hG
  by_cases hno : E1 = 0
  · have hr : rightP l = true := by
      cases hr : rightP l with
      | true => rfl
      | false => rw [ref_no hr] at hE1; omega
    have hp : poolB l t = true := by
      cases hp : poolB l t with
      | true => rfl
      | false => rw [ref_bad (k := 0) hr rfl hp] at hE1; omega
    have hov : ofV l k = (o, bb) := by unfold ofR at hof; rw [if_pos hr] at hof; exact hof
    have hv : (moveR l k t).2.2 = if bb = false then 2 else if o = t then 5 else if cardN (l.getD o.toNat 0) = 1 then 181 else 0 := by
      unfold moveR moveV
      rw [if_pos hr, if_neg (by rw [hp]; simp), hov]
      dsimp only
      split
      · rfl
      · split
        · rfl
        · split <;> rfl
    subst hno
    cases bb with
    | false =>
      have HV : Hid ((moveR l k t).2.2 = 2) := Lib.hid (by rw [hv]; rfl)
      clear hv hr hp hov hof hE1 hl hnc
      go_enter Tryd.func22, Tryd.ntmps22
      go_wp2_with fail
      refine (HRf.out _ 1 _ [t] _ HK2.out.2 (by omega) (reads_i1 _ _ _ (by simp))).mono ?_
      rw [HE1.out]
      rintro e w3 ⟨rfl, h3⟩
      have B3 := HK2.out.2.trans (h3.mono HK2.out.2.size)
      have K3 := HK2.out.1.below h3 HK2.out.1.lt
      have k3 := K3.cell 0
      clear h3 k1
      go_wp2_with fail
      refine (HOf.out _ B3).mono ?_
      rintro e w5 ⟨rfl, h5⟩
      have B5 := B3.trans (h5.mono B3.size)
      have K5 := K3.below h5 K3.lt
      have k5 := K5.cell 0
      clear B3 K3 K5 k3 h5
      go_wp2
      go_ret
      exact ⟨retI HV.out.symm, B5⟩
    | true =>
      by_cases hot : o = t
      · have HV : Hid ((moveR l k t).2.2 = 5) := Lib.hid (by rw [hv, if_neg (by simp), if_pos hot])
        have e1 : (o == t) = true := by simp [hot]
        clear hv hr hp hov hof hE1 hl hnc hot
        go_enter Tryd.func22, Tryd.ntmps22
        go_wp2_with fail
        refine (HRf.out _ 1 _ [t] _ HK2.out.2 (by omega) (reads_i1 _ _ _ (by simp))).mono ?_
        rw [HE1.out]
        rintro e w3 ⟨rfl, h3⟩
        have B3 := HK2.out.2.trans (h3.mono HK2.out.2.size)
        have K3 := HK2.out.1.below h3 HK2.out.1.lt
        have k3 := K3.cell 0
        clear h3 k1
        go_wp2_with fail
        refine (HOf.out _ B3).mono ?_
        rintro e w5 ⟨rfl, h5⟩
        have B5 := B3.trans (h5.mono B3.size)
        have K5 := K3.below h5 K3.lt
        have k5 := K5.cell 0
        clear B3 K3 K5 k3 h5
        go_wp2
        go_ret
        exact ⟨retI HV.out.symm, B5⟩
      · have e1 : (o == t) = false := by simp [hot]
        obtain ⟨j, rfl, hjl, _, _⟩ := of_there hov
        have hx := at_getD hjl
        obtain ⟨z, hz⟩ : ∃ z, l.getD j 0 = z := ⟨_, rfl⟩
        rw [hz] at hx
        have z8 := (sets_at (right_parts8 hr).2.2.1 hx).1
        rw [if_neg (by simp), if_neg hot, Int.toNat_natCast, hz] at hv
        have j0 : (0 : Int) ≤ (j : Int) := by omega
        have j1 : (j : Int) < (n : Int) := by omega
        obtain ⟨ad, hA⟩ : ∃ ad, A = some ad := by
          obtain ⟨ad, _, e, _⟩ := uset_at (HR.out _ HK.out.2) (k := j) (by omega)
          exact ⟨ad, e⟩
        subst hA
        have HX : Hid (∀ u, Below w.heap.size w u → u.cell? (ad.add j) = some (.int .u32 (z : Int))) := Lib.hid (fun u h => by
          obtain ⟨ad2, y, e, _, hy, hc⟩ := uset_at (HR.out u h) (k := j) (by omega)
          injection e with e
          subst e
          rw [hx] at hy
          injection hy with hy
          subst hy
          exact hc)
        have HPz : Hid (popK [z] 1 = cardN z) := Lib.hid (by show 0 + pop32 z = _; rw [Nat.zero_add, pop_card z8])
        have HUz : Hid (U32s [z]) := Lib.hid (fun x hx => by simp at hx; omega)
        by_cases h1 : cardN z = 1
        · have HV : Hid ((moveR l k t).2.2 = 181) := Lib.hid (by rw [hv, if_pos h1])
          rw [h1] at HPz
          clear hv hr hp hov hof hE1 hl hnc hot hjl hx hz z8 h1
          go_enter Tryd.func22, Tryd.ntmps22
          go_wp2_with fail
          refine (HRf.out _ 1 _ [t] _ HK2.out.2 (by omega) (reads_i1 _ _ _ (by simp))).mono ?_
          rw [HE1.out]
          rintro e w3 ⟨rfl, h3⟩
          have B3 := HK2.out.2.trans (h3.mono HK2.out.2.size)
          have K3 := HK2.out.1.below h3 HK2.out.1.lt
          have k3 := K3.cell 0
          clear h3 k1
          go_wp2_with fail
          refine (HOf.out _ B3).mono ?_
          rintro e w5 ⟨rfl, h5⟩
          have B5 := B3.trans (h5.mono B3.size)
          have K5 := K3.below h5 K3.lt
          have k5 := K5.cell 0
          clear B3 K3 K5 k3 h5
          have c5 := HX.out _ B5
          have B6 := B5.alloc B5.size (.cells #[.int .u32 (z : Int)] 32)
          go_wp2_with fail
          refine (lcount_any _ 1 _ [z] _ (reads_u1' _ _ z rfl) HUz.out (by omega)).mono ?_
          rw [HPz.out]
          rintro e w7 ⟨rfl, h7⟩
          have B7 := B6.trans (h7.mono B6.size)
          clear B6 h7 c5 k5
          go_wp2
          go_ret
          exact ⟨retI HV.out.symm, B7⟩
        · have HV : Hid ((moveR l k t).2.2 = 0) := Lib.hid (by rw [hv, if_neg h1])
          have e9 : (((cardN z : Nat) : Int) == 1) = false := by simp; omega
          generalize cardN z = Z at *
          clear hv hr hp hov hof hE1 hl hnc hot hjl hx hz z8 h1
          go_enter Tryd.func22, Tryd.ntmps22
          go_wp2_with fail
          refine (HRf.out _ 1 _ [t] _ HK2.out.2 (by omega) (reads_i1 _ _ _ (by simp))).mono ?_
          rw [HE1.out]
          rintro e w3 ⟨rfl, h3⟩
          have B3 := HK2.out.2.trans (h3.mono HK2.out.2.size)
          have K3 := HK2.out.1.below h3 HK2.out.1.lt
          have k3 := K3.cell 0
          clear h3 k1
          go_wp2_with fail
          refine (HOf.out _ B3).mono ?_
          rintro e w5 ⟨rfl, h5⟩
          have B5 := B3.trans (h5.mono B3.size)
          have K5 := K3.below h5 K3.lt
          have k5 := K5.cell 0
          clear B3 K3 K5 k3 h5
          have c5 := HX.out _ B5
          have B6 := B5.alloc B5.size (.cells #[.int .u32 (z : Int)] 32)
          go_wp2_with fail
          refine (lcount_any _ 1 _ [z] _ (reads_u1' _ _ z rfl) HUz.out (by omega)).mono ?_
          rw [HPz.out]
          rintro e w7 ⟨rfl, h7⟩
          have B7 := B6.trans (h7.mono B6.size)
          clear B6 h7 c5 k5
          go_wp2
          go_ret
          exact ⟨retI HV.out.symm, B7⟩
  · have hv : (moveR l k t).2.2 = E1 := by
      unfold moveR
      cases hr : rightP l with
      | false =>
        rw [ref_no hr] at hE1
        rw [if_neg (by simp), ← hE1]
      | true =>
        rw [if_pos rfl]
        unfold moveV
        cases hp : poolB l t with
        | false =>
          rw [ref_bad (k := 0) hr rfl hp] at hE1
          rw [if_pos rfl, ← hE1]
        | true =>
          rw [ref_yes hr (by simp [hp])] at hE1
          exact absurd hE1.symm hno
    have HV := Lib.hid hv
    have e0 : (E1 == 0) = false := by simp; exact hno
    clear hv hno hE1 hl hnc hof
    go_enter Tryd.func22, Tryd.ntmps22
    go_wp2_with fail
    refine (HRf.out _ 1 _ [t] _ HK2.out.2 (by omega) (reads_i1 _ _ _ (by simp))).mono ?_
    rw [HE1.out]
    rintro e w3 ⟨rfl, h3⟩
    have B3 := HK2.out.2.trans (h3.mono HK2.out.2.size)
    have K3 := HK2.out.1.below h3 HK2.out.1.lt
    have k3 := K3.cell 0
    clear h3 k1
    go_wp2_with fail
    refine (HOf.out _ B3).mono ?_
    rintro e w5 ⟨rfl, h5⟩
    have B5 := B3.trans (h5.mono B3.size)
    have K5 := K3.below h5 K3.lt
    have k5 := K5.cell 0
    clear B3 K3 K5 k3 h5
    go_wp2
    go_ret
    exact ⟨retI HV.out.symm, B5⟩

end Go.Proofs.YtnckfgnhlnichaaDoor
