/-
  DomainTells' walk. No statement is proved here.
-/
import Derived.Test.YtknimnopopnbhaaEr
import Derived.Test.YtknimnopopnbhaaDj
import Derived.Test.YtknimnopopnbhaaDh
import Derived.Test.YtknimnopopnbhaaDf
import Derived.Deep.DeepCutAuto
namespace Go.Proofs.Ytknimnopopnbhaa
open Go.RowKit

/-- a row of numbers that lies somewhere -/
structure IR (w : World) (A : Option Addr) (n : Nat) (l : List Int) : Prop where
  reads : Reads w w.heap.size 1 A n (vs l)
theorem IR.below {w w' : World} {A : Option Addr} {n : Nat} {l : List Int} (h : IR w A n l) (hb : Below w.heap.size w w') : IR w' A n l := ⟨(h.reads.below hb).more hb.size⟩
theorem rate_yes {ds : List Dom} {us : List Vc} {id q1 q2 : Int} {q3 q4 : Nat} (h : vcQ ds us id = ((q1, q2, q3, q4), true)) : rateQ ds us id = ((domV ds q2).1.2.1, (ofL us q2).length, true) := by unfold rateQ; rw [h]; rfl
theorem rate_no {ds : List Dom} {us : List Vc} {id : Int} {q : Vc} (h : vcQ ds us id = (q, false)) : rateQ ds us id = (0, 0, false) := by unfold rateQ; rw [h]; rfl
theorem vcV_no {us : List Vc} {id : Int} {q : Vc} (h : vcV us id = (q, false)) : q = zeroV := by
  unfold vcV at h
  cases hv : vcF us id with
  | none => rw [hv] at h; exact (Prod.mk.inj h).1.symm
  | some x => rw [hv] at h; exact absurd (Prod.mk.inj h).2 (by simp)

set_option maxRecDepth 100000 in
set_option maxHeartbeats 32000000 in
theorem tells_walk (A : Option Addr) (n c : Nat) (ds : List Dom) (B : Option Addr) (m d : Nat) (us : List Vc) (A' : Option Addr) (n' c' : Nat) (ds' : List Dom) (B' : Option Addr) (m' d' : Nat) (us' : List Vc) (id : Int) (w : World) (hd : Reads w w.heap.size 4 A n (flat dv ds)) (hv : Reads w w.heap.size 4 B m (flat cv us)) (hnc : n ≤ c) (hmd : m ≤ d) (hU : UV us)
    (hd2 : Reads w w.heap.size 4 A' n' (flat dv ds')) (hv2 : Reads w w.heap.size 4 B' m' (flat cv us')) (hnc2 : n' ≤ c') (hmd2 : m' ≤ d') (hU2 : UV us') :
    Calls Try.prog 5 #[.agg #[.slice A n c, .slice B m d], .agg #[.slice A' n' c', .slice B' m' d'], .int .i64 id] w (Said (.bool true) w) := by
  have HWk := Lib.hid (fun (u : World) => wakes_any u)
  have HOv := Lib.hid (fun (u : World) => over_any A n c B m d u)
  have HOw := Lib.hid (fun (u : World) => over_any A' n' c' B' m' d' u)
  obtain ⟨K0, K1, GB⟩ := blks2 w 25 25 #[.slice A n c, .slice B m d] #[.slice A' n' c', .slice B' m' d']
  by_cases ho : (decide (100 < n) || decide (100 < m)) = true
  · rw [ho] at HOv
    clear ho hd hv hnc hmd hU hd2 hv2 hnc2 hmd2 hU2
    go_enter Try.func5, Try.ntmps5
    go_wp2_with fail
    refine (HWk.out _).mono ?_
    rintro e w1 ⟨rfl, h9⟩
    replace K0 := K0.below h9 K0.lt
    replace K1 := K1.below h9 K1.lt
    replace GB := GB.trans (h9.mono GB.size)
    clear h9
    have zK00 := K0.cell 0
    have zK01 := K0.cell 1
    go_wp2_with fail
    refine (HOv.out _).mono ?_
    rintro e w2 ⟨rfl, h9⟩
    replace K0 := K0.below h9 K0.lt
    replace K1 := K1.below h9 K1.lt
    replace GB := GB.trans (h9.mono GB.size)
    clear h9
    clear zK00 zK01
    go_wp2
    go_ret
    exact ⟨rfl, GB⟩
  · have ho2 : (decide (100 < n) || decide (100 < m)) = false := by simpa using ho
    rw [ho2] at HOv
    by_cases hp : (decide (100 < n') || decide (100 < m')) = true
    · rw [hp] at HOw
      clear ho ho2 hp hd hv hnc hmd hU hd2 hv2 hnc2 hmd2 hU2
      go_enter Try.func5, Try.ntmps5
      go_wp2_with fail
      refine (HWk.out _).mono ?_
      rintro e w1 ⟨rfl, h9⟩
      replace K0 := K0.below h9 K0.lt
      replace K1 := K1.below h9 K1.lt
      replace GB := GB.trans (h9.mono GB.size)
      clear h9
      have zK00 := K0.cell 0
      have zK01 := K0.cell 1
      go_wp2_with fail
      refine (HOv.out _).mono ?_
      rintro e w2 ⟨rfl, h9⟩
      replace K0 := K0.below h9 K0.lt
      replace K1 := K1.below h9 K1.lt
      replace GB := GB.trans (h9.mono GB.size)
      clear h9
      clear zK00 zK01
      have zK10 := K1.cell 0
      have zK11 := K1.cell 1
      go_wp2_with fail
      refine (HOw.out _).mono ?_
      rintro e w3 ⟨rfl, h9⟩
      replace K0 := K0.below h9 K0.lt
      replace K1 := K1.below h9 K1.lt
      replace GB := GB.trans (h9.mono GB.size)
      clear h9
      clear zK10 zK11
      go_wp2
      go_ret
      exact ⟨rfl, GB⟩
    · have hp2 : (decide (100 < n') || decide (100 < m')) = false := by simpa using hp
      rw [hp2] at HOw
      have hn : n ≤ 100 ∧ m ≤ 100 := by simp at ho; omega
      have hn2 : n' ≤ 100 ∧ m' ≤ 100 := by simp at hp; omega
      have hGR : GR w A n c ds B m d us := ⟨hd, hv, hnc, hmd, by omega, by omega, hU⟩
      have hGR2 : GR w A' n' c' ds' B' m' d' us' := ⟨hd2, hv2, hnc2, hmd2, by omega, by omega, hU2⟩
      have HG := Lib.hid hGR
      have HG2 := Lib.hid hGR2
      have HL := Lib.hid hGR.len
      have HN := Lib.hid hn
      clear ho ho2 hp hp2 hd hv hnc hmd hU hd2 hv2 hnc2 hmd2 hU2 hn hn2 hGR hGR2
      have HRg := Lib.hid (fun (u : World) (h : Below w.heap.size w u) => rrightG_any A n c ds B m d us u (HG.out.below h))
      have HCk := Lib.hid (fun (A : Option Addr) (c : Nat) (B : Option Addr) (d : Nat) (u : World) (h : GR u A n c ds B m d us) => gcheck_any A n c ds B m d us u h)
      have HS1 := Lib.hid (fun (u : World) (h : Below w.heap.size w u) => gsame_any A n c ds B m d us A' n' c' ds' B' m' d' us' u (HG.out.below h) (HG2.out.below h))
      have HS2 := Lib.hid (fun (u : World) (h : Below w.heap.size w u) => rsameG_any A n c ds B m d us A' n' c' ds' B' m' d' us' u (HG.out.below h) (HG2.out.below h))
      have HS3 := Lib.hid (fun (A9 : Option Addr) (c9 : Nat) (B9 : Option Addr) (d9 : Nat) (u : World) (h : Below w.heap.size w u) (h2 : GR u A9 n c9 ds B9 m d9 us) => (sameG_self ds us ▸ gsame_any A n c ds B m d us A9 n c9 ds B9 m d9 us u (HG.out.below h) h2 : Calls _ _ _ u (Said (.bool true) u)))
      have HCp : Hid (∀ (u : World), Below w.heap.size w u → Calls Try.prog 10 #[.agg #[.slice A n c, .slice B m d]] u (fun e w' => ∃ A9 c9 B9 d9, e = .returned (.agg #[.slice A9 n c9, .slice B9 m d9]) ∧ GR w' A9 n c9 ds B9 m d9 us ∧ Below u.heap.size u w')) := Lib.hid (fun u h => (copied_any A n c ds B m d us u (HG.out.below h)).mono (by
        rintro e w' ⟨A9, c9, B9, d9, rfl, o1, o2, h9⟩
        rw [HL.out.1] at o1 ⊢
        rw [HL.out.2] at o2 ⊢
        exact ⟨A9, c9, B9, d9, rfl, GR.of_own o1 o2 (by have := HN.out; omega) (by have := HN.out; omega) HG.out.u, h9⟩))
      have HDq := Lib.hid (fun (u : World) (h : Below w.heap.size w u) => dtell_any A n c ds B m d us id u (HG.out.below h))
      have HVq := Lib.hid (fun (u : World) (h : Below w.heap.size w u) => vtell_any A n c ds B m d us id u (HG.out.below h))
      have HOf := Lib.hid (fun (u : World) (h : Below w.heap.size w u) => gof_any A n c ds B m d us id u (HG.out.below h))
      have HIn := Lib.hid (fun (u : World) (h : Below w.heap.size w u) => gin_any A n c ds B m d us id u (HG.out.below h))
      have HRt := Lib.hid (fun (u : World) (h : Below w.heap.size w u) => grate_any A n c ds B m d us id u (HG.out.below h))
      have HWq := Lib.hid (fun (u : World) (h : Below w.heap.size w u) => gweights_any A n c ds B m d us id u (HG.out.below h))
      obtain ⟨S1, hS1⟩ : ∃ b, sameG ds us ds' us' = b := ⟨_, rfl⟩
      rw [hS1] at HS1 HS2
      clear hS1
      cases hr : rightG ds us with
      | false =>
        rw [hr] at HRg
        rw [show chkG ds us = 190 from if_neg (by rw [hr]; simp)] at HCk
        rw [show domQ ds us id = (zeroD, false) from if_neg (by rw [hr]; simp)] at HDq
        rw [show vcQ ds us id = (zeroV, false) from if_neg (by rw [hr]; simp)] at HVq
        rw [rate_no (show vcQ ds us id = (zeroV, false) from if_neg (by rw [hr]; simp))] at HRt
        rw [show weighQ ds us id = 0 from if_neg (by rw [hr]; simp)] at HWq
        rw [show idsQ (fun v => v.2.1 == id) ds us = [] from if_neg (by rw [hr]; simp)] at HOf
        rw [show idsQ (fun v => (domV ds v.2.1).1.2.2.2 == id) ds us = [] from if_neg (by rw [hr]; simp)] at HIn
        have HDq : Hid (∀ (u : World), Below w.heap.size w u → Calls Try.prog 32 #[.agg #[.slice A n c, .slice B m d], .int .i64 id] u (Said (.tuple #[.agg #[.int .i64 0, .int .i64 0, .int .i64 0, .int .i64 0], .bool false]) u)) := HDq
        have HVq : Hid (∀ (u : World), Below w.heap.size w u → Calls Try.prog 33 #[.agg #[.slice A n c, .slice B m d], .int .i64 id] u (Said (.tuple #[.agg #[.int .i64 0, .int .i64 0, .int .u32 0, .int .u32 0], .bool false]) u)) := HVq
        clear hr
        as_aux_lemma =>
          go_enter Try.func5, Try.ntmps5
          go_wp2_with fail
          refine (HWk.out _).mono ?_
          rintro e w1 ⟨rfl, h9⟩
          replace K0 := K0.below h9 K0.lt
          replace K1 := K1.below h9 K1.lt
          replace GB := GB.trans (h9.mono GB.size)
          clear h9
          have zK00 := K0.cell 0
          have zK01 := K0.cell 1
          go_wp2_with fail
          refine (HOv.out _).mono ?_
          rintro e w2 ⟨rfl, h9⟩
          replace K0 := K0.below h9 K0.lt
          replace K1 := K1.below h9 K1.lt
          replace GB := GB.trans (h9.mono GB.size)
          clear h9
          clear zK00 zK01
          have zK10 := K1.cell 0
          have zK11 := K1.cell 1
          go_wp2_with fail
          refine (HOw.out _).mono ?_
          rintro e w3 ⟨rfl, h9⟩
          replace K0 := K0.below h9 K0.lt
          replace K1 := K1.below h9 K1.lt
          replace GB := GB.trans (h9.mono GB.size)
          clear h9
          clear zK10 zK11
          have zK00 := K0.cell 0
          have zK01 := K0.cell 1
          go_wp2_with fail
          refine (HRg.out _ GB).mono ?_
          rintro e w4 ⟨rfl, h9⟩
          replace K0 := K0.below h9 K0.lt
          replace K1 := K1.below h9 K1.lt
          replace GB := GB.trans (h9.mono GB.size)
          clear h9
          clear zK00 zK01
          have zK00 := K0.cell 0
          have zK01 := K0.cell 1
          go_wp2_with fail
          refine (HCp.out _ GB).mono ?_
          rintro e w5 ⟨A5, c5, B5, d5, rfl, G5, h9⟩
          replace K0 := K0.below h9 K0.lt
          replace K1 := K1.below h9 K1.lt
          replace GB := GB.trans (h9.mono GB.size)
          clear h9
          clear zK00 zK01
          go_wp2_with fail
          refine (HCk.out _ _ _ _ _ G5).mono ?_
          rintro e w6 ⟨rfl, h9⟩
          replace K0 := K0.below h9 K0.lt
          replace K1 := K1.below h9 K1.lt
          replace G5 := G5.below h9
          replace GB := GB.trans (h9.mono GB.size)
          clear h9
          clear G5
          go_upto_region 7 with fail
          skip
          go_cut [65] (fun s65 X => s65 = .bool false ∧ Below w6.heap.size w6 X)
          case first =>
            have HX := Lib.hid (fun (u : World) (h : Below w6.heap.size w6 u) => And.intro (K0.below h K0.lt) (K1.below h K1.lt))
            have HB := Lib.hid (fun (u : World) (h : Below w6.heap.size w6 u) => GB.trans (h.mono GB.size))
            have D := (Below.refl w6.heap.size w6).drew
            refine wp_region_held_drew (S := fun u => Below w6.heap.size w6 u) (by kernel_rfl) D (fun hS => ?_)
            generalize w6.drew = V at D hS ⊢
            refine wpAnyH_take (i := 0) (v := .bool false) rfl (by kernel_rfl) (by kernel_rfl) (by kernel_rfl) (fun _ _ _ h => h) (Or.inl ⟨by kernel_rfl, fun u hSw => (by go_simp)⟩) hS ?_
            change wpAnyH _ _ _ _ _ _ _ (Act.put _ (some 38) _) _
            simp only [Act.put]
            try simp only [List.setIfInBounds_toArray, List.set_cons_zero, List.set_cons_succ]
            refine wpAnyH_take (i := 1) (v := .int .i64 190) rfl (by kernel_rfl) (by kernel_rfl) (by kernel_rfl) (fun _ _ _ h => h) (Or.inl ⟨by kernel_rfl, fun u hSw => (by go_simp)⟩) hS ?_
            change wpAnyH _ _ _ _ _ _ _ (Act.put _ (some 39) _) _
            simp only [Act.put]
            try simp only [List.setIfInBounds_toArray, List.set_cons_zero, List.set_cons_succ]
            refine wpAnyH_take (i := 2) (v := .bool false) rfl (by kernel_rfl) (by kernel_rfl) (by kernel_rfl) (fun _ _ _ h => h) (Or.inl ⟨by kernel_rfl, fun u hSw => (by go_simp)⟩) hS ?_
            change wpAnyH _ _ _ _ _ _ _ (Act.put _ (some 40) _) _
            simp only [Act.put]
            try simp only [List.setIfInBounds_toArray, List.set_cons_zero, List.set_cons_succ]
            refine wpAnyH_take (i := 3) (v := .bool false) rfl (by kernel_rfl) (by kernel_rfl) (by kernel_rfl) (fun _ _ _ h => h) (Or.inl ⟨by kernel_rfl, fun u hSw => (by go_simp)⟩) hS ?_
            change wpAnyH _ _ _ _ _ _ _ (Act.put _ (some 41) _) _
            simp only [Act.put]
            try simp only [List.setIfInBounds_toArray, List.set_cons_zero, List.set_cons_succ]
            refine wpAnyH_take (i := 4) (v := .bool false) rfl (by kernel_rfl) (by kernel_rfl) (by kernel_rfl) (fun _ _ _ h => h) (Or.inl ⟨by kernel_rfl, fun u hSw => (by go_simp)⟩) hS ?_
            change wpAnyH _ _ _ _ _ _ _ (Act.put _ (some 42) _) _
            simp only [Act.put]
            try simp only [List.setIfInBounds_toArray, List.set_cons_zero, List.set_cons_succ]
            refine wpAnyH_take (i := 5) (v := .bool false) rfl (by kernel_rfl) (by kernel_rfl) (by kernel_rfl) (fun _ _ _ h => h) (Or.inl ⟨by kernel_rfl, fun u hSw => (by go_simp)⟩) hS ?_
            change wpAnyH _ _ _ _ _ _ _ (Act.put _ (some 43) _) _
            simp only [Act.put]
            try simp only [List.setIfInBounds_toArray, List.set_cons_zero, List.set_cons_succ]
            refine wpAnyH_take (i := 6) (v := .bool true) rfl (by kernel_rfl) (by kernel_rfl) (by kernel_rfl) (fun _ _ _ h => h) (Or.inl ⟨by kernel_rfl, fun u hSw => (by go_simp)⟩) hS ?_
            change wpAnyH _ _ _ _ _ _ _ (Act.put _ (some 44) _) _
            simp only [Act.put]
            try simp only [List.setIfInBounds_toArray, List.set_cons_zero, List.set_cons_succ]
            refine wpAnyH_take (i := 7) (v := .bool true) rfl (by kernel_rfl) (by kernel_rfl) (by kernel_rfl) (fun _ _ _ h => h) (Or.inl ⟨by kernel_rfl, fun u hSw => (by go_simp)⟩) hS ?_
            change wpAnyH _ _ _ _ _ _ _ (Act.put _ (some 45) _) _
            simp only [Act.put]
            try simp only [List.setIfInBounds_toArray, List.set_cons_zero, List.set_cons_succ]
            refine wpAnyH_take (i := 8) (v := .int .i64 190) rfl (by kernel_rfl) (by kernel_rfl) (by kernel_rfl) (fun _ _ _ h => h) (Or.inl ⟨by kernel_rfl, fun u hSw => (by go_simp)⟩) hS ?_
            change wpAnyH _ _ _ _ _ _ _ (Act.put _ (some 46) _) _
            simp only [Act.put]
            try simp only [List.setIfInBounds_toArray, List.set_cons_zero, List.set_cons_succ]
            refine wpAnyH_take (i := 9) (v := .bool false) rfl (by kernel_rfl) (by kernel_rfl) (by kernel_rfl) (fun _ _ _ h => h) (Or.inl ⟨by kernel_rfl, fun u hSw => (by go_simp)⟩) hS ?_
            change wpAnyH _ _ _ _ _ _ _ (Act.put _ (some 47) _) _
            simp only [Act.put]
            try simp only [List.setIfInBounds_toArray, List.set_cons_zero, List.set_cons_succ]
            refine wpAnyH_take (i := 10) (v := .bool false) rfl (by kernel_rfl) (by kernel_rfl) (by kernel_rfl) (fun _ _ _ h => h) (Or.inl ⟨by kernel_rfl, fun u hSw => (by go_simp)⟩) hS ?_
            change wpAnyH _ _ _ _ _ _ _ (Act.put _ (some 48) _) _
            simp only [Act.put]
            try simp only [List.setIfInBounds_toArray, List.set_cons_zero, List.set_cons_succ]
            refine wpAnyH_take (i := 11) (v := .bool false) rfl (by kernel_rfl) (by kernel_rfl) (by kernel_rfl) (fun _ _ _ h => h) (Or.inl ⟨by kernel_rfl, fun u hSw => (by go_simp)⟩) hS ?_
            change wpAnyH _ _ _ _ _ _ _ (Act.put _ (some 49) _) _
            simp only [Act.put]
            try simp only [List.setIfInBounds_toArray, List.set_cons_zero, List.set_cons_succ]
            refine wpAnyH_take (i := 12) (v := .bool false) rfl (by kernel_rfl) (by kernel_rfl) (by kernel_rfl) (fun _ _ _ h => h) (Or.inl ⟨by kernel_rfl, fun u hSw => (by go_simp)⟩) hS ?_
            change wpAnyH _ _ _ _ _ _ _ (Act.put _ (some 50) _) _
            simp only [Act.put]
            try simp only [List.setIfInBounds_toArray, List.set_cons_zero, List.set_cons_succ]
            refine wpAnyH_take (i := 13) (v := .agg #[.slice A n c, .slice B m d]) rfl (by kernel_rfl) (by kernel_rfl) (by kernel_rfl) (fun _ _ _ h => h) (Or.inl ⟨by kernel_rfl, fun u hSw => (by have q0 := (HX.out u hSw).1.cell 0; have q1 := (HX.out u hSw).1.cell 1; go_simp)⟩) hS ?_
            change wpAnyH _ _ _ _ _ _ _ (Act.put _ (some 51) _) _
            simp only [Act.put]
            try simp only [List.setIfInBounds_toArray, List.set_cons_zero, List.set_cons_succ]
            refine wpAnyH_take (i := 14) (v := .agg #[.slice A' n' c', .slice B' m' d']) rfl (by kernel_rfl) (by kernel_rfl) (by kernel_rfl) (fun _ _ _ h => h) (Or.inl ⟨by kernel_rfl, fun u hSw => (by have q0 := (HX.out u hSw).2.cell 0; have q1 := (HX.out u hSw).2.cell 1; go_simp)⟩) hS ?_
            change wpAnyH _ _ _ _ _ _ _ (Act.put _ (some 52) _) _
            simp only [Act.put]
            try simp only [List.setIfInBounds_toArray, List.set_cons_zero, List.set_cons_succ]
            refine wpAnyH_take (i := 16) (v := .agg #[.slice A n c, .slice B m d]) rfl (by kernel_rfl) (by kernel_rfl) (by kernel_rfl) (fun _ _ _ h => h) (Or.inl ⟨by kernel_rfl, fun u hSw => (by have q0 := (HX.out u hSw).1.cell 0; have q1 := (HX.out u hSw).1.cell 1; go_simp)⟩) hS ?_
            change wpAnyH _ _ _ _ _ _ _ (Act.put _ (some 54) _) _
            simp only [Act.put]
            try simp only [List.setIfInBounds_toArray, List.set_cons_zero, List.set_cons_succ]
            refine wpAnyH_take (i := 17) (v := .agg #[.slice A' n' c', .slice B' m' d']) rfl (by kernel_rfl) (by kernel_rfl) (by kernel_rfl) (fun _ _ _ h => h) (Or.inl ⟨by kernel_rfl, fun u hSw => (by have q0 := (HX.out u hSw).2.cell 0; have q1 := (HX.out u hSw).2.cell 1; go_simp)⟩) hS ?_
            change wpAnyH _ _ _ _ _ _ _ (Act.put _ (some 55) _) _
            simp only [Act.put]
            try simp only [List.setIfInBounds_toArray, List.set_cons_zero, List.set_cons_succ]
            refine wpAnyH_ready (rs := [15]) (by kernel_rfl) (by simp) ?_
            refine AllReadyH.cons rfl (fun K hK => ?_) AllReadyH.nil
            go_simp
            refine (HS1.out _ (HB.out _ D)).mono ?_
            rintro e1 w1 ⟨rfl, h9⟩
            replace D := D.trans (h9.mono D.size)
            clear h9
            refine hK.out _ _ D (fun hS => ?_)
            clear hK K
            refine wpAnyH_ready (rs := [18]) (by kernel_rfl) (by simp) ?_
            refine AllReadyH.cons rfl (fun K hK => ?_) AllReadyH.nil
            go_simp
            refine (HS2.out _ (HB.out _ D)).mono ?_
            rintro e2 w2 ⟨rfl, h9⟩
            replace D := D.trans (h9.mono D.size)
            clear h9
            refine hK.out _ _ D (fun hS => ?_)
            clear hK K
            refine wpAnyH_take (i := 19) (v := .bool false) rfl (by kernel_rfl) (by kernel_rfl) (by kernel_rfl) (fun _ _ _ h => h) (Or.inl ⟨by kernel_rfl, fun u hSw => (by go_simp)⟩) hS ?_
            change wpAnyH _ _ _ _ _ _ _ (Act.put _ (some 57) _) _
            simp only [Act.put]
            try simp only [List.setIfInBounds_toArray, List.set_cons_zero, List.set_cons_succ]
            refine wpAnyH_take (i := 20) (v := .bool false) rfl (by kernel_rfl) (by kernel_rfl) (by kernel_rfl) (fun _ _ _ h => h) (Or.inl ⟨by kernel_rfl, fun u hSw => (by go_simp)⟩) hS ?_
            change wpAnyH _ _ _ _ _ _ _ (Act.put _ (some 58) _) _
            simp only [Act.put]
            try simp only [List.setIfInBounds_toArray, List.set_cons_zero, List.set_cons_succ]
            refine wpAnyH_take (i := 21) (v := .bool false) rfl (by kernel_rfl) (by kernel_rfl) (by kernel_rfl) (fun _ _ _ h => h) (Or.inl ⟨by kernel_rfl, fun u hSw => (by go_simp)⟩) hS ?_
            change wpAnyH _ _ _ _ _ _ _ (Act.put _ (some 59) _) _
            simp only [Act.put]
            try simp only [List.setIfInBounds_toArray, List.set_cons_zero, List.set_cons_succ]
            refine wpAnyH_take (i := 22) (v := .agg #[.slice A n c, .slice B m d]) rfl (by kernel_rfl) (by kernel_rfl) (by kernel_rfl) (fun _ _ _ h => h) (Or.inl ⟨by kernel_rfl, fun u hSw => (by have q0 := (HX.out u hSw).1.cell 0; have q1 := (HX.out u hSw).1.cell 1; go_simp)⟩) hS ?_
            change wpAnyH _ _ _ _ _ _ _ (Act.put _ (some 60) _) _
            simp only [Act.put]
            try simp only [List.setIfInBounds_toArray, List.set_cons_zero, List.set_cons_succ]
            refine wpAnyH_take (i := 23) (v := .agg #[.slice A n c, .slice B m d]) rfl (by kernel_rfl) (by kernel_rfl) (by kernel_rfl) (fun _ _ _ h => h) (Or.inl ⟨by kernel_rfl, fun u hSw => (by have q0 := (HX.out u hSw).1.cell 0; have q1 := (HX.out u hSw).1.cell 1; go_simp)⟩) hS ?_
            change wpAnyH _ _ _ _ _ _ _ (Act.put _ (some 61) _) _
            simp only [Act.put]
            try simp only [List.setIfInBounds_toArray, List.set_cons_zero, List.set_cons_succ]
            refine wpAnyH_ready (rs := [24]) (by kernel_rfl) (by simp) ?_
            refine AllReadyH.cons rfl (fun K hK => ?_) AllReadyH.nil
            go_simp
            refine (HCp.out _ (HB.out _ D)).mono ?_
            rintro e3 w3 ⟨A6, c6, B6, d6, rfl, G6, h9⟩
            replace D := D.trans (h9.mono D.size)
            clear h9
            refine hK.out _ _ D (fun hS => ?_)
            clear hK K
            refine wpAnyH_ready (rs := [25]) (by kernel_rfl) (by simp) ?_
            refine AllReadyH.cons rfl (fun K hK => ?_) AllReadyH.nil
            go_simp
            refine (HS3.out _ _ _ _ _ (HB.out _ D) G6).mono ?_
            rintro e4 w4 ⟨rfl, h9⟩
            replace D := D.trans (h9.mono D.size)
            clear G6
            clear h9
            refine hK.out _ _ D (fun hS => ?_)
            clear hK K
            refine wpAnyH_take (i := 26) (v := .bool false) rfl (by kernel_rfl) (by kernel_rfl) (by kernel_rfl) (fun _ _ _ h => h) (Or.inl ⟨by kernel_rfl, fun u hSw => (by go_simp)⟩) hS ?_
            change wpAnyH _ _ _ _ _ _ _ (Act.put _ (some 64) _) _
            simp only [Act.put]
            try simp only [List.setIfInBounds_toArray, List.set_cons_zero, List.set_cons_succ]
            refine wpAnyH_take (i := 27) (v := .bool false) rfl (by kernel_rfl) (by kernel_rfl) (by kernel_rfl) (fun _ _ _ h => h) (Or.inl ⟨by kernel_rfl, fun u hSw => (by go_simp)⟩) hS ?_
            change wpAnyH _ _ _ _ _ _ _ (Act.put _ (some 65) _) _
            simp only [Act.put]
            try simp only [List.setIfInBounds_toArray, List.set_cons_zero, List.set_cons_succ]
            refine wpAnyH_done (by kernel_rfl) ?_ _
            clear hS
            go_wp2_with fail
            try go_simp
            go_meet
            exact ⟨rfl, D⟩
          case rest =>
            obtain ⟨rfl, h9⟩ := hcut
            rename World => X1
            replace K0 := K0.below h9 K0.lt
            replace K1 := K1.below h9 K1.lt
            replace GB := GB.trans (h9.mono GB.size)
            clear h9
            have zK00 := K0.cell 0
            have zK01 := K0.cell 1
            go_wp2_with fail
            refine (HDq.out _ GB).mono ?_
            rintro e w7 ⟨rfl, h9⟩
            replace K0 := K0.below h9 K0.lt
            replace K1 := K1.below h9 K1.lt
            replace GB := GB.trans (h9.mono GB.size)
            clear h9
            clear zK00 zK01
            have K9 := Blk.new w7 27 #[.int .i64 0, .int .i64 0, .int .i64 0, .int .i64 0]
            replace K0 := K0.alloc (.cells #[.int .i64 0, .int .i64 0, .int .i64 0, .int .i64 0] 27)
            replace K1 := K1.alloc (.cells #[.int .i64 0, .int .i64 0, .int .i64 0, .int .i64 0] 27)
            replace GB := GB.alloc GB.size (.cells #[.int .i64 0, .int .i64 0, .int .i64 0, .int .i64 0] 27)
            have zK00 := K0.cell 0
            have zK01 := K0.cell 1
            go_wp2_with fail
            refine (HVq.out _ GB).mono ?_
            rintro e w8 ⟨rfl, h9⟩
            replace K0 := K0.below h9 K0.lt
            replace K1 := K1.below h9 K1.lt
            replace K9 := K9.below h9 K9.lt
            replace GB := GB.trans (h9.mono GB.size)
            clear h9
            clear zK00 zK01
            have K11 := Blk.new w8 50 #[.int .i64 0, .int .i64 0, .int .u32 0, .int .u32 0]
            replace K0 := K0.alloc (.cells #[.int .i64 0, .int .i64 0, .int .u32 0, .int .u32 0] 50)
            replace K1 := K1.alloc (.cells #[.int .i64 0, .int .i64 0, .int .u32 0, .int .u32 0] 50)
            replace K9 := K9.alloc (.cells #[.int .i64 0, .int .i64 0, .int .u32 0, .int .u32 0] 50)
            replace GB := GB.alloc GB.size (.cells #[.int .i64 0, .int .i64 0, .int .u32 0, .int .u32 0] 50)
            go_upto_region 11 with fail
            obtain ⟨Y1, hY1⟩ : ∃ Y, Y = w8.alloc (.cells #[.int .i64 0, .int .i64 0, .int .u32 0, .int .u32 0] 50) := ⟨_, rfl⟩
            rw [← hY1] at K0 K1 K9 K11 GB ⊢
            clear hY1
            go_cut [13, 14] (fun s13 s14 X => ∃ (Ao : Option Addr) (co : Nat) (Ai : Option Addr) (ci : Nat), s13 = .slice Ao 0 co ∧ s14 = .slice Ai 0 ci ∧ IR X Ao 0 [] ∧ IR X Ai 0 [] ∧ Below Y1.heap.size Y1 X)
            case first =>
              have HX := Lib.hid (fun (u : World) (h : Below Y1.heap.size Y1 u) => K0.below h K0.lt)
              have HB := Lib.hid (fun (u : World) (h : Below Y1.heap.size Y1 u) => GB.trans (h.mono GB.size))
              have D := (Below.refl Y1.heap.size Y1).drew
              refine wp_region_held_drew (S := fun u => Below Y1.heap.size Y1 u) (by kernel_rfl) D (fun hS => ?_)
              generalize Y1.drew = V at D hS ⊢
              refine wpAnyH_take (i := 0) (v := .agg #[.slice A n c, .slice B m d]) rfl (by kernel_rfl) (by kernel_rfl) (by kernel_rfl) (fun _ _ _ h => h) (Or.inl ⟨by kernel_rfl, fun u hSw => (by have q0 := (HX.out u hSw).cell 0; have q1 := (HX.out u hSw).cell 1; go_simp)⟩) hS ?_
              change wpAnyH _ _ _ _ _ _ _ (Act.put _ (some 78) _) _
              simp only [Act.put]
              refine wpAnyH_take (i := 1) (v := .int .i64 id) rfl (by kernel_rfl) (by kernel_rfl) (by kernel_rfl) (fun _ _ _ h => h) (Or.inl ⟨by kernel_rfl, fun u hSw => (by go_simp)⟩) hS ?_
              change wpAnyH _ _ _ _ _ _ _ (Act.put _ (some 79) _) _
              simp only [Act.put]
              refine wpAnyH_take (i := 3) (v := .agg #[.slice A n c, .slice B m d]) rfl (by kernel_rfl) (by kernel_rfl) (by kernel_rfl) (fun _ _ _ h => h) (Or.inl ⟨by kernel_rfl, fun u hSw => (by have q0 := (HX.out u hSw).cell 0; have q1 := (HX.out u hSw).cell 1; go_simp)⟩) hS ?_
              change wpAnyH _ _ _ _ _ _ _ (Act.put _ (some 81) _) _
              simp only [Act.put]
              refine wpAnyH_take (i := 4) (v := .int .i64 id) rfl (by kernel_rfl) (by kernel_rfl) (by kernel_rfl) (fun _ _ _ h => h) (Or.inl ⟨by kernel_rfl, fun u hSw => (by go_simp)⟩) hS ?_
              change wpAnyH _ _ _ _ _ _ _ (Act.put _ (some 82) _) _
              simp only [Act.put]
              refine wpAnyH_ready (rs := [2]) (by kernel_rfl) (by simp) ?_
              refine AllReadyH.cons rfl (fun K hK => ?_) AllReadyH.nil
              go_simp
              refine (HOf.out _ (HB.out _ D)).mono ?_
              rintro e1 w1 ⟨Ao, co, rfl, qo, oo, h9⟩
              have RO : IR w1 Ao _ [] := ⟨Reads.of_own oo⟩
              replace D := D.trans (h9.mono D.size)
              clear h9 qo oo
              refine hK.out _ _ D (fun hS => ?_)
              clear hK K
              refine wpAnyH_ready (rs := [5]) (by kernel_rfl) (by simp) ?_
              refine AllReadyH.cons rfl (fun K hK => ?_) AllReadyH.nil
              go_simp
              refine (HIn.out _ (HB.out _ D)).mono ?_
              rintro e2 w2 ⟨Ai, ci, rfl, qi, oi, h9⟩
              replace RO := RO.below h9
              have RI : IR w2 Ai _ [] := ⟨Reads.of_own oi⟩
              replace D := D.trans (h9.mono D.size)
              clear h9 qi oi
              refine hK.out _ _ D (fun hS => ?_)
              clear hK K
              refine wpAnyH_take (i := 6) (v := .slice Ao 0 co) rfl (by kernel_rfl) (by kernel_rfl) (by kernel_rfl) (fun _ _ _ h => h) (Or.inl ⟨by kernel_rfl, fun u hSw => (by go_simp)⟩) hS ?_
              change wpAnyH _ _ _ _ _ _ _ (Act.put _ (some 13) _) _
              simp only [Act.put]
              refine wpAnyH_take (i := 7) (v := .slice Ai 0 ci) rfl (by kernel_rfl) (by kernel_rfl) (by kernel_rfl) (fun _ _ _ h => h) (Or.inl ⟨by kernel_rfl, fun u hSw => (by go_simp)⟩) hS ?_
              change wpAnyH _ _ _ _ _ _ _ (Act.put _ (some 14) _) _
              simp only [Act.put]
              refine wpAnyH_done (by kernel_rfl) ?_ _
              clear hS
              go_wp2_with fail
              try go_simp
              go_meet
              exact ⟨Ao, co, Ai, ci, rfl, rfl, RO, RI, D⟩
            case rest =>
              obtain ⟨Ao, co, Ai, ci, rfl, rfl, RO, RI, h9⟩ := hcut
              rename World => X2
              replace K0 := K0.below h9 K0.lt
              replace K1 := K1.below h9 K1.lt
              replace K9 := K9.below h9 K9.lt
              replace K11 := K11.below h9 K11.lt
              replace GB := GB.trans (h9.mono GB.size)
              clear h9
              clear RO RI
              have zK00 := K0.cell 0
              have zK01 := K0.cell 1
              go_wp2_with fail
              refine (HRt.out _ GB).mono ?_
              rintro e w9 ⟨rfl, h9⟩
              replace K0 := K0.below h9 K0.lt
              replace K1 := K1.below h9 K1.lt
              replace K9 := K9.below h9 K9.lt
              replace K11 := K11.below h9 K11.lt
              replace GB := GB.trans (h9.mono GB.size)
              clear h9
              clear zK00 zK01
              have zK00 := K0.cell 0
              have zK01 := K0.cell 1
              go_wp2_with fail
              refine (HWq.out _ GB).mono ?_
              rintro e w10 ⟨rfl, h9⟩
              replace K0 := K0.below h9 K0.lt
              replace K1 := K1.below h9 K1.lt
              replace K9 := K9.below h9 K9.lt
              replace K11 := K11.below h9 K11.lt
              replace GB := GB.trans (h9.mono GB.size)
              clear h9
              clear zK00 zK01
              have zK90 := K9.cell 0
              have zK91 := K9.cell 1
              have zK92 := K9.cell 2
              have zK93 := K9.cell 3
              have zK110 := K11.cell 0
              have zK111 := K11.cell 1
              have zK112 := K11.cell 2
              have zK113 := K11.cell 3
              have HF := Lib.hid GB
              clear K0 K1 K9 K11 GB
              go_wp2
              go_ret
              exact ⟨rfl, HF.out⟩
      | true =>
        have hP := rightG_iff.1 hr
        rw [hr] at HRg
        rw [show chkG ds us = 0 from if_pos hr] at HCk
        rw [show domQ ds us id = domV ds id from if_pos hr] at HDq
        have hvq : vcQ ds us id = vcV us id := if_pos hr
        rw [hvq] at HVq
        rw [show weighQ ds us id = weighK ds us id ds.length from if_pos hr] at HWq
        rw [show idsQ (fun v => v.2.1 == id) ds us = ofL us id from if_pos hr] at HOf
        rw [show idsQ (fun v => (domV ds v.2.1).1.2.2.2 == id) ds us = inL ds us id from if_pos hr] at HIn
        have HWr := Lib.hid (fun (u : World) (h : Below w.heap.size w u) => rweights_any A n c ds B m d us id u (HG.out.below h) hP)
        have HDr := Lib.hid (fun (u : World) (h : Below w.heap.size w u) => rdom_any A n c ds B m d us id u (HG.out.below h))
        have HVr := Lib.hid (fun (u : World) (h : Below w.heap.size w u) => rvc_any A n c ds B m d us id u (HG.out.below h))
        have HOr := Lib.hid (fun (u : World) (h : Below w.heap.size w u) => rofG_any A n c ds B m d us id u (HG.out.below h))
        have HIr := Lib.hid (fun (u : World) (h : Below w.heap.size w u) => rinG_any A n c ds B m d us id u (HG.out.below h))
        have hlo := ofL_le us id
        have hli := idsL_le (fun v => (domV ds v.2.1).1.2.2.2 == id) us
        rw [idsL_in] at hli
        have hvn := hP.vn
        obtain ⟨LO, hLO⟩ : ∃ l, ofL us id = l := ⟨_, rfl⟩
        obtain ⟨LI, hLI⟩ : ∃ l, inL ds us id = l := ⟨_, rfl⟩
        obtain ⟨wq, hwq⟩ : ∃ l, weighK ds us id ds.length = l := ⟨_, rfl⟩
        rw [hLO] at HOf HOr hlo
        rw [hLI] at HIn HIr hli
        rw [hwq] at HWq HWr
        have H16 : Hid (LO.length ≤ 100 ∧ LI.length ≤ 100) := Lib.hid (by omega)
        obtain ⟨⟨⟨p1, p2, p3, p4⟩, pt⟩, hp⟩ : ∃ y, domV ds id = y := ⟨_, rfl⟩
        rw [hp] at HDq HDr
        obtain ⟨⟨⟨q1, q2, q3, q4⟩, qt⟩, hq⟩ : ∃ y, vcV us id = y := ⟨_, rfl⟩
        rw [hq] at HVq HVr hvq
        have HDz := Lib.hid (fun (u : World) (h : Below w.heap.size w u) => rdom_any A n c ds B m d us q2 u (HG.out.below h))
        have HOz := Lib.hid (fun (u : World) (h : Below w.heap.size w u) => rofG_any A n c ds B m d us q2 u (HG.out.below h))
        obtain ⟨⟨⟨z1, z2, z3, z4⟩, zt⟩, hz⟩ : ∃ y, domV ds q2 = y := ⟨_, rfl⟩
        rw [hz] at HDz
        obtain ⟨QQ, hQQ⟩ : ∃ q, (ofL us q2).length = q := ⟨_, rfl⟩
        have HQQ := Lib.hid hQQ
        cases qt with
        | true =>
          have hrt := rate_yes hvq
          rw [hz, hQQ] at hrt
          rw [hrt] at HRt
          clear hrt hQQ hz hq hp hwq hLI hLO hvn hli hlo hvq hP hr
          as_aux_lemma =>
            go_enter Try.func5, Try.ntmps5
            go_wp2_with fail
            refine (HWk.out _).mono ?_
            rintro e w1 ⟨rfl, h9⟩
            replace K0 := K0.below h9 K0.lt
            replace K1 := K1.below h9 K1.lt
            replace GB := GB.trans (h9.mono GB.size)
            clear h9
            have zK00 := K0.cell 0
            have zK01 := K0.cell 1
            go_wp2_with fail
            refine (HOv.out _).mono ?_
            rintro e w2 ⟨rfl, h9⟩
            replace K0 := K0.below h9 K0.lt
            replace K1 := K1.below h9 K1.lt
            replace GB := GB.trans (h9.mono GB.size)
            clear h9
            clear zK00 zK01
            have zK10 := K1.cell 0
            have zK11 := K1.cell 1
            go_wp2_with fail
            refine (HOw.out _).mono ?_
            rintro e w3 ⟨rfl, h9⟩
            replace K0 := K0.below h9 K0.lt
            replace K1 := K1.below h9 K1.lt
            replace GB := GB.trans (h9.mono GB.size)
            clear h9
            clear zK10 zK11
            have zK00 := K0.cell 0
            have zK01 := K0.cell 1
            go_wp2_with fail
            refine (HRg.out _ GB).mono ?_
            rintro e w4 ⟨rfl, h9⟩
            replace K0 := K0.below h9 K0.lt
            replace K1 := K1.below h9 K1.lt
            replace GB := GB.trans (h9.mono GB.size)
            clear h9
            clear zK00 zK01
            have zK00 := K0.cell 0
            have zK01 := K0.cell 1
            go_wp2_with fail
            refine (HCp.out _ GB).mono ?_
            rintro e w5 ⟨A5, c5, B5, d5, rfl, G5, h9⟩
            replace K0 := K0.below h9 K0.lt
            replace K1 := K1.below h9 K1.lt
            replace GB := GB.trans (h9.mono GB.size)
            clear h9
            clear zK00 zK01
            go_wp2_with fail
            refine (HCk.out _ _ _ _ _ G5).mono ?_
            rintro e w6 ⟨rfl, h9⟩
            replace K0 := K0.below h9 K0.lt
            replace K1 := K1.below h9 K1.lt
            replace G5 := G5.below h9
            replace GB := GB.trans (h9.mono GB.size)
            clear h9
            clear G5
            go_upto_region 7 with fail
            skip
            go_cut [65] (fun s65 X => s65 = .bool false ∧ Below w6.heap.size w6 X)
            case first =>
              have HX := Lib.hid (fun (u : World) (h : Below w6.heap.size w6 u) => And.intro (K0.below h K0.lt) (K1.below h K1.lt))
              have HB := Lib.hid (fun (u : World) (h : Below w6.heap.size w6 u) => GB.trans (h.mono GB.size))
              have D := (Below.refl w6.heap.size w6).drew
              refine wp_region_held_drew (S := fun u => Below w6.heap.size w6 u) (by kernel_rfl) D (fun hS => ?_)
              generalize w6.drew = V at D hS ⊢
              refine wpAnyH_take (i := 0) (v := .bool true) rfl (by kernel_rfl) (by kernel_rfl) (by kernel_rfl) (fun _ _ _ h => h) (Or.inl ⟨by kernel_rfl, fun u hSw => (by go_simp)⟩) hS ?_
              change wpAnyH _ _ _ _ _ _ _ (Act.put _ (some 38) _) _
              simp only [Act.put]
              try simp only [List.setIfInBounds_toArray, List.set_cons_zero, List.set_cons_succ]
              refine wpAnyH_take (i := 1) (v := .int .i64 0) rfl (by kernel_rfl) (by kernel_rfl) (by kernel_rfl) (fun _ _ _ h => h) (Or.inl ⟨by kernel_rfl, fun u hSw => (by go_simp)⟩) hS ?_
              change wpAnyH _ _ _ _ _ _ _ (Act.put _ (some 39) _) _
              simp only [Act.put]
              try simp only [List.setIfInBounds_toArray, List.set_cons_zero, List.set_cons_succ]
              refine wpAnyH_take (i := 2) (v := .bool true) rfl (by kernel_rfl) (by kernel_rfl) (by kernel_rfl) (fun _ _ _ h => h) (Or.inl ⟨by kernel_rfl, fun u hSw => (by go_simp)⟩) hS ?_
              change wpAnyH _ _ _ _ _ _ _ (Act.put _ (some 40) _) _
              simp only [Act.put]
              try simp only [List.setIfInBounds_toArray, List.set_cons_zero, List.set_cons_succ]
              refine wpAnyH_take (i := 3) (v := .bool false) rfl (by kernel_rfl) (by kernel_rfl) (by kernel_rfl) (fun _ _ _ h => h) (Or.inl ⟨by kernel_rfl, fun u hSw => (by go_simp)⟩) hS ?_
              change wpAnyH _ _ _ _ _ _ _ (Act.put _ (some 41) _) _
              simp only [Act.put]
              try simp only [List.setIfInBounds_toArray, List.set_cons_zero, List.set_cons_succ]
              refine wpAnyH_take (i := 4) (v := .bool false) rfl (by kernel_rfl) (by kernel_rfl) (by kernel_rfl) (fun _ _ _ h => h) (Or.inl ⟨by kernel_rfl, fun u hSw => (by go_simp)⟩) hS ?_
              change wpAnyH _ _ _ _ _ _ _ (Act.put _ (some 42) _) _
              simp only [Act.put]
              try simp only [List.setIfInBounds_toArray, List.set_cons_zero, List.set_cons_succ]
              refine wpAnyH_take (i := 5) (v := .bool true) rfl (by kernel_rfl) (by kernel_rfl) (by kernel_rfl) (fun _ _ _ h => h) (Or.inl ⟨by kernel_rfl, fun u hSw => (by go_simp)⟩) hS ?_
              change wpAnyH _ _ _ _ _ _ _ (Act.put _ (some 43) _) _
              simp only [Act.put]
              try simp only [List.setIfInBounds_toArray, List.set_cons_zero, List.set_cons_succ]
              refine wpAnyH_take (i := 6) (v := .bool false) rfl (by kernel_rfl) (by kernel_rfl) (by kernel_rfl) (fun _ _ _ h => h) (Or.inl ⟨by kernel_rfl, fun u hSw => (by go_simp)⟩) hS ?_
              change wpAnyH _ _ _ _ _ _ _ (Act.put _ (some 44) _) _
              simp only [Act.put]
              try simp only [List.setIfInBounds_toArray, List.set_cons_zero, List.set_cons_succ]
              refine wpAnyH_take (i := 7) (v := .bool false) rfl (by kernel_rfl) (by kernel_rfl) (by kernel_rfl) (fun _ _ _ h => h) (Or.inl ⟨by kernel_rfl, fun u hSw => (by go_simp)⟩) hS ?_
              change wpAnyH _ _ _ _ _ _ _ (Act.put _ (some 45) _) _
              simp only [Act.put]
              try simp only [List.setIfInBounds_toArray, List.set_cons_zero, List.set_cons_succ]
              refine wpAnyH_take (i := 8) (v := undef) rfl (by kernel_rfl) (by kernel_rfl) (by kernel_rfl) (fun _ _ _ h => h) (Or.inr ⟨by kernel_rfl, rfl⟩) hS ?_
              change wpAnyH _ _ _ _ _ _ _ (Act.put _ (some 46) _) _
              simp only [Act.put]
              try simp only [List.setIfInBounds_toArray, List.set_cons_zero, List.set_cons_succ]
              refine wpAnyH_take (i := 9) (v := undef) rfl (by kernel_rfl) (by kernel_rfl) (by kernel_rfl) (fun _ _ _ h => h) (Or.inr ⟨by kernel_rfl, rfl⟩) hS ?_
              change wpAnyH _ _ _ _ _ _ _ (Act.put _ (some 47) _) _
              simp only [Act.put]
              try simp only [List.setIfInBounds_toArray, List.set_cons_zero, List.set_cons_succ]
              refine wpAnyH_take (i := 10) (v := .bool false) rfl (by kernel_rfl) (by kernel_rfl) (by kernel_rfl) (fun _ _ _ h => h) (Or.inl ⟨by kernel_rfl, fun u hSw => (by go_simp)⟩) hS ?_
              change wpAnyH _ _ _ _ _ _ _ (Act.put _ (some 48) _) _
              simp only [Act.put]
              try simp only [List.setIfInBounds_toArray, List.set_cons_zero, List.set_cons_succ]
              refine wpAnyH_take (i := 11) (v := .bool false) rfl (by kernel_rfl) (by kernel_rfl) (by kernel_rfl) (fun _ _ _ h => h) (Or.inl ⟨by kernel_rfl, fun u hSw => (by go_simp)⟩) hS ?_
              change wpAnyH _ _ _ _ _ _ _ (Act.put _ (some 49) _) _
              simp only [Act.put]
              try simp only [List.setIfInBounds_toArray, List.set_cons_zero, List.set_cons_succ]
              refine wpAnyH_take (i := 12) (v := .bool false) rfl (by kernel_rfl) (by kernel_rfl) (by kernel_rfl) (fun _ _ _ h => h) (Or.inl ⟨by kernel_rfl, fun u hSw => (by go_simp)⟩) hS ?_
              change wpAnyH _ _ _ _ _ _ _ (Act.put _ (some 50) _) _
              simp only [Act.put]
              try simp only [List.setIfInBounds_toArray, List.set_cons_zero, List.set_cons_succ]
              refine wpAnyH_take (i := 13) (v := .agg #[.slice A n c, .slice B m d]) rfl (by kernel_rfl) (by kernel_rfl) (by kernel_rfl) (fun _ _ _ h => h) (Or.inl ⟨by kernel_rfl, fun u hSw => (by have q0 := (HX.out u hSw).1.cell 0; have q1 := (HX.out u hSw).1.cell 1; go_simp)⟩) hS ?_
              change wpAnyH _ _ _ _ _ _ _ (Act.put _ (some 51) _) _
              simp only [Act.put]
              try simp only [List.setIfInBounds_toArray, List.set_cons_zero, List.set_cons_succ]
              refine wpAnyH_take (i := 14) (v := .agg #[.slice A' n' c', .slice B' m' d']) rfl (by kernel_rfl) (by kernel_rfl) (by kernel_rfl) (fun _ _ _ h => h) (Or.inl ⟨by kernel_rfl, fun u hSw => (by have q0 := (HX.out u hSw).2.cell 0; have q1 := (HX.out u hSw).2.cell 1; go_simp)⟩) hS ?_
              change wpAnyH _ _ _ _ _ _ _ (Act.put _ (some 52) _) _
              simp only [Act.put]
              try simp only [List.setIfInBounds_toArray, List.set_cons_zero, List.set_cons_succ]
              refine wpAnyH_take (i := 16) (v := .agg #[.slice A n c, .slice B m d]) rfl (by kernel_rfl) (by kernel_rfl) (by kernel_rfl) (fun _ _ _ h => h) (Or.inl ⟨by kernel_rfl, fun u hSw => (by have q0 := (HX.out u hSw).1.cell 0; have q1 := (HX.out u hSw).1.cell 1; go_simp)⟩) hS ?_
              change wpAnyH _ _ _ _ _ _ _ (Act.put _ (some 54) _) _
              simp only [Act.put]
              try simp only [List.setIfInBounds_toArray, List.set_cons_zero, List.set_cons_succ]
              refine wpAnyH_take (i := 17) (v := .agg #[.slice A' n' c', .slice B' m' d']) rfl (by kernel_rfl) (by kernel_rfl) (by kernel_rfl) (fun _ _ _ h => h) (Or.inl ⟨by kernel_rfl, fun u hSw => (by have q0 := (HX.out u hSw).2.cell 0; have q1 := (HX.out u hSw).2.cell 1; go_simp)⟩) hS ?_
              change wpAnyH _ _ _ _ _ _ _ (Act.put _ (some 55) _) _
              simp only [Act.put]
              try simp only [List.setIfInBounds_toArray, List.set_cons_zero, List.set_cons_succ]
              refine wpAnyH_ready (rs := [15]) (by kernel_rfl) (by simp) ?_
              refine AllReadyH.cons rfl (fun K hK => ?_) AllReadyH.nil
              go_simp
              refine (HS1.out _ (HB.out _ D)).mono ?_
              rintro e1 w1 ⟨rfl, h9⟩
              replace D := D.trans (h9.mono D.size)
              clear h9
              refine hK.out _ _ D (fun hS => ?_)
              clear hK K
              refine wpAnyH_ready (rs := [18]) (by kernel_rfl) (by simp) ?_
              refine AllReadyH.cons rfl (fun K hK => ?_) AllReadyH.nil
              go_simp
              refine (HS2.out _ (HB.out _ D)).mono ?_
              rintro e2 w2 ⟨rfl, h9⟩
              replace D := D.trans (h9.mono D.size)
              clear h9
              refine hK.out _ _ D (fun hS => ?_)
              clear hK K
              refine wpAnyH_take (i := 19) (v := .bool false) rfl (by kernel_rfl) (by kernel_rfl) (by kernel_rfl) (fun _ _ _ h => h) (Or.inl ⟨by kernel_rfl, fun u hSw => (by go_simp)⟩) hS ?_
              change wpAnyH _ _ _ _ _ _ _ (Act.put _ (some 57) _) _
              simp only [Act.put]
              try simp only [List.setIfInBounds_toArray, List.set_cons_zero, List.set_cons_succ]
              refine wpAnyH_take (i := 20) (v := .bool false) rfl (by kernel_rfl) (by kernel_rfl) (by kernel_rfl) (fun _ _ _ h => h) (Or.inl ⟨by kernel_rfl, fun u hSw => (by go_simp)⟩) hS ?_
              change wpAnyH _ _ _ _ _ _ _ (Act.put _ (some 58) _) _
              simp only [Act.put]
              try simp only [List.setIfInBounds_toArray, List.set_cons_zero, List.set_cons_succ]
              refine wpAnyH_take (i := 21) (v := .bool false) rfl (by kernel_rfl) (by kernel_rfl) (by kernel_rfl) (fun _ _ _ h => h) (Or.inl ⟨by kernel_rfl, fun u hSw => (by go_simp)⟩) hS ?_
              change wpAnyH _ _ _ _ _ _ _ (Act.put _ (some 59) _) _
              simp only [Act.put]
              try simp only [List.setIfInBounds_toArray, List.set_cons_zero, List.set_cons_succ]
              refine wpAnyH_take (i := 22) (v := .agg #[.slice A n c, .slice B m d]) rfl (by kernel_rfl) (by kernel_rfl) (by kernel_rfl) (fun _ _ _ h => h) (Or.inl ⟨by kernel_rfl, fun u hSw => (by have q0 := (HX.out u hSw).1.cell 0; have q1 := (HX.out u hSw).1.cell 1; go_simp)⟩) hS ?_
              change wpAnyH _ _ _ _ _ _ _ (Act.put _ (some 60) _) _
              simp only [Act.put]
              try simp only [List.setIfInBounds_toArray, List.set_cons_zero, List.set_cons_succ]
              refine wpAnyH_take (i := 23) (v := .agg #[.slice A n c, .slice B m d]) rfl (by kernel_rfl) (by kernel_rfl) (by kernel_rfl) (fun _ _ _ h => h) (Or.inl ⟨by kernel_rfl, fun u hSw => (by have q0 := (HX.out u hSw).1.cell 0; have q1 := (HX.out u hSw).1.cell 1; go_simp)⟩) hS ?_
              change wpAnyH _ _ _ _ _ _ _ (Act.put _ (some 61) _) _
              simp only [Act.put]
              try simp only [List.setIfInBounds_toArray, List.set_cons_zero, List.set_cons_succ]
              refine wpAnyH_ready (rs := [24]) (by kernel_rfl) (by simp) ?_
              refine AllReadyH.cons rfl (fun K hK => ?_) AllReadyH.nil
              go_simp
              refine (HCp.out _ (HB.out _ D)).mono ?_
              rintro e3 w3 ⟨A6, c6, B6, d6, rfl, G6, h9⟩
              replace D := D.trans (h9.mono D.size)
              clear h9
              refine hK.out _ _ D (fun hS => ?_)
              clear hK K
              refine wpAnyH_ready (rs := [25]) (by kernel_rfl) (by simp) ?_
              refine AllReadyH.cons rfl (fun K hK => ?_) AllReadyH.nil
              go_simp
              refine (HS3.out _ _ _ _ _ (HB.out _ D) G6).mono ?_
              rintro e4 w4 ⟨rfl, h9⟩
              replace D := D.trans (h9.mono D.size)
              clear G6
              clear h9
              refine hK.out _ _ D (fun hS => ?_)
              clear hK K
              refine wpAnyH_take (i := 26) (v := .bool false) rfl (by kernel_rfl) (by kernel_rfl) (by kernel_rfl) (fun _ _ _ h => h) (Or.inl ⟨by kernel_rfl, fun u hSw => (by go_simp)⟩) hS ?_
              change wpAnyH _ _ _ _ _ _ _ (Act.put _ (some 64) _) _
              simp only [Act.put]
              try simp only [List.setIfInBounds_toArray, List.set_cons_zero, List.set_cons_succ]
              refine wpAnyH_take (i := 27) (v := .bool false) rfl (by kernel_rfl) (by kernel_rfl) (by kernel_rfl) (fun _ _ _ h => h) (Or.inl ⟨by kernel_rfl, fun u hSw => (by go_simp)⟩) hS ?_
              change wpAnyH _ _ _ _ _ _ _ (Act.put _ (some 65) _) _
              simp only [Act.put]
              try simp only [List.setIfInBounds_toArray, List.set_cons_zero, List.set_cons_succ]
              refine wpAnyH_done (by kernel_rfl) ?_ _
              clear hS
              go_wp2_with fail
              try go_simp
              go_meet
              exact ⟨rfl, D⟩
            case rest =>
              obtain ⟨rfl, h9⟩ := hcut
              rename World => X1
              replace K0 := K0.below h9 K0.lt
              replace K1 := K1.below h9 K1.lt
              replace GB := GB.trans (h9.mono GB.size)
              clear h9
              have zK00 := K0.cell 0
              have zK01 := K0.cell 1
              go_wp2_with fail
              refine (HDq.out _ GB).mono ?_
              rintro e w7 ⟨rfl, h9⟩
              replace K0 := K0.below h9 K0.lt
              replace K1 := K1.below h9 K1.lt
              replace GB := GB.trans (h9.mono GB.size)
              clear h9
              clear zK00 zK01
              have K9 := Blk.new w7 27 #[.int .i64 p1, .int .i64 p2, .int .i64 p3, .int .i64 p4]
              replace K0 := K0.alloc (.cells #[.int .i64 p1, .int .i64 p2, .int .i64 p3, .int .i64 p4] 27)
              replace K1 := K1.alloc (.cells #[.int .i64 p1, .int .i64 p2, .int .i64 p3, .int .i64 p4] 27)
              replace GB := GB.alloc GB.size (.cells #[.int .i64 p1, .int .i64 p2, .int .i64 p3, .int .i64 p4] 27)
              have zK00 := K0.cell 0
              have zK01 := K0.cell 1
              go_wp2_with fail
              refine (HVq.out _ GB).mono ?_
              rintro e w8 ⟨rfl, h9⟩
              replace K0 := K0.below h9 K0.lt
              replace K1 := K1.below h9 K1.lt
              replace K9 := K9.below h9 K9.lt
              replace GB := GB.trans (h9.mono GB.size)
              clear h9
              clear zK00 zK01
              have K11 := Blk.new w8 50 #[.int .i64 q1, .int .i64 q2, .int .u32 (q3 : Int), .int .u32 (q4 : Int)]
              replace K0 := K0.alloc (.cells #[.int .i64 q1, .int .i64 q2, .int .u32 (q3 : Int), .int .u32 (q4 : Int)] 50)
              replace K1 := K1.alloc (.cells #[.int .i64 q1, .int .i64 q2, .int .u32 (q3 : Int), .int .u32 (q4 : Int)] 50)
              replace K9 := K9.alloc (.cells #[.int .i64 q1, .int .i64 q2, .int .u32 (q3 : Int), .int .u32 (q4 : Int)] 50)
              replace GB := GB.alloc GB.size (.cells #[.int .i64 q1, .int .i64 q2, .int .u32 (q3 : Int), .int .u32 (q4 : Int)] 50)
              go_upto_region 11 with fail
              obtain ⟨Y1, hY1⟩ : ∃ Y, Y = w8.alloc (.cells #[.int .i64 q1, .int .i64 q2, .int .u32 (q3 : Int), .int .u32 (q4 : Int)] 50) := ⟨_, rfl⟩
              rw [← hY1] at K0 K1 K9 K11 GB ⊢
              clear hY1
              go_cut [13, 14] (fun s13 s14 X => ∃ (Ao : Option Addr) (co : Nat) (Ai : Option Addr) (ci : Nat), s13 = .slice Ao (LO.length) co ∧ s14 = .slice Ai (LI.length) ci ∧ IR X Ao (LO.length) LO ∧ IR X Ai (LI.length) LI ∧ Below Y1.heap.size Y1 X)
              case first =>
                have HX := Lib.hid (fun (u : World) (h : Below Y1.heap.size Y1 u) => K0.below h K0.lt)
                have HB := Lib.hid (fun (u : World) (h : Below Y1.heap.size Y1 u) => GB.trans (h.mono GB.size))
                have D := (Below.refl Y1.heap.size Y1).drew
                refine wp_region_held_drew (S := fun u => Below Y1.heap.size Y1 u) (by kernel_rfl) D (fun hS => ?_)
                generalize Y1.drew = V at D hS ⊢
                refine wpAnyH_take (i := 0) (v := .agg #[.slice A n c, .slice B m d]) rfl (by kernel_rfl) (by kernel_rfl) (by kernel_rfl) (fun _ _ _ h => h) (Or.inl ⟨by kernel_rfl, fun u hSw => (by have q0 := (HX.out u hSw).cell 0; have q1 := (HX.out u hSw).cell 1; go_simp)⟩) hS ?_
                change wpAnyH _ _ _ _ _ _ _ (Act.put _ (some 78) _) _
                simp only [Act.put]
                refine wpAnyH_take (i := 1) (v := .int .i64 id) rfl (by kernel_rfl) (by kernel_rfl) (by kernel_rfl) (fun _ _ _ h => h) (Or.inl ⟨by kernel_rfl, fun u hSw => (by go_simp)⟩) hS ?_
                change wpAnyH _ _ _ _ _ _ _ (Act.put _ (some 79) _) _
                simp only [Act.put]
                refine wpAnyH_take (i := 3) (v := .agg #[.slice A n c, .slice B m d]) rfl (by kernel_rfl) (by kernel_rfl) (by kernel_rfl) (fun _ _ _ h => h) (Or.inl ⟨by kernel_rfl, fun u hSw => (by have q0 := (HX.out u hSw).cell 0; have q1 := (HX.out u hSw).cell 1; go_simp)⟩) hS ?_
                change wpAnyH _ _ _ _ _ _ _ (Act.put _ (some 81) _) _
                simp only [Act.put]
                refine wpAnyH_take (i := 4) (v := .int .i64 id) rfl (by kernel_rfl) (by kernel_rfl) (by kernel_rfl) (fun _ _ _ h => h) (Or.inl ⟨by kernel_rfl, fun u hSw => (by go_simp)⟩) hS ?_
                change wpAnyH _ _ _ _ _ _ _ (Act.put _ (some 82) _) _
                simp only [Act.put]
                refine wpAnyH_ready (rs := [2]) (by kernel_rfl) (by simp) ?_
                refine AllReadyH.cons rfl (fun K hK => ?_) AllReadyH.nil
                go_simp
                refine (HOf.out _ (HB.out _ D)).mono ?_
                rintro e1 w1 ⟨Ao, co, rfl, qo, oo, h9⟩
                have RO : IR w1 Ao LO.length LO := ⟨Reads.of_own oo⟩
                replace D := D.trans (h9.mono D.size)
                clear h9 qo oo
                refine hK.out _ _ D (fun hS => ?_)
                clear hK K
                refine wpAnyH_ready (rs := [5]) (by kernel_rfl) (by simp) ?_
                refine AllReadyH.cons rfl (fun K hK => ?_) AllReadyH.nil
                go_simp
                refine (HIn.out _ (HB.out _ D)).mono ?_
                rintro e2 w2 ⟨Ai, ci, rfl, qi, oi, h9⟩
                replace RO := RO.below h9
                have RI : IR w2 Ai LI.length LI := ⟨Reads.of_own oi⟩
                replace D := D.trans (h9.mono D.size)
                clear h9 qi oi
                refine hK.out _ _ D (fun hS => ?_)
                clear hK K
                refine wpAnyH_take (i := 6) (v := .slice Ao LO.length co) rfl (by kernel_rfl) (by kernel_rfl) (by kernel_rfl) (fun _ _ _ h => h) (Or.inl ⟨by kernel_rfl, fun u hSw => (by go_simp)⟩) hS ?_
                change wpAnyH _ _ _ _ _ _ _ (Act.put _ (some 13) _) _
                simp only [Act.put]
                refine wpAnyH_take (i := 7) (v := .slice Ai LI.length ci) rfl (by kernel_rfl) (by kernel_rfl) (by kernel_rfl) (fun _ _ _ h => h) (Or.inl ⟨by kernel_rfl, fun u hSw => (by go_simp)⟩) hS ?_
                change wpAnyH _ _ _ _ _ _ _ (Act.put _ (some 14) _) _
                simp only [Act.put]
                refine wpAnyH_done (by kernel_rfl) ?_ _
                clear hS
                go_wp2_with fail
                try go_simp
                go_meet
                exact ⟨Ao, co, Ai, ci, rfl, rfl, RO, RI, D⟩
              case rest =>
                obtain ⟨Ao, co, Ai, ci, rfl, rfl, RO, RI, h9⟩ := hcut
                rename World => X2
                replace K0 := K0.below h9 K0.lt
                replace K1 := K1.below h9 K1.lt
                replace K9 := K9.below h9 K9.lt
                replace K11 := K11.below h9 K11.lt
                replace GB := GB.trans (h9.mono GB.size)
                clear h9
                have zK00 := K0.cell 0
                have zK01 := K0.cell 1
                go_wp2_with fail
                refine (HRt.out _ GB).mono ?_
                rintro e w9 ⟨rfl, h9⟩
                replace K0 := K0.below h9 K0.lt
                replace K1 := K1.below h9 K1.lt
                replace K9 := K9.below h9 K9.lt
                replace K11 := K11.below h9 K11.lt
                replace RO := RO.below h9
                replace RI := RI.below h9
                replace GB := GB.trans (h9.mono GB.size)
                clear h9
                clear zK00 zK01
                have zK00 := K0.cell 0
                have zK01 := K0.cell 1
                go_wp2_with fail
                refine (HWq.out _ GB).mono ?_
                rintro e w10 ⟨rfl, h9⟩
                replace K0 := K0.below h9 K0.lt
                replace K1 := K1.below h9 K1.lt
                replace K9 := K9.below h9 K9.lt
                replace K11 := K11.below h9 K11.lt
                replace RO := RO.below h9
                replace RI := RI.below h9
                replace GB := GB.trans (h9.mono GB.size)
                clear h9
                clear zK00 zK01
                have zK00 := K0.cell 0
                have zK01 := K0.cell 1
                go_wp2_with fail
                refine (HDr.out _ GB).mono ?_
                rintro e w11 ⟨rfl, h9⟩
                replace K0 := K0.below h9 K0.lt
                replace K1 := K1.below h9 K1.lt
                replace K9 := K9.below h9 K9.lt
                replace K11 := K11.below h9 K11.lt
                replace RO := RO.below h9
                replace RI := RI.below h9
                replace GB := GB.trans (h9.mono GB.size)
                clear h9
                clear zK00 zK01
                have K19 := Blk.new w11 27 #[.int .i64 p1, .int .i64 p2, .int .i64 p3, .int .i64 p4]
                replace K0 := K0.alloc (.cells #[.int .i64 p1, .int .i64 p2, .int .i64 p3, .int .i64 p4] 27)
                replace K1 := K1.alloc (.cells #[.int .i64 p1, .int .i64 p2, .int .i64 p3, .int .i64 p4] 27)
                replace K9 := K9.alloc (.cells #[.int .i64 p1, .int .i64 p2, .int .i64 p3, .int .i64 p4] 27)
                replace K11 := K11.alloc (.cells #[.int .i64 p1, .int .i64 p2, .int .i64 p3, .int .i64 p4] 27)
                replace RO := RO.below ((Below.refl _ _).alloc (Nat.le_refl _) (.cells #[.int .i64 p1, .int .i64 p2, .int .i64 p3, .int .i64 p4] 27))
                replace RI := RI.below ((Below.refl _ _).alloc (Nat.le_refl _) (.cells #[.int .i64 p1, .int .i64 p2, .int .i64 p3, .int .i64 p4] 27))
                replace GB := GB.alloc GB.size (.cells #[.int .i64 p1, .int .i64 p2, .int .i64 p3, .int .i64 p4] 27)
                have zK00 := K0.cell 0
                have zK01 := K0.cell 1
                go_wp2_with fail
                refine (HVr.out _ GB).mono ?_
                rintro e w12 ⟨rfl, h9⟩
                replace K0 := K0.below h9 K0.lt
                replace K1 := K1.below h9 K1.lt
                replace K9 := K9.below h9 K9.lt
                replace K11 := K11.below h9 K11.lt
                replace K19 := K19.below h9 K19.lt
                replace RO := RO.below h9
                replace RI := RI.below h9
                replace GB := GB.trans (h9.mono GB.size)
                clear h9
                clear zK00 zK01
                have K21 := Blk.new w12 50 #[.int .i64 q1, .int .i64 q2, .int .u32 (q3 : Int), .int .u32 (q4 : Int)]
                replace K0 := K0.alloc (.cells #[.int .i64 q1, .int .i64 q2, .int .u32 (q3 : Int), .int .u32 (q4 : Int)] 50)
                replace K1 := K1.alloc (.cells #[.int .i64 q1, .int .i64 q2, .int .u32 (q3 : Int), .int .u32 (q4 : Int)] 50)
                replace K9 := K9.alloc (.cells #[.int .i64 q1, .int .i64 q2, .int .u32 (q3 : Int), .int .u32 (q4 : Int)] 50)
                replace K11 := K11.alloc (.cells #[.int .i64 q1, .int .i64 q2, .int .u32 (q3 : Int), .int .u32 (q4 : Int)] 50)
                replace K19 := K19.alloc (.cells #[.int .i64 q1, .int .i64 q2, .int .u32 (q3 : Int), .int .u32 (q4 : Int)] 50)
                replace RO := RO.below ((Below.refl _ _).alloc (Nat.le_refl _) (.cells #[.int .i64 q1, .int .i64 q2, .int .u32 (q3 : Int), .int .u32 (q4 : Int)] 50))
                replace RI := RI.below ((Below.refl _ _).alloc (Nat.le_refl _) (.cells #[.int .i64 q1, .int .i64 q2, .int .u32 (q3 : Int), .int .u32 (q4 : Int)] 50))
                replace GB := GB.alloc GB.size (.cells #[.int .i64 q1, .int .i64 q2, .int .u32 (q3 : Int), .int .u32 (q4 : Int)] 50)
                go_upto_region 18 with fail
                obtain ⟨Y2, hY2⟩ : ∃ Y, Y = w12.alloc (.cells #[.int .i64 q1, .int .i64 q2, .int .u32 (q3 : Int), .int .u32 (q4 : Int)] 50) := ⟨_, rfl⟩
                rw [← hY2] at K0 K1 K9 K11 K19 K21 RO RI GB ⊢
                clear hY2
                skip
                go_cut [179] (fun s179 X => s179 = .bool false ∧ Below Y2.heap.size Y2 X)
                case first =>
                  have zK00 := K0.cell 0
                  have zK01 := K0.cell 1
                  have zK90 := K9.cell 0
                  have zK91 := K9.cell 1
                  have zK92 := K9.cell 2
                  have zK93 := K9.cell 3
                  have zK190 := K19.cell 0
                  have zK191 := K19.cell 1
                  have zK192 := K19.cell 2
                  have zK193 := K19.cell 3
                  have zK110 := K11.cell 0
                  have zK111 := K11.cell 1
                  have zK112 := K11.cell 2
                  have zK113 := K11.cell 3
                  have zK210 := K21.cell 0
                  have zK211 := K21.cell 1
                  have zK212 := K21.cell 2
                  have zK213 := K21.cell 3
                  go_wp2_with fail
                  refine (HWr.out _ GB).mono ?_
                  rintro e wz ⟨rfl, h9⟩
                  clear zK00 zK01 zK90 zK91 zK92 zK93 zK190 zK191 zK192 zK193 zK110 zK111 zK112 zK113 zK210 zK211 zK212 zK213
                  go_wp2_with fail
                  go_meet
                  exact ⟨rfl, h9⟩
                case rest =>
                  obtain ⟨rfl, h9⟩ := hcut
                  rename World => X3
                  replace K0 := K0.below h9 K0.lt
                  replace K1 := K1.below h9 K1.lt
                  replace K9 := K9.below h9 K9.lt
                  replace K11 := K11.below h9 K11.lt
                  replace K19 := K19.below h9 K19.lt
                  replace K21 := K21.below h9 K21.lt
                  replace RO := RO.below h9
                  replace RI := RI.below h9
                  replace GB := GB.trans (h9.mono GB.size)
                  clear h9
                  have zK00 := K0.cell 0
                  have zK01 := K0.cell 1
                  have zK211 := K21.cell 1
                  go_wp2_with fail
                  refine (HDz.out _ GB).mono ?_
                  rintro e w13 ⟨rfl, h9⟩
                  replace K0 := K0.below h9 K0.lt
                  replace K1 := K1.below h9 K1.lt
                  replace K9 := K9.below h9 K9.lt
                  replace K11 := K11.below h9 K11.lt
                  replace K19 := K19.below h9 K19.lt
                  replace K21 := K21.below h9 K21.lt
                  replace RO := RO.below h9
                  replace RI := RI.below h9
                  replace GB := GB.trans (h9.mono GB.size)
                  clear h9
                  clear zK00 zK01 zK211
                  have K23 := Blk.new w13 27 #[.int .i64 z1, .int .i64 z2, .int .i64 z3, .int .i64 z4]
                  replace K0 := K0.alloc (.cells #[.int .i64 z1, .int .i64 z2, .int .i64 z3, .int .i64 z4] 27)
                  replace K1 := K1.alloc (.cells #[.int .i64 z1, .int .i64 z2, .int .i64 z3, .int .i64 z4] 27)
                  replace K9 := K9.alloc (.cells #[.int .i64 z1, .int .i64 z2, .int .i64 z3, .int .i64 z4] 27)
                  replace K11 := K11.alloc (.cells #[.int .i64 z1, .int .i64 z2, .int .i64 z3, .int .i64 z4] 27)
                  replace K19 := K19.alloc (.cells #[.int .i64 z1, .int .i64 z2, .int .i64 z3, .int .i64 z4] 27)
                  replace K21 := K21.alloc (.cells #[.int .i64 z1, .int .i64 z2, .int .i64 z3, .int .i64 z4] 27)
                  replace RO := RO.below ((Below.refl _ _).alloc (Nat.le_refl _) (.cells #[.int .i64 z1, .int .i64 z2, .int .i64 z3, .int .i64 z4] 27))
                  replace RI := RI.below ((Below.refl _ _).alloc (Nat.le_refl _) (.cells #[.int .i64 z1, .int .i64 z2, .int .i64 z3, .int .i64 z4] 27))
                  replace GB := GB.alloc GB.size (.cells #[.int .i64 z1, .int .i64 z2, .int .i64 z3, .int .i64 z4] 27)
                  go_upto_region 21 with fail
                  obtain ⟨Y3, hY3⟩ : ∃ Y, Y = w13.alloc (.cells #[.int .i64 z1, .int .i64 z2, .int .i64 z3, .int .i64 z4] 27) := ⟨_, rfl⟩
                  rw [← hY3] at K0 K1 K9 K11 K19 K21 K23 RO RI GB ⊢
                  clear hY3
                  skip
                  go_cut [214] (fun s214 X => s214 = .bool false ∧ Below Y3.heap.size Y3 X)
                  case first =>
                    have zK00 := K0.cell 0
                    have zK01 := K0.cell 1
                    have zK211 := K21.cell 1
                    have zK231 := K23.cell 1
                    go_wp2_with fail
                    refine (HOz.out _ GB).mono ?_
                    rintro e wz ⟨Af, cf, rfl, q8, q9, h9⟩
                    rw [HQQ.out]
                    clear q8 q9 zK00 zK01 zK211 zK231
                    go_wp2_with fail
                    go_meet
                    exact ⟨rfl, h9⟩
                  case rest =>
                    obtain ⟨rfl, h9⟩ := hcut
                    rename World => X4
                    replace K0 := K0.below h9 K0.lt
                    replace K1 := K1.below h9 K1.lt
                    replace K9 := K9.below h9 K9.lt
                    replace K11 := K11.below h9 K11.lt
                    replace K19 := K19.below h9 K19.lt
                    replace K21 := K21.below h9 K21.lt
                    replace K23 := K23.below h9 K23.lt
                    replace RO := RO.below h9
                    replace RI := RI.below h9
                    replace GB := GB.trans (h9.mono GB.size)
                    clear h9
                    clear K9 K11 K19 K21 K23 K1
                    have zK00 := K0.cell 0
                    have zK01 := K0.cell 1
                    go_wp2_with fail
                    refine (HOr.out _ GB).mono ?_
                    rintro e w14 ⟨Ax, cx, rfl, q8, o8, h9⟩
                    replace K0 := K0.below h9 K0.lt
                    replace RO := RO.below h9
                    replace RI := RI.below h9
                    replace GB := GB.trans (h9.mono GB.size)
                    have Rx : IR w14 Ax LO.length LO := ⟨Reads.of_own o8⟩
                    clear h9 q8 o8
                    clear zK00 zK01
                    go_wp2_with fail
                    refine ((same_same Ao Ax LO.length co cx LO _ RO.reads Rx.reads (by have := H16.out; omega)).mono (fun _ _ h => (⟨h.1, h.below _⟩ : Said (.bool true) _ _ _))).mono ?_
                    rintro e w15 ⟨rfl, h9⟩
                    replace K0 := K0.below h9 K0.lt
                    replace RO := RO.below h9
                    replace RI := RI.below h9
                    replace GB := GB.trans (h9.mono GB.size)
                    clear h9
                    clear Rx
                    have zK00 := K0.cell 0
                    have zK01 := K0.cell 1
                    go_wp2_with fail
                    refine (HIr.out _ GB).mono ?_
                    rintro e w16 ⟨Ay, cy, rfl, q8, o8, h9⟩
                    replace K0 := K0.below h9 K0.lt
                    replace RO := RO.below h9
                    replace RI := RI.below h9
                    replace GB := GB.trans (h9.mono GB.size)
                    have Ry : IR w16 Ay LI.length LI := ⟨Reads.of_own o8⟩
                    clear h9 q8 o8
                    clear zK00 zK01
                    go_wp2_with fail
                    refine ((same_same Ai Ay LI.length ci cy LI _ RI.reads Ry.reads (by have := H16.out; omega)).mono (fun _ _ h => (⟨h.1, h.below _⟩ : Said (.bool true) _ _ _))).mono ?_
                    rintro e w17 ⟨rfl, h9⟩
                    replace K0 := K0.below h9 K0.lt
                    replace RO := RO.below h9
                    replace RI := RI.below h9
                    replace GB := GB.trans (h9.mono GB.size)
                    clear h9
                    clear Ry
                    have HF := Lib.hid GB
                    clear GB K0 RO RI
                    go_wp2
                    go_ret
                    exact ⟨rfl, HF.out⟩
        | false =>
          have hrt := rate_no hvq
          rw [hrt] at HRt
          clear hrt hQQ hz hq hp hwq hLI hLO hvn hli hlo hvq hP hr
          as_aux_lemma =>
            go_enter Try.func5, Try.ntmps5
            go_wp2_with fail
            refine (HWk.out _).mono ?_
            rintro e w1 ⟨rfl, h9⟩
            replace K0 := K0.below h9 K0.lt
            replace K1 := K1.below h9 K1.lt
            replace GB := GB.trans (h9.mono GB.size)
            clear h9
            have zK00 := K0.cell 0
            have zK01 := K0.cell 1
            go_wp2_with fail
            refine (HOv.out _).mono ?_
            rintro e w2 ⟨rfl, h9⟩
            replace K0 := K0.below h9 K0.lt
            replace K1 := K1.below h9 K1.lt
            replace GB := GB.trans (h9.mono GB.size)
            clear h9
            clear zK00 zK01
            have zK10 := K1.cell 0
            have zK11 := K1.cell 1
            go_wp2_with fail
            refine (HOw.out _).mono ?_
            rintro e w3 ⟨rfl, h9⟩
            replace K0 := K0.below h9 K0.lt
            replace K1 := K1.below h9 K1.lt
            replace GB := GB.trans (h9.mono GB.size)
            clear h9
            clear zK10 zK11
            have zK00 := K0.cell 0
            have zK01 := K0.cell 1
            go_wp2_with fail
            refine (HRg.out _ GB).mono ?_
            rintro e w4 ⟨rfl, h9⟩
            replace K0 := K0.below h9 K0.lt
            replace K1 := K1.below h9 K1.lt
            replace GB := GB.trans (h9.mono GB.size)
            clear h9
            clear zK00 zK01
            have zK00 := K0.cell 0
            have zK01 := K0.cell 1
            go_wp2_with fail
            refine (HCp.out _ GB).mono ?_
            rintro e w5 ⟨A5, c5, B5, d5, rfl, G5, h9⟩
            replace K0 := K0.below h9 K0.lt
            replace K1 := K1.below h9 K1.lt
            replace GB := GB.trans (h9.mono GB.size)
            clear h9
            clear zK00 zK01
            go_wp2_with fail
            refine (HCk.out _ _ _ _ _ G5).mono ?_
            rintro e w6 ⟨rfl, h9⟩
            replace K0 := K0.below h9 K0.lt
            replace K1 := K1.below h9 K1.lt
            replace G5 := G5.below h9
            replace GB := GB.trans (h9.mono GB.size)
            clear h9
            clear G5
            go_upto_region 7 with fail
            skip
            go_cut [65] (fun s65 X => s65 = .bool false ∧ Below w6.heap.size w6 X)
            case first =>
              have HX := Lib.hid (fun (u : World) (h : Below w6.heap.size w6 u) => And.intro (K0.below h K0.lt) (K1.below h K1.lt))
              have HB := Lib.hid (fun (u : World) (h : Below w6.heap.size w6 u) => GB.trans (h.mono GB.size))
              have D := (Below.refl w6.heap.size w6).drew
              refine wp_region_held_drew (S := fun u => Below w6.heap.size w6 u) (by kernel_rfl) D (fun hS => ?_)
              generalize w6.drew = V at D hS ⊢
              refine wpAnyH_take (i := 0) (v := .bool true) rfl (by kernel_rfl) (by kernel_rfl) (by kernel_rfl) (fun _ _ _ h => h) (Or.inl ⟨by kernel_rfl, fun u hSw => (by go_simp)⟩) hS ?_
              change wpAnyH _ _ _ _ _ _ _ (Act.put _ (some 38) _) _
              simp only [Act.put]
              try simp only [List.setIfInBounds_toArray, List.set_cons_zero, List.set_cons_succ]
              refine wpAnyH_take (i := 1) (v := .int .i64 0) rfl (by kernel_rfl) (by kernel_rfl) (by kernel_rfl) (fun _ _ _ h => h) (Or.inl ⟨by kernel_rfl, fun u hSw => (by go_simp)⟩) hS ?_
              change wpAnyH _ _ _ _ _ _ _ (Act.put _ (some 39) _) _
              simp only [Act.put]
              try simp only [List.setIfInBounds_toArray, List.set_cons_zero, List.set_cons_succ]
              refine wpAnyH_take (i := 2) (v := .bool true) rfl (by kernel_rfl) (by kernel_rfl) (by kernel_rfl) (fun _ _ _ h => h) (Or.inl ⟨by kernel_rfl, fun u hSw => (by go_simp)⟩) hS ?_
              change wpAnyH _ _ _ _ _ _ _ (Act.put _ (some 40) _) _
              simp only [Act.put]
              try simp only [List.setIfInBounds_toArray, List.set_cons_zero, List.set_cons_succ]
              refine wpAnyH_take (i := 3) (v := .bool false) rfl (by kernel_rfl) (by kernel_rfl) (by kernel_rfl) (fun _ _ _ h => h) (Or.inl ⟨by kernel_rfl, fun u hSw => (by go_simp)⟩) hS ?_
              change wpAnyH _ _ _ _ _ _ _ (Act.put _ (some 41) _) _
              simp only [Act.put]
              try simp only [List.setIfInBounds_toArray, List.set_cons_zero, List.set_cons_succ]
              refine wpAnyH_take (i := 4) (v := .bool false) rfl (by kernel_rfl) (by kernel_rfl) (by kernel_rfl) (fun _ _ _ h => h) (Or.inl ⟨by kernel_rfl, fun u hSw => (by go_simp)⟩) hS ?_
              change wpAnyH _ _ _ _ _ _ _ (Act.put _ (some 42) _) _
              simp only [Act.put]
              try simp only [List.setIfInBounds_toArray, List.set_cons_zero, List.set_cons_succ]
              refine wpAnyH_take (i := 5) (v := .bool true) rfl (by kernel_rfl) (by kernel_rfl) (by kernel_rfl) (fun _ _ _ h => h) (Or.inl ⟨by kernel_rfl, fun u hSw => (by go_simp)⟩) hS ?_
              change wpAnyH _ _ _ _ _ _ _ (Act.put _ (some 43) _) _
              simp only [Act.put]
              try simp only [List.setIfInBounds_toArray, List.set_cons_zero, List.set_cons_succ]
              refine wpAnyH_take (i := 6) (v := .bool false) rfl (by kernel_rfl) (by kernel_rfl) (by kernel_rfl) (fun _ _ _ h => h) (Or.inl ⟨by kernel_rfl, fun u hSw => (by go_simp)⟩) hS ?_
              change wpAnyH _ _ _ _ _ _ _ (Act.put _ (some 44) _) _
              simp only [Act.put]
              try simp only [List.setIfInBounds_toArray, List.set_cons_zero, List.set_cons_succ]
              refine wpAnyH_take (i := 7) (v := .bool false) rfl (by kernel_rfl) (by kernel_rfl) (by kernel_rfl) (fun _ _ _ h => h) (Or.inl ⟨by kernel_rfl, fun u hSw => (by go_simp)⟩) hS ?_
              change wpAnyH _ _ _ _ _ _ _ (Act.put _ (some 45) _) _
              simp only [Act.put]
              try simp only [List.setIfInBounds_toArray, List.set_cons_zero, List.set_cons_succ]
              refine wpAnyH_take (i := 8) (v := undef) rfl (by kernel_rfl) (by kernel_rfl) (by kernel_rfl) (fun _ _ _ h => h) (Or.inr ⟨by kernel_rfl, rfl⟩) hS ?_
              change wpAnyH _ _ _ _ _ _ _ (Act.put _ (some 46) _) _
              simp only [Act.put]
              try simp only [List.setIfInBounds_toArray, List.set_cons_zero, List.set_cons_succ]
              refine wpAnyH_take (i := 9) (v := undef) rfl (by kernel_rfl) (by kernel_rfl) (by kernel_rfl) (fun _ _ _ h => h) (Or.inr ⟨by kernel_rfl, rfl⟩) hS ?_
              change wpAnyH _ _ _ _ _ _ _ (Act.put _ (some 47) _) _
              simp only [Act.put]
              try simp only [List.setIfInBounds_toArray, List.set_cons_zero, List.set_cons_succ]
              refine wpAnyH_take (i := 10) (v := .bool false) rfl (by kernel_rfl) (by kernel_rfl) (by kernel_rfl) (fun _ _ _ h => h) (Or.inl ⟨by kernel_rfl, fun u hSw => (by go_simp)⟩) hS ?_
              change wpAnyH _ _ _ _ _ _ _ (Act.put _ (some 48) _) _
              simp only [Act.put]
              try simp only [List.setIfInBounds_toArray, List.set_cons_zero, List.set_cons_succ]
              refine wpAnyH_take (i := 11) (v := .bool false) rfl (by kernel_rfl) (by kernel_rfl) (by kernel_rfl) (fun _ _ _ h => h) (Or.inl ⟨by kernel_rfl, fun u hSw => (by go_simp)⟩) hS ?_
              change wpAnyH _ _ _ _ _ _ _ (Act.put _ (some 49) _) _
              simp only [Act.put]
              try simp only [List.setIfInBounds_toArray, List.set_cons_zero, List.set_cons_succ]
              refine wpAnyH_take (i := 12) (v := .bool false) rfl (by kernel_rfl) (by kernel_rfl) (by kernel_rfl) (fun _ _ _ h => h) (Or.inl ⟨by kernel_rfl, fun u hSw => (by go_simp)⟩) hS ?_
              change wpAnyH _ _ _ _ _ _ _ (Act.put _ (some 50) _) _
              simp only [Act.put]
              try simp only [List.setIfInBounds_toArray, List.set_cons_zero, List.set_cons_succ]
              refine wpAnyH_take (i := 13) (v := .agg #[.slice A n c, .slice B m d]) rfl (by kernel_rfl) (by kernel_rfl) (by kernel_rfl) (fun _ _ _ h => h) (Or.inl ⟨by kernel_rfl, fun u hSw => (by have q0 := (HX.out u hSw).1.cell 0; have q1 := (HX.out u hSw).1.cell 1; go_simp)⟩) hS ?_
              change wpAnyH _ _ _ _ _ _ _ (Act.put _ (some 51) _) _
              simp only [Act.put]
              try simp only [List.setIfInBounds_toArray, List.set_cons_zero, List.set_cons_succ]
              refine wpAnyH_take (i := 14) (v := .agg #[.slice A' n' c', .slice B' m' d']) rfl (by kernel_rfl) (by kernel_rfl) (by kernel_rfl) (fun _ _ _ h => h) (Or.inl ⟨by kernel_rfl, fun u hSw => (by have q0 := (HX.out u hSw).2.cell 0; have q1 := (HX.out u hSw).2.cell 1; go_simp)⟩) hS ?_
              change wpAnyH _ _ _ _ _ _ _ (Act.put _ (some 52) _) _
              simp only [Act.put]
              try simp only [List.setIfInBounds_toArray, List.set_cons_zero, List.set_cons_succ]
              refine wpAnyH_take (i := 16) (v := .agg #[.slice A n c, .slice B m d]) rfl (by kernel_rfl) (by kernel_rfl) (by kernel_rfl) (fun _ _ _ h => h) (Or.inl ⟨by kernel_rfl, fun u hSw => (by have q0 := (HX.out u hSw).1.cell 0; have q1 := (HX.out u hSw).1.cell 1; go_simp)⟩) hS ?_
              change wpAnyH _ _ _ _ _ _ _ (Act.put _ (some 54) _) _
              simp only [Act.put]
              try simp only [List.setIfInBounds_toArray, List.set_cons_zero, List.set_cons_succ]
              refine wpAnyH_take (i := 17) (v := .agg #[.slice A' n' c', .slice B' m' d']) rfl (by kernel_rfl) (by kernel_rfl) (by kernel_rfl) (fun _ _ _ h => h) (Or.inl ⟨by kernel_rfl, fun u hSw => (by have q0 := (HX.out u hSw).2.cell 0; have q1 := (HX.out u hSw).2.cell 1; go_simp)⟩) hS ?_
              change wpAnyH _ _ _ _ _ _ _ (Act.put _ (some 55) _) _
              simp only [Act.put]
              try simp only [List.setIfInBounds_toArray, List.set_cons_zero, List.set_cons_succ]
              refine wpAnyH_ready (rs := [15]) (by kernel_rfl) (by simp) ?_
              refine AllReadyH.cons rfl (fun K hK => ?_) AllReadyH.nil
              go_simp
              refine (HS1.out _ (HB.out _ D)).mono ?_
              rintro e1 w1 ⟨rfl, h9⟩
              replace D := D.trans (h9.mono D.size)
              clear h9
              refine hK.out _ _ D (fun hS => ?_)
              clear hK K
              refine wpAnyH_ready (rs := [18]) (by kernel_rfl) (by simp) ?_
              refine AllReadyH.cons rfl (fun K hK => ?_) AllReadyH.nil
              go_simp
              refine (HS2.out _ (HB.out _ D)).mono ?_
              rintro e2 w2 ⟨rfl, h9⟩
              replace D := D.trans (h9.mono D.size)
              clear h9
              refine hK.out _ _ D (fun hS => ?_)
              clear hK K
              refine wpAnyH_take (i := 19) (v := .bool false) rfl (by kernel_rfl) (by kernel_rfl) (by kernel_rfl) (fun _ _ _ h => h) (Or.inl ⟨by kernel_rfl, fun u hSw => (by go_simp)⟩) hS ?_
              change wpAnyH _ _ _ _ _ _ _ (Act.put _ (some 57) _) _
              simp only [Act.put]
              try simp only [List.setIfInBounds_toArray, List.set_cons_zero, List.set_cons_succ]
              refine wpAnyH_take (i := 20) (v := .bool false) rfl (by kernel_rfl) (by kernel_rfl) (by kernel_rfl) (fun _ _ _ h => h) (Or.inl ⟨by kernel_rfl, fun u hSw => (by go_simp)⟩) hS ?_
              change wpAnyH _ _ _ _ _ _ _ (Act.put _ (some 58) _) _
              simp only [Act.put]
              try simp only [List.setIfInBounds_toArray, List.set_cons_zero, List.set_cons_succ]
              refine wpAnyH_take (i := 21) (v := .bool false) rfl (by kernel_rfl) (by kernel_rfl) (by kernel_rfl) (fun _ _ _ h => h) (Or.inl ⟨by kernel_rfl, fun u hSw => (by go_simp)⟩) hS ?_
              change wpAnyH _ _ _ _ _ _ _ (Act.put _ (some 59) _) _
              simp only [Act.put]
              try simp only [List.setIfInBounds_toArray, List.set_cons_zero, List.set_cons_succ]
              refine wpAnyH_take (i := 22) (v := .agg #[.slice A n c, .slice B m d]) rfl (by kernel_rfl) (by kernel_rfl) (by kernel_rfl) (fun _ _ _ h => h) (Or.inl ⟨by kernel_rfl, fun u hSw => (by have q0 := (HX.out u hSw).1.cell 0; have q1 := (HX.out u hSw).1.cell 1; go_simp)⟩) hS ?_
              change wpAnyH _ _ _ _ _ _ _ (Act.put _ (some 60) _) _
              simp only [Act.put]
              try simp only [List.setIfInBounds_toArray, List.set_cons_zero, List.set_cons_succ]
              refine wpAnyH_take (i := 23) (v := .agg #[.slice A n c, .slice B m d]) rfl (by kernel_rfl) (by kernel_rfl) (by kernel_rfl) (fun _ _ _ h => h) (Or.inl ⟨by kernel_rfl, fun u hSw => (by have q0 := (HX.out u hSw).1.cell 0; have q1 := (HX.out u hSw).1.cell 1; go_simp)⟩) hS ?_
              change wpAnyH _ _ _ _ _ _ _ (Act.put _ (some 61) _) _
              simp only [Act.put]
              try simp only [List.setIfInBounds_toArray, List.set_cons_zero, List.set_cons_succ]
              refine wpAnyH_ready (rs := [24]) (by kernel_rfl) (by simp) ?_
              refine AllReadyH.cons rfl (fun K hK => ?_) AllReadyH.nil
              go_simp
              refine (HCp.out _ (HB.out _ D)).mono ?_
              rintro e3 w3 ⟨A6, c6, B6, d6, rfl, G6, h9⟩
              replace D := D.trans (h9.mono D.size)
              clear h9
              refine hK.out _ _ D (fun hS => ?_)
              clear hK K
              refine wpAnyH_ready (rs := [25]) (by kernel_rfl) (by simp) ?_
              refine AllReadyH.cons rfl (fun K hK => ?_) AllReadyH.nil
              go_simp
              refine (HS3.out _ _ _ _ _ (HB.out _ D) G6).mono ?_
              rintro e4 w4 ⟨rfl, h9⟩
              replace D := D.trans (h9.mono D.size)
              clear G6
              clear h9
              refine hK.out _ _ D (fun hS => ?_)
              clear hK K
              refine wpAnyH_take (i := 26) (v := .bool false) rfl (by kernel_rfl) (by kernel_rfl) (by kernel_rfl) (fun _ _ _ h => h) (Or.inl ⟨by kernel_rfl, fun u hSw => (by go_simp)⟩) hS ?_
              change wpAnyH _ _ _ _ _ _ _ (Act.put _ (some 64) _) _
              simp only [Act.put]
              try simp only [List.setIfInBounds_toArray, List.set_cons_zero, List.set_cons_succ]
              refine wpAnyH_take (i := 27) (v := .bool false) rfl (by kernel_rfl) (by kernel_rfl) (by kernel_rfl) (fun _ _ _ h => h) (Or.inl ⟨by kernel_rfl, fun u hSw => (by go_simp)⟩) hS ?_
              change wpAnyH _ _ _ _ _ _ _ (Act.put _ (some 65) _) _
              simp only [Act.put]
              try simp only [List.setIfInBounds_toArray, List.set_cons_zero, List.set_cons_succ]
              refine wpAnyH_done (by kernel_rfl) ?_ _
              clear hS
              go_wp2_with fail
              try go_simp
              go_meet
              exact ⟨rfl, D⟩
            case rest =>
              obtain ⟨rfl, h9⟩ := hcut
              rename World => X1
              replace K0 := K0.below h9 K0.lt
              replace K1 := K1.below h9 K1.lt
              replace GB := GB.trans (h9.mono GB.size)
              clear h9
              have zK00 := K0.cell 0
              have zK01 := K0.cell 1
              go_wp2_with fail
              refine (HDq.out _ GB).mono ?_
              rintro e w7 ⟨rfl, h9⟩
              replace K0 := K0.below h9 K0.lt
              replace K1 := K1.below h9 K1.lt
              replace GB := GB.trans (h9.mono GB.size)
              clear h9
              clear zK00 zK01
              have K9 := Blk.new w7 27 #[.int .i64 p1, .int .i64 p2, .int .i64 p3, .int .i64 p4]
              replace K0 := K0.alloc (.cells #[.int .i64 p1, .int .i64 p2, .int .i64 p3, .int .i64 p4] 27)
              replace K1 := K1.alloc (.cells #[.int .i64 p1, .int .i64 p2, .int .i64 p3, .int .i64 p4] 27)
              replace GB := GB.alloc GB.size (.cells #[.int .i64 p1, .int .i64 p2, .int .i64 p3, .int .i64 p4] 27)
              have zK00 := K0.cell 0
              have zK01 := K0.cell 1
              go_wp2_with fail
              refine (HVq.out _ GB).mono ?_
              rintro e w8 ⟨rfl, h9⟩
              replace K0 := K0.below h9 K0.lt
              replace K1 := K1.below h9 K1.lt
              replace K9 := K9.below h9 K9.lt
              replace GB := GB.trans (h9.mono GB.size)
              clear h9
              clear zK00 zK01
              have K11 := Blk.new w8 50 #[.int .i64 q1, .int .i64 q2, .int .u32 (q3 : Int), .int .u32 (q4 : Int)]
              replace K0 := K0.alloc (.cells #[.int .i64 q1, .int .i64 q2, .int .u32 (q3 : Int), .int .u32 (q4 : Int)] 50)
              replace K1 := K1.alloc (.cells #[.int .i64 q1, .int .i64 q2, .int .u32 (q3 : Int), .int .u32 (q4 : Int)] 50)
              replace K9 := K9.alloc (.cells #[.int .i64 q1, .int .i64 q2, .int .u32 (q3 : Int), .int .u32 (q4 : Int)] 50)
              replace GB := GB.alloc GB.size (.cells #[.int .i64 q1, .int .i64 q2, .int .u32 (q3 : Int), .int .u32 (q4 : Int)] 50)
              go_upto_region 11 with fail
              obtain ⟨Y1, hY1⟩ : ∃ Y, Y = w8.alloc (.cells #[.int .i64 q1, .int .i64 q2, .int .u32 (q3 : Int), .int .u32 (q4 : Int)] 50) := ⟨_, rfl⟩
              rw [← hY1] at K0 K1 K9 K11 GB ⊢
              clear hY1
              go_cut [13, 14] (fun s13 s14 X => ∃ (Ao : Option Addr) (co : Nat) (Ai : Option Addr) (ci : Nat), s13 = .slice Ao (LO.length) co ∧ s14 = .slice Ai (LI.length) ci ∧ IR X Ao (LO.length) LO ∧ IR X Ai (LI.length) LI ∧ Below Y1.heap.size Y1 X)
              case first =>
                have HX := Lib.hid (fun (u : World) (h : Below Y1.heap.size Y1 u) => K0.below h K0.lt)
                have HB := Lib.hid (fun (u : World) (h : Below Y1.heap.size Y1 u) => GB.trans (h.mono GB.size))
                have D := (Below.refl Y1.heap.size Y1).drew
                refine wp_region_held_drew (S := fun u => Below Y1.heap.size Y1 u) (by kernel_rfl) D (fun hS => ?_)
                generalize Y1.drew = V at D hS ⊢
                refine wpAnyH_take (i := 0) (v := .agg #[.slice A n c, .slice B m d]) rfl (by kernel_rfl) (by kernel_rfl) (by kernel_rfl) (fun _ _ _ h => h) (Or.inl ⟨by kernel_rfl, fun u hSw => (by have q0 := (HX.out u hSw).cell 0; have q1 := (HX.out u hSw).cell 1; go_simp)⟩) hS ?_
                change wpAnyH _ _ _ _ _ _ _ (Act.put _ (some 78) _) _
                simp only [Act.put]
                refine wpAnyH_take (i := 1) (v := .int .i64 id) rfl (by kernel_rfl) (by kernel_rfl) (by kernel_rfl) (fun _ _ _ h => h) (Or.inl ⟨by kernel_rfl, fun u hSw => (by go_simp)⟩) hS ?_
                change wpAnyH _ _ _ _ _ _ _ (Act.put _ (some 79) _) _
                simp only [Act.put]
                refine wpAnyH_take (i := 3) (v := .agg #[.slice A n c, .slice B m d]) rfl (by kernel_rfl) (by kernel_rfl) (by kernel_rfl) (fun _ _ _ h => h) (Or.inl ⟨by kernel_rfl, fun u hSw => (by have q0 := (HX.out u hSw).cell 0; have q1 := (HX.out u hSw).cell 1; go_simp)⟩) hS ?_
                change wpAnyH _ _ _ _ _ _ _ (Act.put _ (some 81) _) _
                simp only [Act.put]
                refine wpAnyH_take (i := 4) (v := .int .i64 id) rfl (by kernel_rfl) (by kernel_rfl) (by kernel_rfl) (fun _ _ _ h => h) (Or.inl ⟨by kernel_rfl, fun u hSw => (by go_simp)⟩) hS ?_
                change wpAnyH _ _ _ _ _ _ _ (Act.put _ (some 82) _) _
                simp only [Act.put]
                refine wpAnyH_ready (rs := [2]) (by kernel_rfl) (by simp) ?_
                refine AllReadyH.cons rfl (fun K hK => ?_) AllReadyH.nil
                go_simp
                refine (HOf.out _ (HB.out _ D)).mono ?_
                rintro e1 w1 ⟨Ao, co, rfl, qo, oo, h9⟩
                have RO : IR w1 Ao LO.length LO := ⟨Reads.of_own oo⟩
                replace D := D.trans (h9.mono D.size)
                clear h9 qo oo
                refine hK.out _ _ D (fun hS => ?_)
                clear hK K
                refine wpAnyH_ready (rs := [5]) (by kernel_rfl) (by simp) ?_
                refine AllReadyH.cons rfl (fun K hK => ?_) AllReadyH.nil
                go_simp
                refine (HIn.out _ (HB.out _ D)).mono ?_
                rintro e2 w2 ⟨Ai, ci, rfl, qi, oi, h9⟩
                replace RO := RO.below h9
                have RI : IR w2 Ai LI.length LI := ⟨Reads.of_own oi⟩
                replace D := D.trans (h9.mono D.size)
                clear h9 qi oi
                refine hK.out _ _ D (fun hS => ?_)
                clear hK K
                refine wpAnyH_take (i := 6) (v := .slice Ao LO.length co) rfl (by kernel_rfl) (by kernel_rfl) (by kernel_rfl) (fun _ _ _ h => h) (Or.inl ⟨by kernel_rfl, fun u hSw => (by go_simp)⟩) hS ?_
                change wpAnyH _ _ _ _ _ _ _ (Act.put _ (some 13) _) _
                simp only [Act.put]
                refine wpAnyH_take (i := 7) (v := .slice Ai LI.length ci) rfl (by kernel_rfl) (by kernel_rfl) (by kernel_rfl) (fun _ _ _ h => h) (Or.inl ⟨by kernel_rfl, fun u hSw => (by go_simp)⟩) hS ?_
                change wpAnyH _ _ _ _ _ _ _ (Act.put _ (some 14) _) _
                simp only [Act.put]
                refine wpAnyH_done (by kernel_rfl) ?_ _
                clear hS
                go_wp2_with fail
                try go_simp
                go_meet
                exact ⟨Ao, co, Ai, ci, rfl, rfl, RO, RI, D⟩
              case rest =>
                obtain ⟨Ao, co, Ai, ci, rfl, rfl, RO, RI, h9⟩ := hcut
                rename World => X2
                replace K0 := K0.below h9 K0.lt
                replace K1 := K1.below h9 K1.lt
                replace K9 := K9.below h9 K9.lt
                replace K11 := K11.below h9 K11.lt
                replace GB := GB.trans (h9.mono GB.size)
                clear h9
                have zK00 := K0.cell 0
                have zK01 := K0.cell 1
                go_wp2_with fail
                refine (HRt.out _ GB).mono ?_
                rintro e w9 ⟨rfl, h9⟩
                replace K0 := K0.below h9 K0.lt
                replace K1 := K1.below h9 K1.lt
                replace K9 := K9.below h9 K9.lt
                replace K11 := K11.below h9 K11.lt
                replace RO := RO.below h9
                replace RI := RI.below h9
                replace GB := GB.trans (h9.mono GB.size)
                clear h9
                clear zK00 zK01
                have zK00 := K0.cell 0
                have zK01 := K0.cell 1
                go_wp2_with fail
                refine (HWq.out _ GB).mono ?_
                rintro e w10 ⟨rfl, h9⟩
                replace K0 := K0.below h9 K0.lt
                replace K1 := K1.below h9 K1.lt
                replace K9 := K9.below h9 K9.lt
                replace K11 := K11.below h9 K11.lt
                replace RO := RO.below h9
                replace RI := RI.below h9
                replace GB := GB.trans (h9.mono GB.size)
                clear h9
                clear zK00 zK01
                have zK00 := K0.cell 0
                have zK01 := K0.cell 1
                go_wp2_with fail
                refine (HDr.out _ GB).mono ?_
                rintro e w11 ⟨rfl, h9⟩
                replace K0 := K0.below h9 K0.lt
                replace K1 := K1.below h9 K1.lt
                replace K9 := K9.below h9 K9.lt
                replace K11 := K11.below h9 K11.lt
                replace RO := RO.below h9
                replace RI := RI.below h9
                replace GB := GB.trans (h9.mono GB.size)
                clear h9
                clear zK00 zK01
                have K19 := Blk.new w11 27 #[.int .i64 p1, .int .i64 p2, .int .i64 p3, .int .i64 p4]
                replace K0 := K0.alloc (.cells #[.int .i64 p1, .int .i64 p2, .int .i64 p3, .int .i64 p4] 27)
                replace K1 := K1.alloc (.cells #[.int .i64 p1, .int .i64 p2, .int .i64 p3, .int .i64 p4] 27)
                replace K9 := K9.alloc (.cells #[.int .i64 p1, .int .i64 p2, .int .i64 p3, .int .i64 p4] 27)
                replace K11 := K11.alloc (.cells #[.int .i64 p1, .int .i64 p2, .int .i64 p3, .int .i64 p4] 27)
                replace RO := RO.below ((Below.refl _ _).alloc (Nat.le_refl _) (.cells #[.int .i64 p1, .int .i64 p2, .int .i64 p3, .int .i64 p4] 27))
                replace RI := RI.below ((Below.refl _ _).alloc (Nat.le_refl _) (.cells #[.int .i64 p1, .int .i64 p2, .int .i64 p3, .int .i64 p4] 27))
                replace GB := GB.alloc GB.size (.cells #[.int .i64 p1, .int .i64 p2, .int .i64 p3, .int .i64 p4] 27)
                have zK00 := K0.cell 0
                have zK01 := K0.cell 1
                go_wp2_with fail
                refine (HVr.out _ GB).mono ?_
                rintro e w12 ⟨rfl, h9⟩
                replace K0 := K0.below h9 K0.lt
                replace K1 := K1.below h9 K1.lt
                replace K9 := K9.below h9 K9.lt
                replace K11 := K11.below h9 K11.lt
                replace K19 := K19.below h9 K19.lt
                replace RO := RO.below h9
                replace RI := RI.below h9
                replace GB := GB.trans (h9.mono GB.size)
                clear h9
                clear zK00 zK01
                have K21 := Blk.new w12 50 #[.int .i64 q1, .int .i64 q2, .int .u32 (q3 : Int), .int .u32 (q4 : Int)]
                replace K0 := K0.alloc (.cells #[.int .i64 q1, .int .i64 q2, .int .u32 (q3 : Int), .int .u32 (q4 : Int)] 50)
                replace K1 := K1.alloc (.cells #[.int .i64 q1, .int .i64 q2, .int .u32 (q3 : Int), .int .u32 (q4 : Int)] 50)
                replace K9 := K9.alloc (.cells #[.int .i64 q1, .int .i64 q2, .int .u32 (q3 : Int), .int .u32 (q4 : Int)] 50)
                replace K11 := K11.alloc (.cells #[.int .i64 q1, .int .i64 q2, .int .u32 (q3 : Int), .int .u32 (q4 : Int)] 50)
                replace K19 := K19.alloc (.cells #[.int .i64 q1, .int .i64 q2, .int .u32 (q3 : Int), .int .u32 (q4 : Int)] 50)
                replace RO := RO.below ((Below.refl _ _).alloc (Nat.le_refl _) (.cells #[.int .i64 q1, .int .i64 q2, .int .u32 (q3 : Int), .int .u32 (q4 : Int)] 50))
                replace RI := RI.below ((Below.refl _ _).alloc (Nat.le_refl _) (.cells #[.int .i64 q1, .int .i64 q2, .int .u32 (q3 : Int), .int .u32 (q4 : Int)] 50))
                replace GB := GB.alloc GB.size (.cells #[.int .i64 q1, .int .i64 q2, .int .u32 (q3 : Int), .int .u32 (q4 : Int)] 50)
                go_upto_region 18 with fail
                obtain ⟨Y2, hY2⟩ : ∃ Y, Y = w12.alloc (.cells #[.int .i64 q1, .int .i64 q2, .int .u32 (q3 : Int), .int .u32 (q4 : Int)] 50) := ⟨_, rfl⟩
                rw [← hY2] at K0 K1 K9 K11 K19 K21 RO RI GB ⊢
                clear hY2
                skip
                go_cut [179] (fun s179 X => s179 = .bool false ∧ Below Y2.heap.size Y2 X)
                case first =>
                  have zK00 := K0.cell 0
                  have zK01 := K0.cell 1
                  have zK90 := K9.cell 0
                  have zK91 := K9.cell 1
                  have zK92 := K9.cell 2
                  have zK93 := K9.cell 3
                  have zK190 := K19.cell 0
                  have zK191 := K19.cell 1
                  have zK192 := K19.cell 2
                  have zK193 := K19.cell 3
                  have zK110 := K11.cell 0
                  have zK111 := K11.cell 1
                  have zK112 := K11.cell 2
                  have zK113 := K11.cell 3
                  have zK210 := K21.cell 0
                  have zK211 := K21.cell 1
                  have zK212 := K21.cell 2
                  have zK213 := K21.cell 3
                  go_wp2_with fail
                  refine (HWr.out _ GB).mono ?_
                  rintro e wz ⟨rfl, h9⟩
                  clear zK00 zK01 zK90 zK91 zK92 zK93 zK190 zK191 zK192 zK193 zK110 zK111 zK112 zK113 zK210 zK211 zK212 zK213
                  go_wp2_with fail
                  go_meet
                  exact ⟨rfl, h9⟩
                case rest =>
                  obtain ⟨rfl, h9⟩ := hcut
                  rename World => X3
                  replace K0 := K0.below h9 K0.lt
                  replace K1 := K1.below h9 K1.lt
                  replace K9 := K9.below h9 K9.lt
                  replace K11 := K11.below h9 K11.lt
                  replace K19 := K19.below h9 K19.lt
                  replace K21 := K21.below h9 K21.lt
                  replace RO := RO.below h9
                  replace RI := RI.below h9
                  replace GB := GB.trans (h9.mono GB.size)
                  clear h9
                  have zK00 := K0.cell 0
                  have zK01 := K0.cell 1
                  have zK211 := K21.cell 1
                  go_wp2_with fail
                  refine (HDz.out _ GB).mono ?_
                  rintro e w13 ⟨rfl, h9⟩
                  replace K0 := K0.below h9 K0.lt
                  replace K1 := K1.below h9 K1.lt
                  replace K9 := K9.below h9 K9.lt
                  replace K11 := K11.below h9 K11.lt
                  replace K19 := K19.below h9 K19.lt
                  replace K21 := K21.below h9 K21.lt
                  replace RO := RO.below h9
                  replace RI := RI.below h9
                  replace GB := GB.trans (h9.mono GB.size)
                  clear h9
                  clear zK00 zK01 zK211
                  have K23 := Blk.new w13 27 #[.int .i64 z1, .int .i64 z2, .int .i64 z3, .int .i64 z4]
                  replace K0 := K0.alloc (.cells #[.int .i64 z1, .int .i64 z2, .int .i64 z3, .int .i64 z4] 27)
                  replace K1 := K1.alloc (.cells #[.int .i64 z1, .int .i64 z2, .int .i64 z3, .int .i64 z4] 27)
                  replace K9 := K9.alloc (.cells #[.int .i64 z1, .int .i64 z2, .int .i64 z3, .int .i64 z4] 27)
                  replace K11 := K11.alloc (.cells #[.int .i64 z1, .int .i64 z2, .int .i64 z3, .int .i64 z4] 27)
                  replace K19 := K19.alloc (.cells #[.int .i64 z1, .int .i64 z2, .int .i64 z3, .int .i64 z4] 27)
                  replace K21 := K21.alloc (.cells #[.int .i64 z1, .int .i64 z2, .int .i64 z3, .int .i64 z4] 27)
                  replace RO := RO.below ((Below.refl _ _).alloc (Nat.le_refl _) (.cells #[.int .i64 z1, .int .i64 z2, .int .i64 z3, .int .i64 z4] 27))
                  replace RI := RI.below ((Below.refl _ _).alloc (Nat.le_refl _) (.cells #[.int .i64 z1, .int .i64 z2, .int .i64 z3, .int .i64 z4] 27))
                  replace GB := GB.alloc GB.size (.cells #[.int .i64 z1, .int .i64 z2, .int .i64 z3, .int .i64 z4] 27)
                  go_upto_region 21 with fail
                  obtain ⟨Y3, hY3⟩ : ∃ Y, Y = w13.alloc (.cells #[.int .i64 z1, .int .i64 z2, .int .i64 z3, .int .i64 z4] 27) := ⟨_, rfl⟩
                  rw [← hY3] at K0 K1 K9 K11 K19 K21 K23 RO RI GB ⊢
                  clear hY3
                  skip
                  go_cut [214] (fun s214 X => s214 = .bool false ∧ Below Y3.heap.size Y3 X)
                  case first =>
                    go_wp2_with fail
                    go_meet
                    exact ⟨rfl, Below.refl _ _⟩
                  case rest =>
                    obtain ⟨rfl, h9⟩ := hcut
                    rename World => X4
                    replace K0 := K0.below h9 K0.lt
                    replace K1 := K1.below h9 K1.lt
                    replace K9 := K9.below h9 K9.lt
                    replace K11 := K11.below h9 K11.lt
                    replace K19 := K19.below h9 K19.lt
                    replace K21 := K21.below h9 K21.lt
                    replace K23 := K23.below h9 K23.lt
                    replace RO := RO.below h9
                    replace RI := RI.below h9
                    replace GB := GB.trans (h9.mono GB.size)
                    clear h9
                    clear K9 K11 K19 K21 K23 K1
                    have zK00 := K0.cell 0
                    have zK01 := K0.cell 1
                    go_wp2_with fail
                    refine (HOr.out _ GB).mono ?_
                    rintro e w14 ⟨Ax, cx, rfl, q8, o8, h9⟩
                    replace K0 := K0.below h9 K0.lt
                    replace RO := RO.below h9
                    replace RI := RI.below h9
                    replace GB := GB.trans (h9.mono GB.size)
                    have Rx : IR w14 Ax LO.length LO := ⟨Reads.of_own o8⟩
                    clear h9 q8 o8
                    clear zK00 zK01
                    go_wp2_with fail
                    refine ((same_same Ao Ax LO.length co cx LO _ RO.reads Rx.reads (by have := H16.out; omega)).mono (fun _ _ h => (⟨h.1, h.below _⟩ : Said (.bool true) _ _ _))).mono ?_
                    rintro e w15 ⟨rfl, h9⟩
                    replace K0 := K0.below h9 K0.lt
                    replace RO := RO.below h9
                    replace RI := RI.below h9
                    replace GB := GB.trans (h9.mono GB.size)
                    clear h9
                    clear Rx
                    have zK00 := K0.cell 0
                    have zK01 := K0.cell 1
                    go_wp2_with fail
                    refine (HIr.out _ GB).mono ?_
                    rintro e w16 ⟨Ay, cy, rfl, q8, o8, h9⟩
                    replace K0 := K0.below h9 K0.lt
                    replace RO := RO.below h9
                    replace RI := RI.below h9
                    replace GB := GB.trans (h9.mono GB.size)
                    have Ry : IR w16 Ay LI.length LI := ⟨Reads.of_own o8⟩
                    clear h9 q8 o8
                    clear zK00 zK01
                    go_wp2_with fail
                    refine ((same_same Ai Ay LI.length ci cy LI _ RI.reads Ry.reads (by have := H16.out; omega)).mono (fun _ _ h => (⟨h.1, h.below _⟩ : Said (.bool true) _ _ _))).mono ?_
                    rintro e w17 ⟨rfl, h9⟩
                    replace K0 := K0.below h9 K0.lt
                    replace RO := RO.below h9
                    replace RI := RI.below h9
                    replace GB := GB.trans (h9.mono GB.size)
                    clear h9
                    clear Ry
                    have HF := Lib.hid GB
                    clear GB K0 RO RI
                    go_wp2
                    go_ret
                    exact ⟨rfl, HF.out⟩

end Go.Proofs.Ytknimnopopnbhaa
