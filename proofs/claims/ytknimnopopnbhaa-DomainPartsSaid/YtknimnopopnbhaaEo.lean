/-
  The landed domain: Destroy, Drop, Remask. No statement is proved here.
-/
import Derived.Test.YtknimnopopnbhaaEl
namespace Go.Proofs.Ytknimnopopnbhaa
open Go.RowKit

def destroyQ (ds : List Dom) (us : List Vc) (id : Int) : List Dom × List Vc × Int := if rightG ds us = true then (if (kf ds id).isSome = true then (if 0 < (ofL us id).length then ([], [], 8) else (delK ds id, us, 0)) else ([], [], 4)) else ([], [], 190)
def dropQ (ds : List Dom) (us : List Vc) (id : Int) : List Dom × List Vc × Int := if rightG ds us = true then (if (kf us id).isSome = true then (ds, delK us id, 0) else ([], [], 4)) else ([], [], 190)
def remaskQ (ds : List Dom) (us : List Vc) (id : Int) (h s : Nat) : List Dom × List Vc × Int :=
  if rightG ds us = true then (if (kf us id).isSome = true then (if rightK h s = true then (ds, setK us ((vcV us id).1.1, (vcV us id).1.2.1, h, s), 0) else ([], [], 170)) else ([], [], 4)) else ([], [], 190)

set_option maxRecDepth 100000 in
set_option maxHeartbeats 8000000 in
theorem gdrop_any (A : Option Addr) (n c : Nat) (ds : List Dom) (B : Option Addr) (m d : Nat) (us : List Vc) (id : Int) (w : World) (hG : GR w A n c ds B m d us) :
    Calls Try.prog 23 #[.agg #[.slice A n c, .slice B m d], .int .i64 id] w (GivesE (dropQ ds us id) w) := by
  have HAm := Lib.hid (fun (u : World) (h : Below w.heap.size w u) => vamong_any A n c ds B m d us id u (hG.below h))
  have HG := Lib.hid hG
  have HH : Hid (ds.length = n ∧ us.length = m ∧ n ≤ 1000 ∧ m ≤ 1000) := Lib.hid ⟨hG.len.1, hG.len.2, hG.n9, hG.m9⟩
  obtain ⟨p, hp⟩ : ∃ p, low us id = p := ⟨_, rfl⟩
  rw [hp] at HAm
  obtain ⟨K0, K1, GB⟩ := blks2 w 25 25 #[.slice A n c, .slice B m d] #[.slice none 0 0, .slice none 0 0]
  have k0 := K0.cell 0
  have k1 := K0.cell 1
  clear hG
  cases hr : rightG ds us with
  | false =>
    rw [hr, am_ff] at HAm
    have HV : Hid (dropQ ds us id = ([], [], 190)) := Lib.hid (by unfold dropQ; rw [hr]; rfl)
    clear hr hp HG HH
    go_enter Try.func23, Try.ntmps23
    go_wp2_with fail
    refine (HAm.out _ GB).mono ?_
    rintro e w1 ⟨rfl, h9⟩
    have KP := Blk.new w1 3 #[.int .i64 0]
    replace K0 := K0.below h9 K0.lt
    replace K1 := K1.below h9 K1.lt
    have hlt2 := K1.lt
    replace K0 := K0.alloc (.cells #[.int .i64 0] 3)
    replace K1 := K1.alloc (.cells #[.int .i64 0] 3)
    replace GB := (GB.trans (h9.mono GB.size)).alloc (Nat.le_trans GB.size h9.size) (.cells #[.int .i64 0] 3)
    have hs9 : w.heap.size + 1 < (w1.alloc (.cells #[.int .i64 0] 3)).heap.size := by simp; omega
    clear h9 k0 k1
    have z0 := K1.cell 0
    have z1 := K1.cell 1
    have y0 := K1.frozen 0
    have y1 := K1.frozen 1
    have HKF := Lib.hid (put2 (x := .slice none 0 0) (y := .slice none 0 0) K1 GB (by omega))
    clear KP K0 K1 GB hs9 hlt2
    go_wp2_with fail
    rw [HV.out]
    exact bodyPost_ret (v := .tuple #[.agg #[.slice none 0 0, .slice none 0 0], .int .i64 190]) (results_row2 Try.results23 _ _ _ _ _ _ rfl HKF.out.1 Try.underlying25 rfl (by kernel_rfl)) rfl (GivesE.none_ HKF.out.2)
  | true =>
    cases hk : (kf us id).isSome with
    | false =>
      rw [hr, hk, am_tf] at HAm
      have HV : Hid (dropQ ds us id = ([], [], 4)) := Lib.hid (by unfold dropQ; rw [if_pos hr, hk]; rfl)
      clear hk hr hp HG HH
      go_enter Try.func23, Try.ntmps23
      go_wp2_with fail
      refine (HAm.out _ GB).mono ?_
      rintro e w1 ⟨rfl, h9⟩
      have KP := Blk.new w1 3 #[.int .i64 0]
      replace K0 := K0.below h9 K0.lt
      replace K1 := K1.below h9 K1.lt
      have hlt2 := K1.lt
      replace K0 := K0.alloc (.cells #[.int .i64 0] 3)
      replace K1 := K1.alloc (.cells #[.int .i64 0] 3)
      replace GB := (GB.trans (h9.mono GB.size)).alloc (Nat.le_trans GB.size h9.size) (.cells #[.int .i64 0] 3)
      have hs9 : w.heap.size + 1 < (w1.alloc (.cells #[.int .i64 0] 3)).heap.size := by simp; omega
      clear h9 k0 k1
      have z0 := K1.cell 0
      have z1 := K1.cell 1
      have y0 := K1.frozen 0
      have y1 := K1.frozen 1
      have HKF := Lib.hid (put2 (x := .slice none 0 0) (y := .slice none 0 0) K1 GB (by omega))
      clear KP K0 K1 GB hs9 hlt2
      go_wp2_with fail
      rw [HV.out]
      exact bodyPost_ret (v := .tuple #[.agg #[.slice none 0 0, .slice none 0 0], .int .i64 4]) (results_row2 Try.results23 _ _ _ _ _ _ rfl HKF.out.1 Try.underlying25 rfl (by kernel_rfl)) rfl (GivesE.none_ HKF.out.2)
    | true =>
      rw [hr, hk, am_tt] at HAm
      obtain ⟨y, hy⟩ := kf_is hk
      have hpn : p < m := by
        have := (List.getElem?_eq_some_iff.1 (low_at (rightG_iff.1 hr).rv hy)).1
        rw [hp] at this
        have := HH.out
        omega
      obtain ⟨L9, hL9⟩ : ∃ L9, delK us id = L9 := ⟨_, rfl⟩
      have HV : Hid (dropQ ds us id = (ds, L9, 0)) := Lib.hid (by unfold dropQ; rw [if_pos hr, if_pos hk, hL9])
      have HDo : Hid (∀ (gp : Nat) (u : World), Blk u gp 3 #[.int .i64 (p : Int)] → DoOkDrop (.pointer (some ⟨gp, 0, none⟩)) ds us ds L9 u) := Lib.hid (by
        intro gp u Kp b A' n' c' B' m' d' v hb1 hb2 hB hg
        have hp2 := Kp.lt

        rw [show L9 = us.eraseIdx p by rw [← hL9, ← hp]; rfl]
        exact dropdo_any b A' n' c' ds B' m' d' us gp p v hg hb2 (by have := own_vlen hg.vcs; have := HH.out; omega) (by have := own_vlen hg.vcs; have := HH.out; omega) (by omega) ((Kp.below hB hp2).cell 0))
      have HCh := Lib.hid (fun (gp : Nat) (u : World) (h : Below w.heap.size w u) (hd : DoOkDrop (.pointer (some ⟨gp, 0, none⟩)) ds us ds L9 u) => changedDrop_any A n c ds B m d us ds L9 _ u (HG.out.below h) hd)
      clear hL9 hy hpn
      clear hk hr hp HG HH
      go_enter Try.func23, Try.ntmps23
      go_wp2_with fail
      refine (HAm.out _ GB).mono ?_
      rintro e w1 ⟨rfl, h9⟩
      have KP := Blk.new w1 3 #[.int .i64 (p : Int)]
      replace K0 := K0.below h9 K0.lt
      replace K1 := K1.below h9 K1.lt
      have hlt2 := K1.lt
      replace K0 := K0.alloc (.cells #[.int .i64 (p : Int)] 3)
      replace K1 := K1.alloc (.cells #[.int .i64 (p : Int)] 3)
      replace GB := (GB.trans (h9.mono GB.size)).alloc (Nat.le_trans GB.size h9.size) (.cells #[.int .i64 (p : Int)] 3)
      have hs9 : w.heap.size + 1 < (w1.alloc (.cells #[.int .i64 (p : Int)] 3)).heap.size := by simp; omega
      clear h9 k0 k1
      have c2 := K0.cell 0
      have c3 := K0.cell 1
      go_wp2_with fail
      refine (HCh.out _ _ GB (HDo.out _ _ KP)).mono ?_
      rintro e w9 ⟨A3, n3, c3', B3, m3, d3, rfl, hl1, hl2, oD, oV, h9⟩
      replace K1 := K1.below h9 K1.lt
      have HOD := Lib.hid (And.intro hl1 (And.intro hl2 (And.intro (own_set (own_set oD (g := w.heap.size + 1) hs9 0 (.slice A3 n3 c3')) (g := w.heap.size + 1) hs9 1 (.slice B3 m3 d3)) (And.intro (own_set (own_set oV (g := w.heap.size + 1) hs9 0 (.slice A3 n3 c3')) (g := w.heap.size + 1) hs9 1 (.slice B3 m3 d3)) GB.size))))
      replace GB := GB.trans (h9.mono GB.size)
      have z0 := K1.cell 0
      have z1 := K1.cell 1
      have y0 := K1.frozen 0
      have y1 := K1.frozen 1
      have HKF := Lib.hid (put2 (x := .slice A3 n3 c3') (y := .slice B3 m3 d3) K1 GB (by omega))
      clear h9 K0 K1 GB KP oD oV hl1 hl2 hs9 c2 c3 hlt2
      go_wp2_with fail
      rw [HV.out]
      exact bodyPost_ret (v := .tuple #[.agg #[.slice A3 n3 c3', .slice B3 m3 d3], .int .i64 0]) (results_row2 Try.results23 _ _ _ _ _ _ rfl HKF.out.1 Try.underlying25 rfl (by kernel_rfl)) rfl ⟨A3, n3, c3', B3, m3, d3, rfl, HOD.out.1, HOD.out.2.1, own_down HOD.out.2.2.1 HOD.out.2.2.2.2, own_down HOD.out.2.2.2.1 HOD.out.2.2.2.2, HKF.out.2⟩

set_option maxRecDepth 100000 in
set_option maxHeartbeats 8000000 in
theorem gdestroy_any (A : Option Addr) (n c : Nat) (ds : List Dom) (B : Option Addr) (m d : Nat) (us : List Vc) (id : Int) (w : World) (hG : GR w A n c ds B m d us) :
    Calls Try.prog 13 #[.agg #[.slice A n c, .slice B m d], .int .i64 id] w (GivesE (destroyQ ds us id) w) := by
  have HAm := Lib.hid (fun (u : World) (h : Below w.heap.size w u) => damong_any A n c ds B m d us id u (hG.below h))
  have HG := Lib.hid hG
  have HH : Hid (ds.length = n ∧ us.length = m ∧ n ≤ 1000 ∧ m ≤ 1000) := Lib.hid ⟨hG.len.1, hG.len.2, hG.n9, hG.m9⟩
  obtain ⟨p, hp⟩ : ∃ p, low ds id = p := ⟨_, rfl⟩
  rw [hp] at HAm
  have HCo := Lib.hid (fun (u : World) (h : Below w.heap.size w u) => count_any A n c ds B m d us id u (hG.below h))
  obtain ⟨Q, hQ⟩ : ∃ Q, (ofL us id).length = Q := ⟨_, rfl⟩
  rw [hQ] at HCo
  obtain ⟨K0, K1, GB⟩ := blks2 w 25 25 #[.slice A n c, .slice B m d] #[.slice none 0 0, .slice none 0 0]
  have k0 := K0.cell 0
  have k1 := K0.cell 1
  clear hG
  cases hr : rightG ds us with
  | false =>
    rw [hr, am_ff] at HAm
    have HV : Hid (destroyQ ds us id = ([], [], 190)) := Lib.hid (by unfold destroyQ; rw [hr]; rfl)
    clear hr hp hQ HCo HG HH
    go_enter Try.func13, Try.ntmps13
    go_wp2_with fail
    refine (HAm.out _ GB).mono ?_
    rintro e w1 ⟨rfl, h9⟩
    have KP := Blk.new w1 3 #[.int .i64 0]
    replace K0 := K0.below h9 K0.lt
    replace K1 := K1.below h9 K1.lt
    have hlt2 := K1.lt
    replace K0 := K0.alloc (.cells #[.int .i64 0] 3)
    replace K1 := K1.alloc (.cells #[.int .i64 0] 3)
    replace GB := (GB.trans (h9.mono GB.size)).alloc (Nat.le_trans GB.size h9.size) (.cells #[.int .i64 0] 3)
    have hs9 : w.heap.size + 1 < (w1.alloc (.cells #[.int .i64 0] 3)).heap.size := by simp; omega
    clear h9 k0 k1
    have z0 := K1.cell 0
    have z1 := K1.cell 1
    have y0 := K1.frozen 0
    have y1 := K1.frozen 1
    have HKF := Lib.hid (put2 (x := .slice none 0 0) (y := .slice none 0 0) K1 GB (by omega))
    clear KP K0 K1 GB hs9 hlt2
    go_wp2_with fail
    rw [HV.out]
    exact bodyPost_ret (v := .tuple #[.agg #[.slice none 0 0, .slice none 0 0], .int .i64 190]) (results_row2 Try.results13 _ _ _ _ _ _ rfl HKF.out.1 Try.underlying25 rfl (by kernel_rfl)) rfl (GivesE.none_ HKF.out.2)
  | true =>
    cases hk : (kf ds id).isSome with
    | false =>
      rw [hr, hk, am_tf] at HAm
      have HV : Hid (destroyQ ds us id = ([], [], 4)) := Lib.hid (by unfold destroyQ; rw [if_pos hr, hk]; rfl)
      clear hk hr hp hQ HCo HG HH
      go_enter Try.func13, Try.ntmps13
      go_wp2_with fail
      refine (HAm.out _ GB).mono ?_
      rintro e w1 ⟨rfl, h9⟩
      have KP := Blk.new w1 3 #[.int .i64 0]
      replace K0 := K0.below h9 K0.lt
      replace K1 := K1.below h9 K1.lt
      have hlt2 := K1.lt
      replace K0 := K0.alloc (.cells #[.int .i64 0] 3)
      replace K1 := K1.alloc (.cells #[.int .i64 0] 3)
      replace GB := (GB.trans (h9.mono GB.size)).alloc (Nat.le_trans GB.size h9.size) (.cells #[.int .i64 0] 3)
      have hs9 : w.heap.size + 1 < (w1.alloc (.cells #[.int .i64 0] 3)).heap.size := by simp; omega
      clear h9 k0 k1
      have z0 := K1.cell 0
      have z1 := K1.cell 1
      have y0 := K1.frozen 0
      have y1 := K1.frozen 1
      have HKF := Lib.hid (put2 (x := .slice none 0 0) (y := .slice none 0 0) K1 GB (by omega))
      clear KP K0 K1 GB hs9 hlt2
      go_wp2_with fail
      rw [HV.out]
      exact bodyPost_ret (v := .tuple #[.agg #[.slice none 0 0, .slice none 0 0], .int .i64 4]) (results_row2 Try.results13 _ _ _ _ _ _ rfl HKF.out.1 Try.underlying25 rfl (by kernel_rfl)) rfl (GivesE.none_ HKF.out.2)
    | true =>
      rw [hr, hk, am_tt] at HAm
      by_cases h0 : 0 < (ofL us id).length
      · have e1 : decide ((0 : Int) < (Q : Int)) = true := decide_eq_true (by omega)
        have e2 : decide (0 < Q) = true := decide_eq_true (by omega)
        have e3 : 0 < Q := by omega
        have HV : Hid (destroyQ ds us id = ([], [], 8)) := Lib.hid (by unfold destroyQ; rw [if_pos hr, if_pos hk, if_pos h0])
        clear h0 hk hr hp hQ HG HH
        go_enter Try.func13, Try.ntmps13
        go_wp2_with fail
        refine (HAm.out _ GB).mono ?_
        rintro e w1 ⟨rfl, h9⟩
        have KP := Blk.new w1 3 #[.int .i64 (p : Int)]
        replace K0 := K0.below h9 K0.lt
        replace K1 := K1.below h9 K1.lt
        have hlt2 := K1.lt
        replace K0 := K0.alloc (.cells #[.int .i64 (p : Int)] 3)
        replace K1 := K1.alloc (.cells #[.int .i64 (p : Int)] 3)
        replace GB := (GB.trans (h9.mono GB.size)).alloc (Nat.le_trans GB.size h9.size) (.cells #[.int .i64 (p : Int)] 3)
        have hs9 : w.heap.size + 1 < (w1.alloc (.cells #[.int .i64 (p : Int)] 3)).heap.size := by simp; omega
        clear h9 k0 k1
        have c0 := K0.cell 0
        have c1 := K0.cell 1
        go_wp2_with fail
        refine (HCo.out _ GB).mono ?_
        rintro e w2 ⟨rfl, h9⟩
        replace KP := KP.below h9 KP.lt
        replace K1 := K1.below h9 K1.lt
        replace GB := GB.trans (h9.mono GB.size)
        clear h9 c0 c1
        have z0 := K1.cell 0
        have z1 := K1.cell 1
        have y0 := K1.frozen 0
        have y1 := K1.frozen 1
        have HKF := Lib.hid (put2 (x := .slice none 0 0) (y := .slice none 0 0) K1 GB (by omega))
        clear KP K0 K1 GB hs9 hlt2
        go_wp2_with fail
        rw [HV.out]
        exact bodyPost_ret (v := .tuple #[.agg #[.slice none 0 0, .slice none 0 0], .int .i64 8]) (results_row2 Try.results13 _ _ _ _ _ _ rfl HKF.out.1 Try.underlying25 rfl (by kernel_rfl)) rfl (GivesE.none_ HKF.out.2)
      · have e1 : decide ((0 : Int) < (Q : Int)) = false := decide_eq_false (by omega)
        have e2 : decide (0 < Q) = false := decide_eq_false (by omega)
        have e3 : ¬ 0 < Q := by omega
        obtain ⟨y, hy⟩ := kf_is hk
        have hpn : p < n := by
          have := (List.getElem?_eq_some_iff.1 (low_at (rightG_iff.1 hr).rd hy)).1
          rw [hp] at this
          have := HH.out
          omega
        obtain ⟨L9, hL9⟩ : ∃ L9, delK ds id = L9 := ⟨_, rfl⟩
        have HV : Hid (destroyQ ds us id = (L9, us, 0)) := Lib.hid (by unfold destroyQ; rw [if_pos hr, if_pos hk, if_neg h0, hL9])
        have HDo : Hid (∀ (gp : Nat) (u : World), Blk u gp 3 #[.int .i64 (p : Int)] → DoOkDestroy (.pointer (some ⟨gp, 0, none⟩)) ds us L9 us u) := Lib.hid (by
          intro gp u Kp b A' n' c' B' m' d' v hb1 hb2 hB hg
          have hp2 := Kp.lt

          rw [show L9 = ds.eraseIdx p by rw [← hL9, ← hp]; rfl]
          exact destroydo_any b A' n' c' ds B' m' d' us gp p v hg hb2 (by have := own_dlen hg.doms; have := HH.out; omega) (by have := own_dlen hg.doms; have := HH.out; omega) (by omega) ((Kp.below hB hp2).cell 0))
        have HCh := Lib.hid (fun (gp : Nat) (u : World) (h : Below w.heap.size w u) (hd : DoOkDestroy (.pointer (some ⟨gp, 0, none⟩)) ds us L9 us u) => changedDestroy_any A n c ds B m d us L9 us _ u (HG.out.below h) hd)
        clear hL9 hy hpn
        clear h0 hk hr hp hQ HG HH
        go_enter Try.func13, Try.ntmps13
        go_wp2_with fail
        refine (HAm.out _ GB).mono ?_
        rintro e w1 ⟨rfl, h9⟩
        have KP := Blk.new w1 3 #[.int .i64 (p : Int)]
        replace K0 := K0.below h9 K0.lt
        replace K1 := K1.below h9 K1.lt
        have hlt2 := K1.lt
        replace K0 := K0.alloc (.cells #[.int .i64 (p : Int)] 3)
        replace K1 := K1.alloc (.cells #[.int .i64 (p : Int)] 3)
        replace GB := (GB.trans (h9.mono GB.size)).alloc (Nat.le_trans GB.size h9.size) (.cells #[.int .i64 (p : Int)] 3)
        have hs9 : w.heap.size + 1 < (w1.alloc (.cells #[.int .i64 (p : Int)] 3)).heap.size := by simp; omega
        clear h9 k0 k1
        have c0 := K0.cell 0
        have c1 := K0.cell 1
        go_wp2_with fail
        refine (HCo.out _ GB).mono ?_
        rintro e w2 ⟨rfl, h9⟩
        replace KP := KP.below h9 KP.lt
        replace K0 := K0.below h9 K0.lt
        replace K1 := K1.below h9 K1.lt
        replace GB := GB.trans (h9.mono GB.size)
        replace hs9 := Nat.lt_of_lt_of_le hs9 h9.size
        clear h9 c0 c1
        have c2 := K0.cell 0
        have c3 := K0.cell 1
        go_wp2_with fail
        refine (HCh.out _ _ GB (HDo.out _ _ KP)).mono ?_
        rintro e w9 ⟨A3, n3, c3', B3, m3, d3, rfl, hl1, hl2, oD, oV, h9⟩
        replace K1 := K1.below h9 K1.lt
        have HOD := Lib.hid (And.intro hl1 (And.intro hl2 (And.intro (own_set (own_set oD (g := w.heap.size + 1) hs9 0 (.slice A3 n3 c3')) (g := w.heap.size + 1) hs9 1 (.slice B3 m3 d3)) (And.intro (own_set (own_set oV (g := w.heap.size + 1) hs9 0 (.slice A3 n3 c3')) (g := w.heap.size + 1) hs9 1 (.slice B3 m3 d3)) GB.size))))
        replace GB := GB.trans (h9.mono GB.size)
        have z0 := K1.cell 0
        have z1 := K1.cell 1
        have y0 := K1.frozen 0
        have y1 := K1.frozen 1
        have HKF := Lib.hid (put2 (x := .slice A3 n3 c3') (y := .slice B3 m3 d3) K1 GB (by omega))
        clear h9 K0 K1 GB KP oD oV hl1 hl2 hs9 c2 c3 hlt2
        go_wp2_with fail
        rw [HV.out]
        exact bodyPost_ret (v := .tuple #[.agg #[.slice A3 n3 c3', .slice B3 m3 d3], .int .i64 0]) (results_row2 Try.results13 _ _ _ _ _ _ rfl HKF.out.1 Try.underlying25 rfl (by kernel_rfl)) rfl ⟨A3, n3, c3', B3, m3, d3, rfl, HOD.out.1, HOD.out.2.1, own_down HOD.out.2.2.1 HOD.out.2.2.2.2, own_down HOD.out.2.2.2.1 HOD.out.2.2.2.2, HKF.out.2⟩

set_option maxRecDepth 100000 in
set_option maxHeartbeats 8000000 in
theorem gremask_any (A : Option Addr) (n c : Nat) (ds : List Dom) (B : Option Addr) (m d : Nat) (us : List Vc) (id : Int) (h s : Nat) (w : World) (hG : GR w A n c ds B m d us) (hh : h < 4294967296) (hs : s < 4294967296) :
    Calls Try.prog 24 #[.agg #[.slice A n c, .slice B m d], .int .i64 id, .agg #[.int .u32 (h : Int), .int .u32 (s : Int)]] w (GivesE (remaskQ ds us id h s) w) := by
  have HAm := Lib.hid (fun (u : World) (h : Below w.heap.size w u) => vamong_any A n c ds B m d us id u (hG.below h))
  have HG := Lib.hid hG
  have HH : Hid (ds.length = n ∧ us.length = m ∧ n ≤ 1000 ∧ m ≤ 1000) := Lib.hid ⟨hG.len.1, hG.len.2, hG.n9, hG.m9⟩
  obtain ⟨p, hp⟩ : ∃ p, low us id = p := ⟨_, rfl⟩
  rw [hp] at HAm
  have HMk := Lib.hid (fun (u : World) => mcheck_any h s u hh hs)
  obtain ⟨E2, hE2⟩ : ∃ E2, maskE h s = E2 := ⟨_, rfl⟩
  rw [hE2] at HMk
  obtain ⟨K0, K1, K2, GB⟩ := blks3 w 25 48 25 #[.slice A n c, .slice B m d] #[.int .u32 (h : Int), .int .u32 (s : Int)] #[.slice none 0 0, .slice none 0 0]
  have k0 := K0.cell 0
  have k1 := K0.cell 1
  clear hG hh hs
  cases hr : rightG ds us with
  | false =>
    rw [hr, am_ff] at HAm
    have HV : Hid (remaskQ ds us id h s = ([], [], 190)) := Lib.hid (by unfold remaskQ; rw [hr]; rfl)
    clear hr hp hE2 HG HH
    go_enter Try.func24, Try.ntmps24
    go_wp2_with fail
    refine (HAm.out _ GB).mono ?_
    rintro e w1 ⟨rfl, h9⟩
    have KP := Blk.new w1 3 #[.int .i64 0]
    replace K0 := K0.below h9 K0.lt
    replace K1 := K1.below h9 K1.lt
    replace K2 := K2.below h9 K2.lt
    have hlt2 := K2.lt
    replace K0 := K0.alloc (.cells #[.int .i64 0] 3)
    replace K1 := K1.alloc (.cells #[.int .i64 0] 3)
    replace K2 := K2.alloc (.cells #[.int .i64 0] 3)
    replace GB := (GB.trans (h9.mono GB.size)).alloc (Nat.le_trans GB.size h9.size) (.cells #[.int .i64 0] 3)
    have hs9 : w.heap.size + 1 + 1 < (w1.alloc (.cells #[.int .i64 0] 3)).heap.size := by simp; omega
    clear h9 k0 k1
    have m0 := K1.cell 0
    have m1 := K1.cell 1
    go_wp2_with fail
    refine (HMk.out _).mono ?_
    rintro e w2 ⟨rfl, h9⟩
    replace KP := KP.below h9 KP.lt
    replace K0 := K0.below h9 K0.lt
    replace K1 := K1.below h9 K1.lt
    replace K2 := K2.below h9 K2.lt
    replace GB := GB.trans (h9.mono GB.size)
    replace hs9 := Nat.lt_of_lt_of_le hs9 h9.size
    have HOr := Lib.hid (or2_any 190 E2 w2)
    rw [show (if (190 : Int) = 0 then E2 else 190) = 190 from if_neg (by decide)] at HOr
    clear h9 m0 m1
    go_wp2_with fail
    refine HOr.out.mono ?_
    rintro e w3 ⟨rfl, rfl⟩
    replace KP := KP.alloc (.cells #[.int .i64 190, .int .i64 E2] 31)
    replace K0 := K0.alloc (.cells #[.int .i64 190, .int .i64 E2] 31)
    replace K1 := K1.alloc (.cells #[.int .i64 190, .int .i64 E2] 31)
    replace K2 := K2.alloc (.cells #[.int .i64 190, .int .i64 E2] 31)
    replace GB := GB.alloc GB.size (.cells #[.int .i64 190, .int .i64 E2] 31)
    replace hs9 : w.heap.size + 1 + 1 < (w2.alloc (.cells #[.int .i64 190, .int .i64 E2] 31)).heap.size := by simp; omega
    clear HOr
    have z0 := K2.cell 0
    have z1 := K2.cell 1
    have y0 := K2.frozen 0
    have y1 := K2.frozen 1
    have HKF := Lib.hid (put2 (x := .slice none 0 0) (y := .slice none 0 0) K2 GB (by omega))
    clear KP K0 K1 K2 GB hs9 hlt2
    go_wp2_with fail
    rw [HV.out]
    exact bodyPost_ret (v := .tuple #[.agg #[.slice none 0 0, .slice none 0 0], .int .i64 190]) (results_row2 Try.results24 _ _ _ _ _ _ rfl HKF.out.1 Try.underlying25 rfl (by kernel_rfl)) rfl (GivesE.none_ HKF.out.2)
  | true =>
    cases hk : (kf us id).isSome with
    | false =>
      rw [hr, hk, am_tf] at HAm
      have HV : Hid (remaskQ ds us id h s = ([], [], 4)) := Lib.hid (by unfold remaskQ; rw [if_pos hr, hk]; rfl)
      clear hk hr hp hE2 HG HH
      go_enter Try.func24, Try.ntmps24
      go_wp2_with fail
      refine (HAm.out _ GB).mono ?_
      rintro e w1 ⟨rfl, h9⟩
      have KP := Blk.new w1 3 #[.int .i64 0]
      replace K0 := K0.below h9 K0.lt
      replace K1 := K1.below h9 K1.lt
      replace K2 := K2.below h9 K2.lt
      have hlt2 := K2.lt
      replace K0 := K0.alloc (.cells #[.int .i64 0] 3)
      replace K1 := K1.alloc (.cells #[.int .i64 0] 3)
      replace K2 := K2.alloc (.cells #[.int .i64 0] 3)
      replace GB := (GB.trans (h9.mono GB.size)).alloc (Nat.le_trans GB.size h9.size) (.cells #[.int .i64 0] 3)
      have hs9 : w.heap.size + 1 + 1 < (w1.alloc (.cells #[.int .i64 0] 3)).heap.size := by simp; omega
      clear h9 k0 k1
      have m0 := K1.cell 0
      have m1 := K1.cell 1
      go_wp2_with fail
      refine (HMk.out _).mono ?_
      rintro e w2 ⟨rfl, h9⟩
      replace KP := KP.below h9 KP.lt
      replace K0 := K0.below h9 K0.lt
      replace K1 := K1.below h9 K1.lt
      replace K2 := K2.below h9 K2.lt
      replace GB := GB.trans (h9.mono GB.size)
      replace hs9 := Nat.lt_of_lt_of_le hs9 h9.size
      have HOr := Lib.hid (or2_any 4 E2 w2)
      rw [show (if (4 : Int) = 0 then E2 else 4) = 4 from if_neg (by decide)] at HOr
      clear h9 m0 m1
      go_wp2_with fail
      refine HOr.out.mono ?_
      rintro e w3 ⟨rfl, rfl⟩
      replace KP := KP.alloc (.cells #[.int .i64 4, .int .i64 E2] 31)
      replace K0 := K0.alloc (.cells #[.int .i64 4, .int .i64 E2] 31)
      replace K1 := K1.alloc (.cells #[.int .i64 4, .int .i64 E2] 31)
      replace K2 := K2.alloc (.cells #[.int .i64 4, .int .i64 E2] 31)
      replace GB := GB.alloc GB.size (.cells #[.int .i64 4, .int .i64 E2] 31)
      replace hs9 : w.heap.size + 1 + 1 < (w2.alloc (.cells #[.int .i64 4, .int .i64 E2] 31)).heap.size := by simp; omega
      clear HOr
      have z0 := K2.cell 0
      have z1 := K2.cell 1
      have y0 := K2.frozen 0
      have y1 := K2.frozen 1
      have HKF := Lib.hid (put2 (x := .slice none 0 0) (y := .slice none 0 0) K2 GB (by omega))
      clear KP K0 K1 K2 GB hs9 hlt2
      go_wp2_with fail
      rw [HV.out]
      exact bodyPost_ret (v := .tuple #[.agg #[.slice none 0 0, .slice none 0 0], .int .i64 4]) (results_row2 Try.results24 _ _ _ _ _ _ rfl HKF.out.1 Try.underlying25 rfl (by kernel_rfl)) rfl (GivesE.none_ HKF.out.2)
    | true =>
      rw [hr, hk, am_tt] at HAm
      cases hm : rightK h s with
      | true =>
        have HE2 : Hid (E2 = 0) := Lib.hid (by rw [← hE2]; exact if_pos hm)
        obtain ⟨⟨v1, v2, v3, v4⟩, hy⟩ := kf_is hk
        obtain rfl : v1 = id := (kf_some hy).2
        have hpn : p < m := by
          have := (List.getElem?_eq_some_iff.1 (low_at (rightG_iff.1 hr).rv hy)).1
          rw [hp] at this
          have := HH.out
          omega
        obtain ⟨L9, hL9⟩ : ∃ L9, setK us (v1, v2, h, s) = L9 := ⟨_, rfl⟩
        have HV : Hid (remaskQ ds us v1 h s = (ds, L9, 0)) := Lib.hid (by unfold remaskQ; rw [if_pos hr, if_pos hk, if_pos hm, show vcV us v1 = ((v1, v2, v3, v4), true) from vcV_some hy, hL9])
        have HDo : Hid (∀ (gp : Nat) (u : World), Blk u gp 3 #[.int .i64 (p : Int)] → Blk u (w.heap.size + 1) 48 #[.int .u32 (h : Int), .int .u32 (s : Int)] → DoOkRemask (.pointer (some ⟨w.heap.size + 1, 0, none⟩)) (.pointer (some ⟨gp, 0, none⟩)) ds us ds L9 u) := Lib.hid (by
          intro gp u Kp Kd b A' n' c' B' m' d' v hb1 hb2 hB hg
          have hp2 := Kp.lt
          have hd2 := Kd.lt
          rw [show L9 = us.set p (v1, v2, h, s) by rw [← hL9, ← hp]; rfl]
          exact remaskdo_any b A' n' c' ds B' m' d' us (w.heap.size + 1) gp p v1 v2 v3 v4 h s v hg hb2 (hp ▸ low_at (rightG_iff.1 hr).rv hy) (by omega) (by omega) ((Kd.below hB hd2).cell 0) ((Kd.below hB hd2).cell 1) ((Kp.below hB hp2).cell 0))
        have HCh := Lib.hid (fun (gp : Nat) (u : World) (h : Below w.heap.size w u) (hd : DoOkRemask (.pointer (some ⟨w.heap.size + 1, 0, none⟩)) (.pointer (some ⟨gp, 0, none⟩)) ds us ds L9 u) => changedRemask_any A n c ds B m d us ds L9 _ _ u (HG.out.below h) hd)
        clear hL9 hy hpn
        clear hm hk hr hp hE2 HG HH
        go_enter Try.func24, Try.ntmps24
        go_wp2_with fail
        refine (HAm.out _ GB).mono ?_
        rintro e w1 ⟨rfl, h9⟩
        have KP := Blk.new w1 3 #[.int .i64 (p : Int)]
        replace K0 := K0.below h9 K0.lt
        replace K1 := K1.below h9 K1.lt
        replace K2 := K2.below h9 K2.lt
        have hlt2 := K2.lt
        replace K0 := K0.alloc (.cells #[.int .i64 (p : Int)] 3)
        replace K1 := K1.alloc (.cells #[.int .i64 (p : Int)] 3)
        replace K2 := K2.alloc (.cells #[.int .i64 (p : Int)] 3)
        replace GB := (GB.trans (h9.mono GB.size)).alloc (Nat.le_trans GB.size h9.size) (.cells #[.int .i64 (p : Int)] 3)
        have hs9 : w.heap.size + 1 + 1 < (w1.alloc (.cells #[.int .i64 (p : Int)] 3)).heap.size := by simp; omega
        clear h9 k0 k1
        have m0 := K1.cell 0
        have m1 := K1.cell 1
        go_wp2_with fail
        refine (HMk.out _).mono ?_
        rintro e w2 ⟨rfl, h9⟩
        replace KP := KP.below h9 KP.lt
        replace K0 := K0.below h9 K0.lt
        replace K1 := K1.below h9 K1.lt
        replace K2 := K2.below h9 K2.lt
        replace GB := GB.trans (h9.mono GB.size)
        replace hs9 := Nat.lt_of_lt_of_le hs9 h9.size
        have HOr := Lib.hid (or2_any 0 E2 w2)
        rw [show (if (0 : Int) = 0 then E2 else 0) = 0 by rw [if_pos rfl, HE2.out]] at HOr
        clear h9 m0 m1
        go_wp2_with fail
        refine HOr.out.mono ?_
        rintro e w3 ⟨rfl, rfl⟩
        replace KP := KP.alloc (.cells #[.int .i64 0, .int .i64 E2] 31)
        replace K0 := K0.alloc (.cells #[.int .i64 0, .int .i64 E2] 31)
        replace K1 := K1.alloc (.cells #[.int .i64 0, .int .i64 E2] 31)
        replace K2 := K2.alloc (.cells #[.int .i64 0, .int .i64 E2] 31)
        replace GB := GB.alloc GB.size (.cells #[.int .i64 0, .int .i64 E2] 31)
        replace hs9 : w.heap.size + 1 + 1 < (w2.alloc (.cells #[.int .i64 0, .int .i64 E2] 31)).heap.size := by simp; omega
        clear HOr
        have c2 := K0.cell 0
        have c3 := K0.cell 1
        go_wp2_with fail
        refine (HCh.out _ _ GB (HDo.out _ _ KP K1)).mono ?_
        rintro e w9 ⟨A3, n3, c3', B3, m3, d3, rfl, hl1, hl2, oD, oV, h9⟩
        replace K2 := K2.below h9 K2.lt
        have HOD := Lib.hid (And.intro hl1 (And.intro hl2 (And.intro (own_set (own_set oD (g := w.heap.size + 1 + 1) hs9 0 (.slice A3 n3 c3')) (g := w.heap.size + 1 + 1) hs9 1 (.slice B3 m3 d3)) (And.intro (own_set (own_set oV (g := w.heap.size + 1 + 1) hs9 0 (.slice A3 n3 c3')) (g := w.heap.size + 1 + 1) hs9 1 (.slice B3 m3 d3)) GB.size))))
        replace GB := GB.trans (h9.mono GB.size)
        have z0 := K2.cell 0
        have z1 := K2.cell 1
        have y0 := K2.frozen 0
        have y1 := K2.frozen 1
        have HKF := Lib.hid (put2 (x := .slice A3 n3 c3') (y := .slice B3 m3 d3) K2 GB (by omega))
        clear h9 K0 K1 K2 GB KP oD oV hl1 hl2 hs9 c2 c3 hlt2
        go_wp2_with fail
        rw [HV.out]
        exact bodyPost_ret (v := .tuple #[.agg #[.slice A3 n3 c3', .slice B3 m3 d3], .int .i64 0]) (results_row2 Try.results24 _ _ _ _ _ _ rfl HKF.out.1 Try.underlying25 rfl (by kernel_rfl)) rfl ⟨A3, n3, c3', B3, m3, d3, rfl, HOD.out.1, HOD.out.2.1, own_down HOD.out.2.2.1 HOD.out.2.2.2.2, own_down HOD.out.2.2.2.1 HOD.out.2.2.2.2, HKF.out.2⟩
      | false =>
        have HE2 : Hid (E2 = 170) := Lib.hid (by rw [← hE2]; exact if_neg (by rw [hm]; simp))
        have HV : Hid (remaskQ ds us id h s = ([], [], 170)) := Lib.hid (by unfold remaskQ; rw [if_pos hr, if_pos hk, hm]; rfl)
        clear hm hk hr hp hE2 HG HH
        go_enter Try.func24, Try.ntmps24
        go_wp2_with fail
        refine (HAm.out _ GB).mono ?_
        rintro e w1 ⟨rfl, h9⟩
        have KP := Blk.new w1 3 #[.int .i64 (p : Int)]
        replace K0 := K0.below h9 K0.lt
        replace K1 := K1.below h9 K1.lt
        replace K2 := K2.below h9 K2.lt
        have hlt2 := K2.lt
        replace K0 := K0.alloc (.cells #[.int .i64 (p : Int)] 3)
        replace K1 := K1.alloc (.cells #[.int .i64 (p : Int)] 3)
        replace K2 := K2.alloc (.cells #[.int .i64 (p : Int)] 3)
        replace GB := (GB.trans (h9.mono GB.size)).alloc (Nat.le_trans GB.size h9.size) (.cells #[.int .i64 (p : Int)] 3)
        have hs9 : w.heap.size + 1 + 1 < (w1.alloc (.cells #[.int .i64 (p : Int)] 3)).heap.size := by simp; omega
        clear h9 k0 k1
        have m0 := K1.cell 0
        have m1 := K1.cell 1
        go_wp2_with fail
        refine (HMk.out _).mono ?_
        rintro e w2 ⟨rfl, h9⟩
        replace KP := KP.below h9 KP.lt
        replace K0 := K0.below h9 K0.lt
        replace K1 := K1.below h9 K1.lt
        replace K2 := K2.below h9 K2.lt
        replace GB := GB.trans (h9.mono GB.size)
        replace hs9 := Nat.lt_of_lt_of_le hs9 h9.size
        have HOr := Lib.hid (or2_any 0 E2 w2)
        rw [show (if (0 : Int) = 0 then E2 else 0) = 170 by rw [if_pos rfl, HE2.out]] at HOr
        clear h9 m0 m1
        go_wp2_with fail
        refine HOr.out.mono ?_
        rintro e w3 ⟨rfl, rfl⟩
        replace KP := KP.alloc (.cells #[.int .i64 0, .int .i64 E2] 31)
        replace K0 := K0.alloc (.cells #[.int .i64 0, .int .i64 E2] 31)
        replace K1 := K1.alloc (.cells #[.int .i64 0, .int .i64 E2] 31)
        replace K2 := K2.alloc (.cells #[.int .i64 0, .int .i64 E2] 31)
        replace GB := GB.alloc GB.size (.cells #[.int .i64 0, .int .i64 E2] 31)
        replace hs9 : w.heap.size + 1 + 1 < (w2.alloc (.cells #[.int .i64 0, .int .i64 E2] 31)).heap.size := by simp; omega
        clear HOr
        have z0 := K2.cell 0
        have z1 := K2.cell 1
        have y0 := K2.frozen 0
        have y1 := K2.frozen 1
        have HKF := Lib.hid (put2 (x := .slice none 0 0) (y := .slice none 0 0) K2 GB (by omega))
        clear KP K0 K1 K2 GB hs9 hlt2
        go_wp2_with fail
        rw [HV.out]
        exact bodyPost_ret (v := .tuple #[.agg #[.slice none 0 0, .slice none 0 0], .int .i64 170]) (results_row2 Try.results24 _ _ _ _ _ _ rfl HKF.out.1 Try.underlying25 rfl (by kernel_rfl)) rfl (GivesE.none_ HKF.out.2)

end Go.Proofs.Ytknimnopopnbhaa
