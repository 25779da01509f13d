/-
  The landed domain: Create, Change. No statement is proved here.
-/
import Derived.Test.YtknimnopopnbhaaEk
import Derived.Deep.DeepCutAuto
namespace Go.Proofs.Ytknimnopopnbhaa
open Go.RowKit

/-- a call answers guests in memory of its own, and an error -/
def GivesE (r : List Dom × List Vc × Int) (w : World) (e : Ending) (w' : World) : Prop :=
  ∃ A n c B m d, e = .returned (.tuple #[.agg #[.slice A n c, .slice B m d], .int .i64 r.2.2]) ∧ r.1.length = n ∧ r.2.1.length = m ∧ w'.ownsRow w.heap.size 27 4 (.slice A n c) n (flat dv r.1) ∧
    w'.ownsRow w.heap.size 50 4 (.slice B m d) m (flat cv r.2.1) ∧ Below w.heap.size w w'
theorem GivesE.none_ {w w' : World} {E : Int} (hb : Below w.heap.size w w') : GivesE ([], [], E) w (.returned (.tuple #[.agg #[.slice none 0 0, .slice none 0 0], .int .i64 E])) w' :=
  ⟨none, 0, 0, none, 0, 0, rfl, rfl, rfl, World.ownsRow_nil _ _ _ _, World.ownsRow_nil _ _ _ _, hb⟩
theorem or2_any (a b : Int) (u : World) : Calls Try.prog 41 #[.slice (some ⟨u.heap.size, 0, none⟩) 2 2] (u.alloc (.cells #[.int .i64 a, .int .i64 b] 31)) fun e w' => e = .returned (.int .i64 (if a = 0 then b else a)) ∧ (u.alloc (.cells #[.int .i64 a, .int .i64 b] 31)) = w' := by
  have h := orE_any (some ⟨u.heap.size, 0, none⟩) 2 2 [a, b] (u.alloc (.cells #[.int .i64 a, .int .i64 b] 31)) (reads_new u 31 1 2 [.int .i64 a, .int .i64 b] rfl) (by omega)
  have hv : orL [a, b] = if a = 0 then b else a := by
    unfold orL orL orL
    by_cases ha : a = 0
    · rw [if_pos ha, if_pos ha]
      split
      · omega
      · rfl
    · rw [if_neg ha, if_neg ha]
  rwa [hv] at h
def createQ (ds : List Dom) (us : List Vc) (d : Dom) : List Dom × List Vc × Int := if rightG ds us = true then (if rightD d = true then (if (kf ds d.1).isSome = true then ([], [], 5) else (insK ds d, us, 0)) else ([], [], 2)) else ([], [], 190)
def changeQ (ds : List Dom) (us : List Vc) (d : Dom) : List Dom × List Vc × Int := if rightG ds us = true then (if rightD d = true then (if (kf ds d.1).isSome = true then (setK ds d, us, 0) else ([], [], 4)) else ([], [], 2)) else ([], [], 190)
/-- why nothing is done with a domain -/
def preE (ds : List Dom) (us : List Vc) (d : Dom) : Int := if chkG ds us = 0 then (if rightD d = true then 0 else 2) else chkG ds us
theorem pre_ok {ds : List Dom} {us : List Vc} {d : Dom} (h : preE ds us d = 0) : rightG ds us = true ∧ rightD d = true := by
  unfold preE chkG at h
  cases hr : rightG ds us with
  | false => rw [hr] at h; simp at h
  | true =>
    rw [hr, if_pos rfl, if_pos rfl] at h
    cases hd : rightD d with
    | true => exact ⟨rfl, rfl⟩
    | false => rw [hd] at h; simp at h
theorem pre_no {ds : List Dom} {us : List Vc} {d : Dom} {E : Int} (h : preE ds us d = E) (h0 : ¬ E = 0) : createQ ds us d = ([], [], E) ∧ changeQ ds us d = ([], [], E) := by
  unfold createQ changeQ
  unfold preE chkG at h
  cases hr : rightG ds us with
  | false => rw [hr] at h; simp at h; subst h; exact ⟨rfl, rfl⟩
  | true =>
    rw [hr, if_pos rfl, if_pos rfl] at h
    cases hd : rightD d with
    | true => rw [hd] at h; simp at h; exact absurd h.symm h0
    | false => rw [hd] at h; simp at h; subst h; exact ⟨rfl, rfl⟩

set_option maxRecDepth 100000 in
set_option maxHeartbeats 8000000 in
theorem gcreate_any (A : Option Addr) (n c : Nat) (ds : List Dom) (B : Option Addr) (m d : Nat) (us : List Vc) (x1 x2 x3 x4 : Int) (w : World) (hG : GR w A n c ds B m d us) :
    Calls Try.prog 11 #[.agg #[.slice A n c, .slice B m d], .agg #[.int .i64 x1, .int .i64 x2, .int .i64 x3, .int .i64 x4]] w (GivesE (createQ ds us (x1, x2, x3, x4)) w) := by
  have HCk := Lib.hid (fun (u : World) (h : Below w.heap.size w u) => gcheck_any A n c ds B m d us u (hG.below h))
  have HAl := Lib.hid (fun (u : World) => alone_any x1 x2 x3 x4 u)
  have HAt := Lib.hid (fun (u : World) (h : Below w.heap.size w u) (hR : Rise ds) => dat_any A n c ds B m d us x1 u (hG.below h) hR)
  obtain ⟨p, hp⟩ : ∃ p, low ds x1 = p := ⟨_, rfl⟩
  rw [hp] at HAt
  obtain ⟨L9, hL9⟩ : ∃ L9, insK ds (x1, x2, x3, x4) = L9 := ⟨_, rfl⟩
  have hlen := hG.len.1
  have hn9 := hG.n9
  have HCh := Lib.hid (fun (gp : Nat) (u : World) (h : Below w.heap.size w u) (hd : DoOkCreate (.pointer (some ⟨gp, 0, none⟩)) (.pointer (some ⟨w.heap.size + 1, 0, none⟩)) ds us L9 us u) => changedCreate_any A n c ds B m d us L9 us _ _ u (hG.below h) hd)
  have HDo : Hid (∀ (gp : Nat) (u : World), Blk u gp 3 #[.int .i64 (p : Int)] → Blk u (w.heap.size + 1) 27 #[.int .i64 x1, .int .i64 x2, .int .i64 x3, .int .i64 x4] → DoOkCreate (.pointer (some ⟨gp, 0, none⟩)) (.pointer (some ⟨w.heap.size + 1, 0, none⟩)) ds us L9 us u) := Lib.hid (by
    intro gp u Kp Kd b A' n' c' B' m' d' v hb1 hb2 hB hg
    have hp2 := Kp.lt
    have hd2 := Kd.lt
    have hpl : p ≤ ds.length := hp ▸ low_le ds x1
    rw [show L9 = ds.take p ++ (x1, x2, x3, x4) :: ds.drop p by rw [← hL9, ← hp]; rfl]
    exact createdo_any b A' n' c' ds B' m' d' us gp (w.heap.size + 1) p x1 x2 x3 x4 v hg hb2 (by have := own_dlen hg.doms; omega) (by have := own_dlen hg.doms; omega) (by omega) ((Kp.below hB hp2).cell 0) (by omega) ((Kd.below hB hd2).cell 0) ((Kd.below hB hd2).cell 1) ((Kd.below hB hd2).cell 2) ((Kd.below hB hd2).cell 3))
  obtain ⟨E1, hE1⟩ : ∃ E1, chkG ds us = E1 := ⟨_, rfl⟩
  obtain ⟨E2, hE2⟩ : ∃ E2 : Int, (if rightD (x1, x2, x3, x4) = true then 0 else 2) = E2 := ⟨_, rfl⟩
  obtain ⟨E, hE⟩ : ∃ E, preE ds us (x1, x2, x3, x4) = E := ⟨_, rfl⟩
  have HE : Hid ((if E1 = 0 then E2 else E1) = E) := Lib.hid (by rw [← hE, ← hE1, ← hE2]; rfl)
  rw [hE1] at HCk
  rw [hE2] at HAl
  obtain ⟨K0, K1, K2, GB⟩ := blks3 w 25 27 25 #[.slice A n c, .slice B m d] #[.int .i64 x1, .int .i64 x2, .int .i64 x3, .int .i64 x4] #[.slice none 0 0, .slice none 0 0]
  have HEh := Lib.hid hE
  have HH := Lib.hid (And.intro hlen (And.intro hn9 (And.intro hp hL9)))
  clear hG hE1 hE2 hE hlen hn9 hp hL9
  go_enter Try.func11, Try.ntmps11
  go_upto_region 1 with fail
  generalize ((w.alloc (.cells #[.slice A n c, .slice B m d] 25)).alloc (.cells #[.int .i64 x1, .int .i64 x2, .int .i64 x3, .int .i64 x4] 27)).alloc (.cells #[.slice none 0 0, .slice none 0 0] 25) = W at K0 K1 K2 GB ⊢
  replace K0 : Blk W.drew _ _ _ := K0
  replace K1 : Blk W.drew _ _ _ := K1
  replace K2 : Blk W.drew _ _ _ := K2
  replace GB := GB.drew
  go_cut [6] (fun s6 X => s6 = .int .i64 E ∧ Blk X w.heap.size 25 #[.slice A n c, .slice B m d] ∧ Blk X (w.heap.size + 1) 27 #[.int .i64 x1, .int .i64 x2, .int .i64 x3, .int .i64 x4] ∧ Blk X (w.heap.size + 1 + 1) 25 #[.slice none 0 0, .slice none 0 0] ∧ Below w.heap.size w X)
  case first =>
    refine wp_region_held_drew (S := fun u => Blk u w.heap.size 25 #[.slice A n c, .slice B m d] ∧ Blk u (w.heap.size + 1) 27 #[.int .i64 x1, .int .i64 x2, .int .i64 x3, .int .i64 x4] ∧ Below w.heap.size w u) (by kernel_rfl) ⟨K0, K1, GB⟩ (fun hS => ?_)
    generalize W.drew = V at K0 K1 K2 GB hS ⊢
    refine wpAnyH_take (i := 0) (v := .agg #[.slice A n c, .slice B m d]) rfl (by kernel_rfl) (by kernel_rfl) (by kernel_rfl) (fun _ _ _ h => h) (Or.inl ⟨by kernel_rfl, fun u hSw => (by have q0 := hSw.1.cell 0; have q1 := hSw.1.cell 1; go_simp)⟩) hS ?_
    change wpAnyH _ _ _ _ _ _ _ (Act.put _ (some 9) _) _
    simp only [Act.put]
    refine wpAnyH_take (i := 2) (v := .agg #[.int .i64 x1, .int .i64 x2, .int .i64 x3, .int .i64 x4]) rfl (by kernel_rfl) (by kernel_rfl) (by kernel_rfl) (fun _ _ _ h => h) (Or.inl ⟨by kernel_rfl, fun u hSw => (by have q0 := hSw.2.1.cell 0; have q1 := hSw.2.1.cell 1; have q2 := hSw.2.1.cell 2; have q3 := hSw.2.1.cell 3; go_simp)⟩) hS ?_
    change wpAnyH _ _ _ _ _ _ _ (Act.put _ (some 11) _) _
    simp only [Act.put]
    refine wpAnyH_ready (rs := [1]) (by kernel_rfl) (by simp) ?_
    refine AllReadyH.cons rfl (fun K hK => ?_) AllReadyH.nil
    go_simp
    refine (HCk.out _ GB).mono ?_
    rintro e1 w1 ⟨rfl, h9⟩
    replace K0 := K0.below h9 K0.lt
    replace K1 := K1.below h9 K1.lt
    replace K2 := K2.below h9 K2.lt
    replace GB := GB.trans (h9.mono GB.size)
    clear h9
    refine hK.out _ _ ⟨K0, K1, GB⟩ (fun hS => ?_)
    clear hK K
    refine wpAnyH_ready (rs := [3]) (by kernel_rfl) (by simp) ?_
    refine AllReadyH.cons rfl (fun K hK => ?_) AllReadyH.nil
    go_simp
    refine (HAl.out _).mono ?_
    rintro e2 w2 ⟨rfl, h9⟩
    replace K0 := K0.below h9 K0.lt
    replace K1 := K1.below h9 K1.lt
    replace K2 := K2.below h9 K2.lt
    replace GB := GB.trans (h9.mono GB.size)
    clear h9
    refine hK.out _ _ ⟨K0, K1, GB⟩ (fun hS => ?_)
    clear hK K
    refine wpAnyH_ready (rs := [4]) (by kernel_rfl) (by simp) ?_
    refine AllReadyH.cons rfl (fun K hK => ?_) AllReadyH.nil
    go_simp
    have HOr := or2_any E1 E2 w2
    rw [HE.out] at HOr
    replace K0 := K0.alloc (.cells #[.int .i64 E1, .int .i64 E2] 31)
    replace K1 := K1.alloc (.cells #[.int .i64 E1, .int .i64 E2] 31)
    replace K2 := K2.alloc (.cells #[.int .i64 E1, .int .i64 E2] 31)
    replace GB := GB.alloc GB.size (.cells #[.int .i64 E1, .int .i64 E2] 31)
    refine hK.out _ _ ⟨K0, K1, GB⟩ (fun hS => ?_)
    clear hK K
    refine wpAnyH_ready (rs := [5]) (by kernel_rfl) (by simp) ?_
    refine AllReadyH.cons rfl (fun K hK => ?_) AllReadyH.nil
    go_simp
    refine HOr.mono ?_
    rintro e4 w4 ⟨rfl, rfl⟩
    refine hK.out _ _ ⟨K0, K1, GB⟩ (fun hS => ?_)
    clear hK K HOr
    refine wpAnyH_take (i := 6) (v := .int .i64 E) rfl (by kernel_rfl) (by kernel_rfl) (by kernel_rfl) (fun _ _ _ h => h) (Or.inl ⟨by kernel_rfl, fun u hSw => (by go_simp)⟩) hS ?_
    change wpAnyH _ _ _ _ _ _ _ (Act.put _ (some 6) _) _
    simp only [Act.put]
    refine wpAnyH_done (by kernel_rfl) ?_ _
    clear hS
    go_wp2_with fail
    try go_simp
    go_meet
    exact ⟨rfl, K0, K1, K2, GB⟩
  case rest =>
    clear K0 K1 K2 GB HCk HAl HE
    obtain ⟨rfl, K0, K1, K2, GB⟩ := hcut
    rename World => X
    by_cases h0 : E = 0
    · subst h0
      have hr := pre_ok HEh.out
      have hL9 := HH.out.2.2.2
      replace HAt := Lib.hid (fun (u : World) (h : Below w.heap.size w u) => HAt.out u h (rightG_iff.1 hr.1).rd)
      clear HEh
      have k0 := K0.cell 0
      have k1 := K0.cell 1
      have k2 := K1.cell 0
      cases hk : (kf ds x1).isSome with
      | true =>
        have HV : Hid (createQ ds us (x1, x2, x3, x4) = ([], [], 5)) := Lib.hid (by unfold createQ; rw [if_pos hr.1, if_pos hr.2, if_pos hk])
        rw [hk] at HAt
        clear hr hk HCh HDo
        go_wp2_with fail
        refine (HAt.out _ GB).mono ?_
        rintro e w1 ⟨rfl, h9⟩
        replace K0 := K0.below h9 K0.lt
        replace K1 := K1.below h9 K1.lt
        replace K2 := K2.below h9 K2.lt
        replace GB := GB.trans (h9.mono GB.size)
        have L2 := (K2.alloc (.cells #[.int .i64 (p : Int)] 3))
        have GB2 := GB.alloc GB.size (.cells #[.int .i64 (p : Int)] 3)
        have z0 := L2.cell 0
        have z1 := L2.cell 1
        have y0 := L2.frozen 0
        have y1 := L2.frozen 1
        have HKF := Lib.hid (put2 (x := .slice none 0 0) (y := .slice none 0 0) L2 GB2 (by omega))
        clear h9 K0 K1 K2 GB L2 GB2
        go_wp2_with fail
        rw [HV.out]
        exact bodyPost_ret (v := .tuple #[.agg #[.slice none 0 0, .slice none 0 0], .int .i64 5]) (results_row2 Try.results11 _ _ _ _ _ _ rfl HKF.out.1 Try.underlying25 rfl (by kernel_rfl)) rfl (GivesE.none_ HKF.out.2)
      | false =>
        have HV : Hid (createQ ds us (x1, x2, x3, x4) = (L9, us, 0)) := Lib.hid (by unfold createQ; rw [if_pos hr.1, if_pos hr.2, if_neg (by rw [hk]; simp), ← hL9])
        rw [hk] at HAt
        clear hr hk
        go_wp2_with fail
        refine (HAt.out _ GB).mono ?_
        rintro e w1 ⟨rfl, h9⟩
        replace K0 := K0.below h9 K0.lt
        replace K1 := K1.below h9 K1.lt
        replace K2 := K2.below h9 K2.lt
        replace GB := GB.trans (h9.mono GB.size)
        have KP := Blk.new w1 3 #[.int .i64 (p : Int)]
        have L0 := K0.alloc (.cells #[.int .i64 (p : Int)] 3)
        have L1 := K1.alloc (.cells #[.int .i64 (p : Int)] 3)
        have L2 := K2.alloc (.cells #[.int .i64 (p : Int)] 3)
        have GB2 := GB.alloc GB.size (.cells #[.int .i64 (p : Int)] 3)
        have hlt2 := K2.lt
        clear h9 K0 K1 K2 GB
        have a0 := L0.cell 0
        have a1 := L0.cell 1
        go_wp2_with fail
        refine (HCh.out _ _ GB2 (HDo.out _ _ KP L1)).mono ?_
        rintro e w2 ⟨A3, n3, c3, B3, m3, d3, rfl, hl1, hl2, oD, oV, h9⟩
        replace L2 := L2.below h9 L2.lt
        replace GB2 := GB2.trans (h9.mono GB2.size)
        have z0 := L2.cell 0
        have z1 := L2.cell 1
        have y0 := L2.frozen 0
        have y1 := L2.frozen 1
        have HKF := Lib.hid (put2 (x := .slice A3 n3 c3) (y := .slice B3 m3 d3) L2 GB2 (by omega))
        have hs9 : w.heap.size + 1 + 1 < (w1.alloc (.cells #[.int .i64 (p : Int)] 3)).heap.size := by simp; omega
        have HOD := Lib.hid (And.intro hl1 (And.intro hl2 (And.intro (own_set (own_set oD (g := w.heap.size + 1 + 1) hs9 0 (.slice A3 n3 c3)) (g := w.heap.size + 1 + 1) hs9 1 (.slice B3 m3 d3)) (And.intro (own_set (own_set oV (g := w.heap.size + 1 + 1) hs9 0 (.slice A3 n3 c3)) (g := w.heap.size + 1 + 1) hs9 1 (.slice B3 m3 d3)) (show w.heap.size ≤ (w1.alloc (.cells #[.int .i64 (p : Int)] 3)).heap.size by omega)))))
        clear h9 L0 L1 L2 GB2 KP oD oV hl1 hl2 hs9 a0 a1 hlt2
        go_wp2_with fail
        rw [HV.out]
        exact bodyPost_ret (v := .tuple #[.agg #[.slice A3 n3 c3, .slice B3 m3 d3], .int .i64 0]) (results_row2 Try.results11 _ _ _ _ _ _ rfl HKF.out.1 Try.underlying25 rfl (by kernel_rfl)) rfl ⟨A3, n3, c3, B3, m3, d3, rfl, HOD.out.1, HOD.out.2.1, own_down HOD.out.2.2.1 HOD.out.2.2.2.2, own_down HOD.out.2.2.2.1 HOD.out.2.2.2.2, HKF.out.2⟩
    · have HV : Hid (createQ ds us (x1, x2, x3, x4) = ([], [], E)) := Lib.hid (pre_no HEh.out h0).1
      have e0 : (E == 0) = false := by simp; exact h0
      have z0 := K2.cell 0
      have z1 := K2.cell 1
      have y0 := K2.frozen 0
      have y1 := K2.frozen 1
      have HKF := Lib.hid (put2 (x := .slice none 0 0) (y := .slice none 0 0) K2 GB (by omega))
      clear h0 HEh HCh HDo HAt HH K0 K1 K2 GB
      go_wp2_with fail
      rw [HV.out]
      exact bodyPost_ret (v := .tuple #[.agg #[.slice none 0 0, .slice none 0 0], .int .i64 E]) (results_row2 Try.results11 _ _ _ _ _ _ rfl HKF.out.1 Try.underlying25 rfl (by kernel_rfl)) rfl (GivesE.none_ HKF.out.2)

set_option maxRecDepth 100000 in
set_option maxHeartbeats 8000000 in
theorem gchange_any (A : Option Addr) (n c : Nat) (ds : List Dom) (B : Option Addr) (m d : Nat) (us : List Vc) (x1 x2 x3 x4 : Int) (w : World) (hG : GR w A n c ds B m d us) :
    Calls Try.prog 12 #[.agg #[.slice A n c, .slice B m d], .agg #[.int .i64 x1, .int .i64 x2, .int .i64 x3, .int .i64 x4]] w (GivesE (changeQ ds us (x1, x2, x3, x4)) w) := by
  have HCk := Lib.hid (fun (u : World) (h : Below w.heap.size w u) => gcheck_any A n c ds B m d us u (hG.below h))
  have HAl := Lib.hid (fun (u : World) => alone_any x1 x2 x3 x4 u)
  have HAt := Lib.hid (fun (u : World) (h : Below w.heap.size w u) (hR : Rise ds) => dat_any A n c ds B m d us x1 u (hG.below h) hR)
  obtain ⟨p, hp⟩ : ∃ p, low ds x1 = p := ⟨_, rfl⟩
  rw [hp] at HAt
  obtain ⟨L9, hL9⟩ : ∃ L9, setK ds (x1, x2, x3, x4) = L9 := ⟨_, rfl⟩
  have hlen := hG.len.1
  have hn9 := hG.n9
  have HCh := Lib.hid (fun (gp : Nat) (u : World) (h : Below w.heap.size w u) (hd : DoOkChange (.pointer (some ⟨w.heap.size + 1, 0, none⟩)) (.pointer (some ⟨gp, 0, none⟩)) ds us L9 us u) => changedChange_any A n c ds B m d us L9 us _ _ u (hG.below h) hd)
  have HDo : Hid (p < n → ∀ (gp : Nat) (u : World), Blk u gp 3 #[.int .i64 (p : Int)] → Blk u (w.heap.size + 1) 27 #[.int .i64 x1, .int .i64 x2, .int .i64 x3, .int .i64 x4] → DoOkChange (.pointer (some ⟨w.heap.size + 1, 0, none⟩)) (.pointer (some ⟨gp, 0, none⟩)) ds us L9 us u) := Lib.hid (by
    intro hpn gp u Kp Kd b A' n' c' B' m' d' v hb1 hb2 hB hg
    have hp2 := Kp.lt
    have hd2 := Kd.lt
    have hpl : p ≤ ds.length := hp ▸ low_le ds x1
    rw [show L9 = ds.set p (x1, x2, x3, x4) by rw [← hL9, ← hp]; rfl]
    exact changedo_any b A' n' c' ds B' m' d' us (w.heap.size + 1) gp p x1 x2 x3 x4 v hg hb2 (by have := own_dlen hg.doms; omega) (by omega) (by omega) ((Kd.below hB hd2).cell 0) ((Kd.below hB hd2).cell 1) ((Kd.below hB hd2).cell 2) ((Kd.below hB hd2).cell 3) ((Kp.below hB hp2).cell 0))
  obtain ⟨E1, hE1⟩ : ∃ E1, chkG ds us = E1 := ⟨_, rfl⟩
  obtain ⟨E2, hE2⟩ : ∃ E2 : Int, (if rightD (x1, x2, x3, x4) = true then 0 else 2) = E2 := ⟨_, rfl⟩
  obtain ⟨E, hE⟩ : ∃ E, preE ds us (x1, x2, x3, x4) = E := ⟨_, rfl⟩
  have HE : Hid ((if E1 = 0 then E2 else E1) = E) := Lib.hid (by rw [← hE, ← hE1, ← hE2]; rfl)
  rw [hE1] at HCk
  rw [hE2] at HAl
  obtain ⟨K0, K1, K2, GB⟩ := blks3 w 25 27 25 #[.slice A n c, .slice B m d] #[.int .i64 x1, .int .i64 x2, .int .i64 x3, .int .i64 x4] #[.slice none 0 0, .slice none 0 0]
  have HEh := Lib.hid hE
  have HH := Lib.hid (And.intro hlen (And.intro hn9 (And.intro hp hL9)))
  clear hG hE1 hE2 hE hlen hn9 hp hL9
  go_enter Try.func12, Try.ntmps12
  go_upto_region 1 with fail
  generalize ((w.alloc (.cells #[.slice A n c, .slice B m d] 25)).alloc (.cells #[.int .i64 x1, .int .i64 x2, .int .i64 x3, .int .i64 x4] 27)).alloc (.cells #[.slice none 0 0, .slice none 0 0] 25) = W at K0 K1 K2 GB ⊢
  replace K0 : Blk W.drew _ _ _ := K0
  replace K1 : Blk W.drew _ _ _ := K1
  replace K2 : Blk W.drew _ _ _ := K2
  replace GB := GB.drew
  go_cut [6] (fun s6 X => s6 = .int .i64 E ∧ Blk X w.heap.size 25 #[.slice A n c, .slice B m d] ∧ Blk X (w.heap.size + 1) 27 #[.int .i64 x1, .int .i64 x2, .int .i64 x3, .int .i64 x4] ∧ Blk X (w.heap.size + 1 + 1) 25 #[.slice none 0 0, .slice none 0 0] ∧ Below w.heap.size w X)
  case first =>
    refine wp_region_held_drew (S := fun u => Blk u w.heap.size 25 #[.slice A n c, .slice B m d] ∧ Blk u (w.heap.size + 1) 27 #[.int .i64 x1, .int .i64 x2, .int .i64 x3, .int .i64 x4] ∧ Below w.heap.size w u) (by kernel_rfl) ⟨K0, K1, GB⟩ (fun hS => ?_)
    generalize W.drew = V at K0 K1 K2 GB hS ⊢
    refine wpAnyH_take (i := 0) (v := .agg #[.slice A n c, .slice B m d]) rfl (by kernel_rfl) (by kernel_rfl) (by kernel_rfl) (fun _ _ _ h => h) (Or.inl ⟨by kernel_rfl, fun u hSw => (by have q0 := hSw.1.cell 0; have q1 := hSw.1.cell 1; go_simp)⟩) hS ?_
    change wpAnyH _ _ _ _ _ _ _ (Act.put _ (some 9) _) _
    simp only [Act.put]
    refine wpAnyH_take (i := 2) (v := .agg #[.int .i64 x1, .int .i64 x2, .int .i64 x3, .int .i64 x4]) rfl (by kernel_rfl) (by kernel_rfl) (by kernel_rfl) (fun _ _ _ h => h) (Or.inl ⟨by kernel_rfl, fun u hSw => (by have q0 := hSw.2.1.cell 0; have q1 := hSw.2.1.cell 1; have q2 := hSw.2.1.cell 2; have q3 := hSw.2.1.cell 3; go_simp)⟩) hS ?_
    change wpAnyH _ _ _ _ _ _ _ (Act.put _ (some 11) _) _
    simp only [Act.put]
    refine wpAnyH_ready (rs := [1]) (by kernel_rfl) (by simp) ?_
    refine AllReadyH.cons rfl (fun K hK => ?_) AllReadyH.nil
    go_simp
    refine (HCk.out _ GB).mono ?_
    rintro e1 w1 ⟨rfl, h9⟩
    replace K0 := K0.below h9 K0.lt
    replace K1 := K1.below h9 K1.lt
    replace K2 := K2.below h9 K2.lt
    replace GB := GB.trans (h9.mono GB.size)
    clear h9
    refine hK.out _ _ ⟨K0, K1, GB⟩ (fun hS => ?_)
    clear hK K
    refine wpAnyH_ready (rs := [3]) (by kernel_rfl) (by simp) ?_
    refine AllReadyH.cons rfl (fun K hK => ?_) AllReadyH.nil
    go_simp
    refine (HAl.out _).mono ?_
    rintro e2 w2 ⟨rfl, h9⟩
    replace K0 := K0.below h9 K0.lt
    replace K1 := K1.below h9 K1.lt
    replace K2 := K2.below h9 K2.lt
    replace GB := GB.trans (h9.mono GB.size)
    clear h9
    refine hK.out _ _ ⟨K0, K1, GB⟩ (fun hS => ?_)
    clear hK K
    refine wpAnyH_ready (rs := [4]) (by kernel_rfl) (by simp) ?_
    refine AllReadyH.cons rfl (fun K hK => ?_) AllReadyH.nil
    go_simp
    have HOr := or2_any E1 E2 w2
    rw [HE.out] at HOr
    replace K0 := K0.alloc (.cells #[.int .i64 E1, .int .i64 E2] 31)
    replace K1 := K1.alloc (.cells #[.int .i64 E1, .int .i64 E2] 31)
    replace K2 := K2.alloc (.cells #[.int .i64 E1, .int .i64 E2] 31)
    replace GB := GB.alloc GB.size (.cells #[.int .i64 E1, .int .i64 E2] 31)
    refine hK.out _ _ ⟨K0, K1, GB⟩ (fun hS => ?_)
    clear hK K
    refine wpAnyH_ready (rs := [5]) (by kernel_rfl) (by simp) ?_
    refine AllReadyH.cons rfl (fun K hK => ?_) AllReadyH.nil
    go_simp
    refine HOr.mono ?_
    rintro e4 w4 ⟨rfl, rfl⟩
    refine hK.out _ _ ⟨K0, K1, GB⟩ (fun hS => ?_)
    clear hK K HOr
    refine wpAnyH_take (i := 6) (v := .int .i64 E) rfl (by kernel_rfl) (by kernel_rfl) (by kernel_rfl) (fun _ _ _ h => h) (Or.inl ⟨by kernel_rfl, fun u hSw => (by go_simp)⟩) hS ?_
    change wpAnyH _ _ _ _ _ _ _ (Act.put _ (some 6) _) _
    simp only [Act.put]
    refine wpAnyH_done (by kernel_rfl) ?_ _
    clear hS
    go_wp2_with fail
    try go_simp
    go_meet
    exact ⟨rfl, K0, K1, K2, GB⟩
  case rest =>
    clear K0 K1 K2 GB HCk HAl HE
    obtain ⟨rfl, K0, K1, K2, GB⟩ := hcut
    rename World => X
    by_cases h0 : E = 0
    · subst h0
      have hr := pre_ok HEh.out
      have hL9 := HH.out.2.2.2
      replace HAt := Lib.hid (fun (u : World) (h : Below w.heap.size w u) => HAt.out u h (rightG_iff.1 hr.1).rd)
      clear HEh
      have k0 := K0.cell 0
      have k1 := K0.cell 1
      have k2 := K1.cell 0
      cases hk : (kf ds x1).isSome with
      | true =>
        obtain ⟨y, hy⟩ := kf_is hk
        have hpn : p < n := by
          have := (List.getElem?_eq_some_iff.1 (low_at (rightG_iff.1 hr.1).rd hy)).1
          rw [HH.out.2.2.1, HH.out.1] at this
          exact this
        replace HDo := Lib.hid (HDo.out hpn)
        clear hy hpn
        have HV : Hid (changeQ ds us (x1, x2, x3, x4) = (L9, us, 0)) := Lib.hid (by unfold changeQ; rw [if_pos hr.1, if_pos hr.2, if_pos hk, ← hL9])
        rw [hk] at HAt
        clear hr hk
        go_wp2_with fail
        refine (HAt.out _ GB).mono ?_
        rintro e w1 ⟨rfl, h9⟩
        replace K0 := K0.below h9 K0.lt
        replace K1 := K1.below h9 K1.lt
        replace K2 := K2.below h9 K2.lt
        replace GB := GB.trans (h9.mono GB.size)
        have KP := Blk.new w1 3 #[.int .i64 (p : Int)]
        have L0 := K0.alloc (.cells #[.int .i64 (p : Int)] 3)
        have L1 := K1.alloc (.cells #[.int .i64 (p : Int)] 3)
        have L2 := K2.alloc (.cells #[.int .i64 (p : Int)] 3)
        have GB2 := GB.alloc GB.size (.cells #[.int .i64 (p : Int)] 3)
        have hlt2 := K2.lt
        clear h9 K0 K1 K2 GB
        have a0 := L0.cell 0
        have a1 := L0.cell 1
        go_wp2_with fail
        refine (HCh.out _ _ GB2 (HDo.out _ _ KP L1)).mono ?_
        rintro e w2 ⟨A3, n3, c3, B3, m3, d3, rfl, hl1, hl2, oD, oV, h9⟩
        replace L2 := L2.below h9 L2.lt
        replace GB2 := GB2.trans (h9.mono GB2.size)
        have z0 := L2.cell 0
        have z1 := L2.cell 1
        have y0 := L2.frozen 0
        have y1 := L2.frozen 1
        have HKF := Lib.hid (put2 (x := .slice A3 n3 c3) (y := .slice B3 m3 d3) L2 GB2 (by omega))
        have hs9 : w.heap.size + 1 + 1 < (w1.alloc (.cells #[.int .i64 (p : Int)] 3)).heap.size := by simp; omega
        have HOD := Lib.hid (And.intro hl1 (And.intro hl2 (And.intro (own_set (own_set oD (g := w.heap.size + 1 + 1) hs9 0 (.slice A3 n3 c3)) (g := w.heap.size + 1 + 1) hs9 1 (.slice B3 m3 d3)) (And.intro (own_set (own_set oV (g := w.heap.size + 1 + 1) hs9 0 (.slice A3 n3 c3)) (g := w.heap.size + 1 + 1) hs9 1 (.slice B3 m3 d3)) (show w.heap.size ≤ (w1.alloc (.cells #[.int .i64 (p : Int)] 3)).heap.size by omega)))))
        clear h9 L0 L1 L2 GB2 KP oD oV hl1 hl2 hs9 a0 a1 hlt2
        go_wp2_with fail
        rw [HV.out]
        exact bodyPost_ret (v := .tuple #[.agg #[.slice A3 n3 c3, .slice B3 m3 d3], .int .i64 0]) (results_row2 Try.results12 _ _ _ _ _ _ rfl HKF.out.1 Try.underlying25 rfl (by kernel_rfl)) rfl ⟨A3, n3, c3, B3, m3, d3, rfl, HOD.out.1, HOD.out.2.1, own_down HOD.out.2.2.1 HOD.out.2.2.2.2, own_down HOD.out.2.2.2.1 HOD.out.2.2.2.2, HKF.out.2⟩
      | false =>
        have HV : Hid (changeQ ds us (x1, x2, x3, x4) = ([], [], 4)) := Lib.hid (by unfold changeQ; rw [if_pos hr.1, if_pos hr.2, if_neg (by rw [hk]; simp)])
        rw [hk] at HAt
        clear hr hk HCh HDo
        go_wp2_with fail
        refine (HAt.out _ GB).mono ?_
        rintro e w1 ⟨rfl, h9⟩
        replace K0 := K0.below h9 K0.lt
        replace K1 := K1.below h9 K1.lt
        replace K2 := K2.below h9 K2.lt
        replace GB := GB.trans (h9.mono GB.size)
        have L2 := (K2.alloc (.cells #[.int .i64 (p : Int)] 3))
        have GB2 := GB.alloc GB.size (.cells #[.int .i64 (p : Int)] 3)
        have z0 := L2.cell 0
        have z1 := L2.cell 1
        have y0 := L2.frozen 0
        have y1 := L2.frozen 1
        have HKF := Lib.hid (put2 (x := .slice none 0 0) (y := .slice none 0 0) L2 GB2 (by omega))
        clear h9 K0 K1 K2 GB L2 GB2
        go_wp2_with fail
        rw [HV.out]
        exact bodyPost_ret (v := .tuple #[.agg #[.slice none 0 0, .slice none 0 0], .int .i64 4]) (results_row2 Try.results12 _ _ _ _ _ _ rfl HKF.out.1 Try.underlying25 rfl (by kernel_rfl)) rfl (GivesE.none_ HKF.out.2)
    · have HV : Hid (changeQ ds us (x1, x2, x3, x4) = ([], [], E)) := Lib.hid (pre_no HEh.out h0).2
      have e0 : (E == 0) = false := by simp; exact h0
      have z0 := K2.cell 0
      have z1 := K2.cell 1
      have y0 := K2.frozen 0
      have y1 := K2.frozen 1
      have HKF := Lib.hid (put2 (x := .slice none 0 0) (y := .slice none 0 0) K2 GB (by omega))
      clear h0 HEh HCh HDo HAt HH K0 K1 K2 GB
      go_wp2_with fail
      rw [HV.out]
      exact bodyPost_ret (v := .tuple #[.agg #[.slice none 0 0, .slice none 0 0], .int .i64 E]) (results_row2 Try.results12 _ _ _ _ _ _ rfl HKF.out.1 Try.underlying25 rfl (by kernel_rfl)) rfl (GivesE.none_ HKF.out.2)

end Go.Proofs.Ytknimnopopnbhaa
