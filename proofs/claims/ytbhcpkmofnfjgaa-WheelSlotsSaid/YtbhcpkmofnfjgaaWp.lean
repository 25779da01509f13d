/-
  The landed wheel: Set. No statement is proved here.
-/
import Derived.Test.YtbhcpkmofnfjgaaWf
namespace Go.Proofs.Ytbhcpkmofnfjgaa
open Go.RowKit

theorem trepl_any (b n c i : Nat) (A : Option Addr) (l : List Tm) (vb : Nat) (x : Tm) (w : World) (hO : w.ownsRow b 44 2 (.slice A n c) n (flat tv l)) (hb : b ≤ w.heap.size) (hV : Blk w vb 44 (agT x)) (hne : ∀ k, (Value.slice A n c).ownBlock = some k → vb ≠ k) (hl : l.length = n) (hi : i < n) (hn : n ≤ 1000) :
    Calls Try.prog 30 #[.slice A n c, .int .i64 (i : Int), .int .i64 ((i : Int) + 1), .slice (some ⟨vb, 0, none⟩) 1 1] w (Turned w (.slice A n c) b 44 n (flat tv (l.set i x))) := by
  by_cases h : i + 1 = n
  · exact treplast_any b n c i A l vb x w hO hb hV hl h hn
  · exact trepmid_any b n c i A l vb x w hO hV hne hl (by omega) hn
/-- the timers with one of that number at that time -/
def setL (ts : List Tm) (id tm : Int) : List Tm := if metK (·.1) ts id = true then ts.set (lowK (·.1) ts id) (id, tm) else ts.take (lowK (·.1) ts id) ++ (id, tm) :: ts.drop (lowK (·.1) ts id)
def setV (now : Int) (ts : List Tm) (id tm : Int) : (Int × List Tm) × Int := if chkW now ts = true then (if tmB now (id, tm) = true then ((now, setL ts id tm), 0) else ((0, []), 2)) else ((0, []), 250)

set_option maxRecDepth 100000 in
set_option maxHeartbeats 8000000 in
theorem set_any (now : Int) (A : Option Addr) (n c : Nat) (ts : List Tm) (id tm : Int) (w : World) (hG : WR w A n ts) :
    Calls Try.prog 10 #[.agg #[.int .i64 now, .slice A n c], .int .i64 id, .int .i64 tm] w (Gave (setV now ts id tm) w) := by
  obtain ⟨K0, K1, K2, GB⟩ := blks3 w 24 24 44 #[.int .i64 now, .slice A n c] #[.int .i64 0, .slice none 0 0] #[.int .i64 id, .int .i64 tm]
  have hz : w.heap.size + 1 + 1 + 1 ≤ (((w.alloc (.cells #[.int .i64 now, .slice A n c] 24)).alloc (.cells #[.int .i64 0, .slice none 0 0] 24)).alloc (.cells #[.int .i64 id, .int .i64 tm] 44)).heap.size := by simp
  have HC := Lib.hid (fun (u : World) (h : Below w.heap.size w u) => check_any now A n c ts u (hG.below h))
  have HMa := Lib.hid (fun (u : World) => may_any now id tm u)
  have z0 := K0.cell 0
  have z1 := K0.cell 1
  have y0 := K2.cell 0
  have y1 := K2.cell 1
  cases hr : chkW now ts with
  | false =>
    have HV : Hid (setV now ts id tm = ((0, []), 250)) := Lib.hid (by unfold setV; rw [hr]; rfl)
    rw [hr, show errW false = 250 from rfl] at HC
    rw [HV.out]
    clear hr hG HMa
    go_enter Try.func10, Try.ntmps10
    go_wp2_with fail
    refine (HC.out _ GB).mono ?_
    rintro e w1 ⟨rfl, h9⟩
    replace K0 := K0.below h9 K0.lt
    replace K1 := K1.below h9 K1.lt
    replace K2 := K2.below h9 K2.lt
    replace hz := Nat.le_trans hz h9.size
    replace GB := GB.trans (h9.mono GB.size)
    clear h9 z0 z1 y0 y1
    have d0 := K1.cell 0
    have d1 := K1.cell 1
    have f0 := K1.frozen 0
    have f1 := K1.frozen 1
    have HP := Lib.hid (put2 (x := .int .i64 0) (y := .slice none 0 0) K1 GB (by omega))
    clear K1 GB
    clear K0 K2
    go_wp2_with fail
    exact bodyPost_ret (v := .tuple #[.agg #[.int .i64 0, .slice none 0 0], .int .i64 250]) (results_cell_row_tmp Try.results10 _ _ _ _ _ _ rfl HP.out.1 Try.underlying24 rfl (by kernel_rfl)) rfl (Gave.none_ HP.out.2)
  | true =>
    rw [hr, show errW true = 0 from rfl] at HC
    cases hb : tmB now (id, tm) with
    | false =>
      have HV : Hid (setV now ts id tm = ((0, []), 2)) := Lib.hid (by unfold setV; rw [hr, hb]; rfl)
      rw [hb] at HMa
      rw [HV.out]
      clear hr hb hG
      go_enter Try.func10, Try.ntmps10
      go_wp2_with fail
      refine (HC.out _ GB).mono ?_
      rintro e w1 ⟨rfl, h9⟩
      replace K0 := K0.below h9 K0.lt
      replace K1 := K1.below h9 K1.lt
      replace K2 := K2.below h9 K2.lt
      replace hz := Nat.le_trans hz h9.size
      replace GB := GB.trans (h9.mono GB.size)
      clear h9 z0 z1 y0 y1
      have z0 := K0.cell 0
      have z1 := K0.cell 1
      have y0 := K2.cell 0
      have y1 := K2.cell 1
      go_wp2_with fail
      refine (HMa.out _).mono ?_
      rintro e w2 ⟨rfl, h9⟩
      replace K0 := K0.below h9 K0.lt
      replace K1 := K1.below h9 K1.lt
      replace K2 := K2.below h9 K2.lt
      replace hz := Nat.le_trans hz h9.size
      replace GB := GB.trans (h9.mono GB.size)
      clear h9 z0 z1 y0 y1
      have d0 := K1.cell 0
      have d1 := K1.cell 1
      have f0 := K1.frozen 0
      have f1 := K1.frozen 1
      have HP := Lib.hid (put2 (x := .int .i64 0) (y := .slice none 0 0) K1 GB (by omega))
      clear K1 GB
      clear K0 K2
      go_wp2_with fail
      exact bodyPost_ret (v := .tuple #[.agg #[.int .i64 0, .slice none 0 0], .int .i64 2]) (results_cell_row_tmp Try.results10 _ _ _ _ _ _ rfl HP.out.1 Try.underlying24 rfl (by kernel_rfl)) rfl (Gave.none_ HP.out.2)
    | true =>
      rw [hb] at HMa
      have HS := (chkW_iff.1 hr).2.2.sort
      have HF := Lib.hid (fun (u : World) (h : Below w.heap.size w u) => ifind_any A n c ts id u (hG.below h) HS)
      obtain ⟨i, hi⟩ : ∃ i, lowK (·.1) ts id = i := ⟨_, rfl⟩
      clear HS
      cases hm : metK (·.1) ts id with
      | true =>
        have HV : Hid (setV now ts id tm = ((now, ts.set i (id, tm)), 0)) := Lib.hid (by unfold setV setL; rw [if_pos hr, if_pos hb, hm, hi]; simp)
        have hlt : i < n := by obtain ⟨b, hb⟩ := met_at hm; have := (List.getElem?_eq_some_iff.1 hb).1; rw [hi, hG.len] at this; exact this
        have w1 : wrap64 ((i : Int) + 1) = (i : Int) + 1 := by unfold wrap64; have := hG.small; omega
        have HRe := Lib.hid (fun (u : World) (A' : Option Addr) (c' : Nat) (vb : Nat) (h : u.ownsRow (w.heap.size + 1 + 1 + 1) 44 2 (.slice A' n c') n (flat tv ts)) (hb : w.heap.size + 1 + 1 + 1 ≤ u.heap.size) (hV : Blk u vb 44 #[.int .i64 id, .int .i64 tm]) (hne : ∀ k, (Value.slice A' n c').ownBlock = some k → vb ≠ k) => trepl_any (w.heap.size + 1 + 1 + 1) n c' i A' ts vb (id, tm) u h hb hV hne hG.len hlt hG.small)
        have HCl := Lib.hid (fun (u : World) (h : Below w.heap.size w u) => tclone_any A n c ts u (hG.below h).row hG.small)
        rw [hm, hi] at HF
        rw [HV.out]
        clear hr hb hm hi hG hlt
        go_enter Try.func10, Try.ntmps10
        go_wp2_with fail
        refine (HC.out _ GB).mono ?_
        rintro e w1 ⟨rfl, h9⟩
        replace K0 := K0.below h9 K0.lt
        replace K1 := K1.below h9 K1.lt
        replace K2 := K2.below h9 K2.lt
        replace hz := Nat.le_trans hz h9.size
        replace GB := GB.trans (h9.mono GB.size)
        clear h9 z0 z1 y0 y1
        have z0 := K0.cell 0
        have z1 := K0.cell 1
        have y0 := K2.cell 0
        have y1 := K2.cell 1
        go_wp2_with fail
        refine (HMa.out _).mono ?_
        rintro e w2 ⟨rfl, h9⟩
        replace K0 := K0.below h9 K0.lt
        replace K1 := K1.below h9 K1.lt
        replace K2 := K2.below h9 K2.lt
        replace hz := Nat.le_trans hz h9.size
        replace GB := GB.trans (h9.mono GB.size)
        clear h9 z0 z1 y0 y1
        have z0 := K0.cell 0
        have z1 := K0.cell 1
        have y0 := K2.cell 0
        have y1 := K2.cell 1
        go_wp2_with fail
        refine (HF.out _ GB).mono ?_
        rintro e w3 ⟨rfl, h9⟩
        replace K0 := K0.below h9 K0.lt
        replace K1 := K1.below h9 K1.lt
        replace K2 := K2.below h9 K2.lt
        replace hz := Nat.le_trans hz h9.size
        replace GB := GB.trans (h9.mono GB.size)
        clear h9 z0 z1 y0 y1
        go_upto_region 10 with fail
        replace K0 : Blk w3.drew _ _ _ := K0
        replace K1 : Blk w3.drew _ _ _ := K1
        replace K2 : Blk w3.drew _ _ _ := K2
        replace hz : w.heap.size + 1 + 1 + 1 ≤ w3.drew.heap.size := hz
        replace GB := GB.drew
        refine wp_region_held_drew (S := fun u => Below w.heap.size w u ∧ Blk u w.heap.size 24 #[.int .i64 now, .slice A n c] ∧ Blk u (w.heap.size + 1 + 1) 44 #[.int .i64 id, .int .i64 tm]) (by kernel_rfl) ⟨GB, K0, K2⟩ (fun hS => ?_)
        generalize w3.drew = V at GB K0 K1 K2 hz hS ⊢
        refine wpAnyH_take (i := 0) (v := .pointer (some ⟨w.heap.size, 0, none⟩)) rfl (by kernel_rfl) (by kernel_rfl) (by kernel_rfl) (fun _ _ _ h => h) (Or.inl ⟨by kernel_rfl, fun u hSw => (by go_simp)⟩) hS ?_
        change wpAnyH _ _ _ _ _ _ _ (Act.put _ (some 38) _) _
        simp only [Act.put]
        try simp only [List.setIfInBounds_toArray, List.set_cons_zero, List.set_cons_succ]
        refine wpAnyH_take (i := 1) (v := .int .i64 now) rfl (by kernel_rfl) (by kernel_rfl) (by kernel_rfl) (fun _ _ _ h => h) (Or.inl ⟨by kernel_rfl, fun u hSw => (by have q0 := hSw.2.1.cell 0; go_simp)⟩) hS ?_
        change wpAnyH _ _ _ _ _ _ _ (Act.put _ (some 39) _) _
        simp only [Act.put]
        try simp only [List.setIfInBounds_toArray, List.set_cons_zero, List.set_cons_succ]
        refine wpAnyH_take (i := 2) (v := .pointer (some ⟨w.heap.size, 1, none⟩)) rfl (by kernel_rfl) (by kernel_rfl) (by kernel_rfl) (fun _ _ _ h => h) (Or.inl ⟨by kernel_rfl, fun u hSw => (by go_simp)⟩) hS ?_
        change wpAnyH _ _ _ _ _ _ _ (Act.put _ (some 40) _) _
        simp only [Act.put]
        try simp only [List.setIfInBounds_toArray, List.set_cons_zero, List.set_cons_succ]
        refine wpAnyH_take (i := 3) (v := .slice A n c) rfl (by kernel_rfl) (by kernel_rfl) (by kernel_rfl) (fun _ _ _ h => h) (Or.inl ⟨by kernel_rfl, fun u hSw => (by have q0 := hSw.2.1.cell 1; go_simp)⟩) hS ?_
        change wpAnyH _ _ _ _ _ _ _ (Act.put _ (some 41) _) _
        simp only [Act.put]
        try simp only [List.setIfInBounds_toArray, List.set_cons_zero, List.set_cons_succ]
        refine wpAnyH_take (i := 5) (v := .int .i64 (i : Int)) rfl (by kernel_rfl) (by kernel_rfl) (by kernel_rfl) (fun _ _ _ h => h) (Or.inl ⟨by kernel_rfl, fun u hSw => (by go_simp)⟩) hS ?_
        change wpAnyH _ _ _ _ _ _ _ (Act.put _ (some 43) _) _
        simp only [Act.put]
        try simp only [List.setIfInBounds_toArray, List.set_cons_zero, List.set_cons_succ]
        refine wpAnyH_take (i := 6) (v := .int .i64 ((i : Int) + 1)) rfl (by kernel_rfl) (by kernel_rfl) (by kernel_rfl) (fun _ _ _ h => h) (Or.inl ⟨by kernel_rfl, fun u hSw => (by go_simp)⟩) hS ?_
        change wpAnyH _ _ _ _ _ _ _ (Act.put _ (some 44) _) _
        simp only [Act.put]
        try simp only [List.setIfInBounds_toArray, List.set_cons_zero, List.set_cons_succ]
        refine wpAnyH_take (i := 7) (v := .agg #[.int .i64 id, .int .i64 tm]) rfl (by kernel_rfl) (by kernel_rfl) (by kernel_rfl) (fun _ _ _ h => h) (Or.inl ⟨by kernel_rfl, fun u hSw => (by have q0 := hSw.2.2.cell 0; have q1 := hSw.2.2.cell 1; go_simp)⟩) hS ?_
        change wpAnyH _ _ _ _ _ _ _ (Act.put _ (some 45) _) _
        simp only [Act.put]
        try simp only [List.setIfInBounds_toArray, List.set_cons_zero, List.set_cons_succ]
        refine wpAnyH_ready (rs := [4, 8]) (by kernel_rfl) (by simp) ?_
        refine AllReadyH.cons rfl (fun K hK => ?_) (AllReadyH.cons rfl (fun K hK => ?_) (AllReadyH.nil))
        · skip
          go_simp
          refine (HCl.out _ GB).mono ?_
          rintro e1 w1 ⟨Ac, cc, rfl, oc, h9⟩
          replace oc := own_down oc hz
          replace hz := Nat.le_trans hz h9.size
          replace K0 := K0.below h9 K0.lt
          replace K1 := K1.below h9 K1.lt
          replace K2 := K2.below h9 K2.lt
          replace GB := GB.trans (h9.mono GB.size)
          clear h9
          refine hK.out _ _ ⟨GB, K0, K2⟩ (fun hS => ?_)
          clear hK K
          refine wpAnyH_ready (rs := [8]) (by kernel_rfl) (by simp) ?_
          refine AllReadyH.cons rfl (fun K hK => ?_) AllReadyH.nil
          go_simp
          have KV := Blk.new w1 44 #[.int .i64 id, .int .i64 tm]
          obtain ⟨vb, hvb⟩ : ∃ vb, w1.heap.size = vb := ⟨_, rfl⟩
          rw [hvb] at KV
          have HNV : ∀ j, (Value.slice Ac n cc).ownBlock = some j → vb ≠ j := fun j hj e => by have := (oc.lt j hj).2; omega
          replace oc := oc.alloc (.cells #[.int .i64 id, .int .i64 tm] 44)
          replace K0 := K0.alloc (.cells #[.int .i64 id, .int .i64 tm] 44)
          replace K1 := K1.alloc (.cells #[.int .i64 id, .int .i64 tm] 44)
          replace K2 := K2.alloc (.cells #[.int .i64 id, .int .i64 tm] 44)
          replace GB := GB.alloc GB.size (.cells #[.int .i64 id, .int .i64 tm] 44)
          replace hz : w.heap.size + 1 + 1 + 1 ≤ (w1.alloc (.cells #[.int .i64 id, .int .i64 tm] 44)).heap.size := Nat.le_trans hz (by simp)
          rw [hvb]
          clear hvb
          generalize w1.alloc (.cells #[.int .i64 id, .int .i64 tm] 44) = X2 at KV K0 K1 K2 GB hz oc ⊢
          refine hK.out _ _ ⟨GB, K0, K2⟩ (fun hS => ?_)
          clear hK K
          refine wpAnyH_ready (rs := [9]) (by kernel_rfl) (by simp) ?_
          refine AllReadyH.cons rfl (fun K hK => ?_) AllReadyH.nil
          go_simp
          refine (HRe.out _ _ _ vb oc hz KV HNV).mono ?_
          rintro e3 w3 ⟨⟨Ad, cd, rfl, od, -⟩, gd⟩
          replace K0 := K0.own oc gd (by omega)
          replace K1 := K1.own oc gd (by omega)
          replace K2 := K2.own oc gd (by omega)
          replace GB := GB.grown gd GB.size (fun g hg => by have := (oc.lt g hg).1; omega)
          clear gd oc KV HNV
          refine hK.out _ _ ⟨GB, K0, K2⟩ (fun hS => ?_)
          clear hK K
          refine wpAnyH_take (i := 10) (v := .agg #[.int .i64 now, .slice Ad n cd]) rfl (by kernel_rfl) (by kernel_rfl) (by kernel_rfl) (fun _ _ _ h => h) (Or.inl ⟨by kernel_rfl, fun u hSw => (by go_simp)⟩) hS ?_
          change wpAnyH _ _ _ _ _ _ _ (Act.put _ (some 48) _) _
          simp only [Act.put]
          try simp only [List.setIfInBounds_toArray, List.set_cons_zero, List.set_cons_succ]
          refine wpAnyH_ready (rs := [11]) (by kernel_rfl) (by simp) ?_
          refine AllReadyH.cons rfl (fun K hK => ?_) AllReadyH.nil
          have d0 := K1.cell 0
          have d1 := K1.cell 1
          have f0 := K1.frozen 0
          have f1 := K1.frozen 1
          have HP := Lib.hid (put2 (x := .int .i64 now) (y := .slice Ad n cd) K1 GB (by omega))
          have K0f := (K0.far (p := ⟨w.heap.size + 1, 0, none⟩) (by simp) (.int .i64 now)).far (p := ⟨w.heap.size + 1, 1, none⟩) (by simp) (.slice Ad n cd)
          have K2f := (K2.far (p := ⟨w.heap.size + 1, 0, none⟩) (by simp) (.int .i64 now)).far (p := ⟨w.heap.size + 1, 1, none⟩) (by simp) (.slice Ad n cd)
          have HO := Lib.hid (own_set (own_set od (g := w.heap.size + 1) (by omega) 0 (.int .i64 now)) (g := w.heap.size + 1) (by omega) 1 (.slice Ad n cd))
          go_simp
          refine hK.out _ _ ⟨HP.out.2, K0f, K2f⟩ (fun hS => ?_)
          clear hK K d0 d1 f0 f1 K1
          refine wpAnyH_take (i := 12) (v := .int .i64 0) rfl (by kernel_rfl) (by kernel_rfl) (by kernel_rfl) (fun _ _ _ h => h) (Or.inl ⟨by kernel_rfl, fun u hSw => (by go_simp)⟩) hS ?_
          change wpAnyH _ _ _ _ _ _ _ (Act.put _ (some 7) _) _
          simp only [Act.put]
          try simp only [List.setIfInBounds_toArray, List.set_cons_zero, List.set_cons_succ]
          refine wpAnyH_done (by kernel_rfl) ?_ _
          clear hS
          go_wp2_with fail
          exact bodyPost_ret (v := .tuple #[.agg #[.int .i64 now, .slice Ad n cd], .int .i64 0]) (results_cell_row_tmp Try.results10 _ _ _ _ _ _ rfl HP.out.1 Try.underlying24 rfl (by kernel_rfl)) rfl ⟨_, _, _, rfl, own_len od, own_down HO.out (by omega), HP.out.2⟩
        · skip
          go_simp
          have KV := Blk.new V 44 #[.int .i64 id, .int .i64 tm]
          obtain ⟨vb, hvb⟩ : ∃ vb, V.heap.size = vb := ⟨_, rfl⟩
          rw [hvb] at KV
          skip
          skip
          replace K0 := K0.alloc (.cells #[.int .i64 id, .int .i64 tm] 44)
          replace K1 := K1.alloc (.cells #[.int .i64 id, .int .i64 tm] 44)
          replace K2 := K2.alloc (.cells #[.int .i64 id, .int .i64 tm] 44)
          replace GB := GB.alloc GB.size (.cells #[.int .i64 id, .int .i64 tm] 44)
          replace hz : w.heap.size + 1 + 1 + 1 ≤ (V.alloc (.cells #[.int .i64 id, .int .i64 tm] 44)).heap.size := Nat.le_trans hz (by simp)
          rw [hvb]
          clear hvb
          generalize V.alloc (.cells #[.int .i64 id, .int .i64 tm] 44) = X5 at KV K0 K1 K2 GB hz  ⊢
          refine hK.out _ _ ⟨GB, K0, K2⟩ (fun hS => ?_)
          clear hK K
          refine wpAnyH_ready (rs := [4]) (by kernel_rfl) (by simp) ?_
          refine AllReadyH.cons rfl (fun K hK => ?_) AllReadyH.nil
          go_simp
          refine (HCl.out _ GB).mono ?_
          rintro e6 w6 ⟨Ac, cc, rfl, oc, h9⟩
          have HNV : ∀ j, (Value.slice Ac n cc).ownBlock = some j → vb ≠ j := fun j hj e => by have := (oc.lt j hj).1; have := KV.lt; omega
          replace KV := KV.below h9 KV.lt
          replace oc := own_down oc hz
          replace hz := Nat.le_trans hz h9.size
          replace K0 := K0.below h9 K0.lt
          replace K1 := K1.below h9 K1.lt
          replace K2 := K2.below h9 K2.lt
          replace GB := GB.trans (h9.mono GB.size)
          clear h9
          refine hK.out _ _ ⟨GB, K0, K2⟩ (fun hS => ?_)
          clear hK K
          refine wpAnyH_ready (rs := [9]) (by kernel_rfl) (by simp) ?_
          refine AllReadyH.cons rfl (fun K hK => ?_) AllReadyH.nil
          go_simp
          refine (HRe.out _ _ _ vb oc hz KV HNV).mono ?_
          rintro e7 w7 ⟨⟨Ad, cd, rfl, od, -⟩, gd⟩
          replace K0 := K0.own oc gd (by omega)
          replace K1 := K1.own oc gd (by omega)
          replace K2 := K2.own oc gd (by omega)
          replace GB := GB.grown gd GB.size (fun g hg => by have := (oc.lt g hg).1; omega)
          clear gd oc KV HNV
          refine hK.out _ _ ⟨GB, K0, K2⟩ (fun hS => ?_)
          clear hK K
          refine wpAnyH_take (i := 10) (v := .agg #[.int .i64 now, .slice Ad n cd]) rfl (by kernel_rfl) (by kernel_rfl) (by kernel_rfl) (fun _ _ _ h => h) (Or.inl ⟨by kernel_rfl, fun u hSw => (by go_simp)⟩) hS ?_
          change wpAnyH _ _ _ _ _ _ _ (Act.put _ (some 48) _) _
          simp only [Act.put]
          try simp only [List.setIfInBounds_toArray, List.set_cons_zero, List.set_cons_succ]
          refine wpAnyH_ready (rs := [11]) (by kernel_rfl) (by simp) ?_
          refine AllReadyH.cons rfl (fun K hK => ?_) AllReadyH.nil
          have d0 := K1.cell 0
          have d1 := K1.cell 1
          have f0 := K1.frozen 0
          have f1 := K1.frozen 1
          have HP := Lib.hid (put2 (x := .int .i64 now) (y := .slice Ad n cd) K1 GB (by omega))
          have K0f := (K0.far (p := ⟨w.heap.size + 1, 0, none⟩) (by simp) (.int .i64 now)).far (p := ⟨w.heap.size + 1, 1, none⟩) (by simp) (.slice Ad n cd)
          have K2f := (K2.far (p := ⟨w.heap.size + 1, 0, none⟩) (by simp) (.int .i64 now)).far (p := ⟨w.heap.size + 1, 1, none⟩) (by simp) (.slice Ad n cd)
          have HO := Lib.hid (own_set (own_set od (g := w.heap.size + 1) (by omega) 0 (.int .i64 now)) (g := w.heap.size + 1) (by omega) 1 (.slice Ad n cd))
          go_simp
          refine hK.out _ _ ⟨HP.out.2, K0f, K2f⟩ (fun hS => ?_)
          clear hK K d0 d1 f0 f1 K1
          refine wpAnyH_take (i := 12) (v := .int .i64 0) rfl (by kernel_rfl) (by kernel_rfl) (by kernel_rfl) (fun _ _ _ h => h) (Or.inl ⟨by kernel_rfl, fun u hSw => (by go_simp)⟩) hS ?_
          change wpAnyH _ _ _ _ _ _ _ (Act.put _ (some 7) _) _
          simp only [Act.put]
          try simp only [List.setIfInBounds_toArray, List.set_cons_zero, List.set_cons_succ]
          refine wpAnyH_done (by kernel_rfl) ?_ _
          clear hS
          go_wp2_with fail
          exact bodyPost_ret (v := .tuple #[.agg #[.int .i64 now, .slice Ad n cd], .int .i64 0]) (results_cell_row_tmp Try.results10 _ _ _ _ _ _ rfl HP.out.1 Try.underlying24 rfl (by kernel_rfl)) rfl ⟨_, _, _, rfl, own_len od, own_down HO.out (by omega), HP.out.2⟩
      | false =>
        have HV : Hid (setV now ts id tm = ((now, ts.take i ++ (id, tm) :: ts.drop i), 0)) := Lib.hid (by unfold setV setL; rw [if_pos hr, if_pos hb, hm, hi]; simp)
        have hlt : i ≤ n := by have := low_le (·.1) ts id; rw [hi, hG.len] at this; exact this
        have HRe := Lib.hid (fun (u : World) (A' : Option Addr) (c' : Nat) (vb : Nat) (h : u.ownsRow (w.heap.size + 1 + 1 + 1) 44 2 (.slice A' n c') n (flat tv ts)) (hb : w.heap.size + 1 + 1 + 1 ≤ u.heap.size) (hV : Blk u vb 44 #[.int .i64 id, .int .i64 tm]) (hne : ∀ k, (Value.slice A' n c').ownBlock = some k → vb ≠ k) => trepins_any (w.heap.size + 1 + 1 + 1) n c' i A' ts vb (id, tm) u h hb hV hne hG.len hlt hG.small)
        have HCl := Lib.hid (fun (u : World) (h : Below w.heap.size w u) => tclone_any A n c ts u (hG.below h).row hG.small)
        rw [hm, hi] at HF
        rw [HV.out]
        clear hr hb hm hi hG hlt
        go_enter Try.func10, Try.ntmps10
        go_wp2_with fail
        refine (HC.out _ GB).mono ?_
        rintro e w1 ⟨rfl, h9⟩
        replace K0 := K0.below h9 K0.lt
        replace K1 := K1.below h9 K1.lt
        replace K2 := K2.below h9 K2.lt
        replace hz := Nat.le_trans hz h9.size
        replace GB := GB.trans (h9.mono GB.size)
        clear h9 z0 z1 y0 y1
        have z0 := K0.cell 0
        have z1 := K0.cell 1
        have y0 := K2.cell 0
        have y1 := K2.cell 1
        go_wp2_with fail
        refine (HMa.out _).mono ?_
        rintro e w2 ⟨rfl, h9⟩
        replace K0 := K0.below h9 K0.lt
        replace K1 := K1.below h9 K1.lt
        replace K2 := K2.below h9 K2.lt
        replace hz := Nat.le_trans hz h9.size
        replace GB := GB.trans (h9.mono GB.size)
        clear h9 z0 z1 y0 y1
        have z0 := K0.cell 0
        have z1 := K0.cell 1
        have y0 := K2.cell 0
        have y1 := K2.cell 1
        go_wp2_with fail
        refine (HF.out _ GB).mono ?_
        rintro e w3 ⟨rfl, h9⟩
        replace K0 := K0.below h9 K0.lt
        replace K1 := K1.below h9 K1.lt
        replace K2 := K2.below h9 K2.lt
        replace hz := Nat.le_trans hz h9.size
        replace GB := GB.trans (h9.mono GB.size)
        clear h9 z0 z1 y0 y1
        go_upto_region 10 with fail
        replace K0 : Blk w3.drew _ _ _ := K0
        replace K1 : Blk w3.drew _ _ _ := K1
        replace K2 : Blk w3.drew _ _ _ := K2
        replace hz : w.heap.size + 1 + 1 + 1 ≤ w3.drew.heap.size := hz
        replace GB := GB.drew
        refine wp_region_held_drew (S := fun u => Below w.heap.size w u ∧ Blk u w.heap.size 24 #[.int .i64 now, .slice A n c] ∧ Blk u (w.heap.size + 1 + 1) 44 #[.int .i64 id, .int .i64 tm]) (by kernel_rfl) ⟨GB, K0, K2⟩ (fun hS => ?_)
        generalize w3.drew = V at GB K0 K1 K2 hz hS ⊢
        refine wpAnyH_take (i := 0) (v := .pointer (some ⟨w.heap.size, 0, none⟩)) rfl (by kernel_rfl) (by kernel_rfl) (by kernel_rfl) (fun _ _ _ h => h) (Or.inl ⟨by kernel_rfl, fun u hSw => (by go_simp)⟩) hS ?_
        change wpAnyH _ _ _ _ _ _ _ (Act.put _ (some 38) _) _
        simp only [Act.put]
        try simp only [List.setIfInBounds_toArray, List.set_cons_zero, List.set_cons_succ]
        refine wpAnyH_take (i := 1) (v := .int .i64 now) rfl (by kernel_rfl) (by kernel_rfl) (by kernel_rfl) (fun _ _ _ h => h) (Or.inl ⟨by kernel_rfl, fun u hSw => (by have q0 := hSw.2.1.cell 0; go_simp)⟩) hS ?_
        change wpAnyH _ _ _ _ _ _ _ (Act.put _ (some 39) _) _
        simp only [Act.put]
        try simp only [List.setIfInBounds_toArray, List.set_cons_zero, List.set_cons_succ]
        refine wpAnyH_take (i := 2) (v := .pointer (some ⟨w.heap.size, 1, none⟩)) rfl (by kernel_rfl) (by kernel_rfl) (by kernel_rfl) (fun _ _ _ h => h) (Or.inl ⟨by kernel_rfl, fun u hSw => (by go_simp)⟩) hS ?_
        change wpAnyH _ _ _ _ _ _ _ (Act.put _ (some 40) _) _
        simp only [Act.put]
        try simp only [List.setIfInBounds_toArray, List.set_cons_zero, List.set_cons_succ]
        refine wpAnyH_take (i := 3) (v := .slice A n c) rfl (by kernel_rfl) (by kernel_rfl) (by kernel_rfl) (fun _ _ _ h => h) (Or.inl ⟨by kernel_rfl, fun u hSw => (by have q0 := hSw.2.1.cell 1; go_simp)⟩) hS ?_
        change wpAnyH _ _ _ _ _ _ _ (Act.put _ (some 41) _) _
        simp only [Act.put]
        try simp only [List.setIfInBounds_toArray, List.set_cons_zero, List.set_cons_succ]
        refine wpAnyH_take (i := 5) (v := .int .i64 (i : Int)) rfl (by kernel_rfl) (by kernel_rfl) (by kernel_rfl) (fun _ _ _ h => h) (Or.inl ⟨by kernel_rfl, fun u hSw => (by go_simp)⟩) hS ?_
        change wpAnyH _ _ _ _ _ _ _ (Act.put _ (some 43) _) _
        simp only [Act.put]
        try simp only [List.setIfInBounds_toArray, List.set_cons_zero, List.set_cons_succ]
        refine wpAnyH_take (i := 6) (v := .int .i64 (i : Int)) rfl (by kernel_rfl) (by kernel_rfl) (by kernel_rfl) (fun _ _ _ h => h) (Or.inl ⟨by kernel_rfl, fun u hSw => (by go_simp)⟩) hS ?_
        change wpAnyH _ _ _ _ _ _ _ (Act.put _ (some 44) _) _
        simp only [Act.put]
        try simp only [List.setIfInBounds_toArray, List.set_cons_zero, List.set_cons_succ]
        refine wpAnyH_take (i := 7) (v := .agg #[.int .i64 id, .int .i64 tm]) rfl (by kernel_rfl) (by kernel_rfl) (by kernel_rfl) (fun _ _ _ h => h) (Or.inl ⟨by kernel_rfl, fun u hSw => (by have q0 := hSw.2.2.cell 0; have q1 := hSw.2.2.cell 1; go_simp)⟩) hS ?_
        change wpAnyH _ _ _ _ _ _ _ (Act.put _ (some 45) _) _
        simp only [Act.put]
        try simp only [List.setIfInBounds_toArray, List.set_cons_zero, List.set_cons_succ]
        refine wpAnyH_ready (rs := [4, 8]) (by kernel_rfl) (by simp) ?_
        refine AllReadyH.cons rfl (fun K hK => ?_) (AllReadyH.cons rfl (fun K hK => ?_) (AllReadyH.nil))
        · skip
          go_simp
          refine (HCl.out _ GB).mono ?_
          rintro e1 w1 ⟨Ac, cc, rfl, oc, h9⟩
          replace oc := own_down oc hz
          replace hz := Nat.le_trans hz h9.size
          replace K0 := K0.below h9 K0.lt
          replace K1 := K1.below h9 K1.lt
          replace K2 := K2.below h9 K2.lt
          replace GB := GB.trans (h9.mono GB.size)
          clear h9
          refine hK.out _ _ ⟨GB, K0, K2⟩ (fun hS => ?_)
          clear hK K
          refine wpAnyH_ready (rs := [8]) (by kernel_rfl) (by simp) ?_
          refine AllReadyH.cons rfl (fun K hK => ?_) AllReadyH.nil
          go_simp
          have KV := Blk.new w1 44 #[.int .i64 id, .int .i64 tm]
          obtain ⟨vb, hvb⟩ : ∃ vb, w1.heap.size = vb := ⟨_, rfl⟩
          rw [hvb] at KV
          have HNV : ∀ j, (Value.slice Ac n cc).ownBlock = some j → vb ≠ j := fun j hj e => by have := (oc.lt j hj).2; omega
          replace oc := oc.alloc (.cells #[.int .i64 id, .int .i64 tm] 44)
          replace K0 := K0.alloc (.cells #[.int .i64 id, .int .i64 tm] 44)
          replace K1 := K1.alloc (.cells #[.int .i64 id, .int .i64 tm] 44)
          replace K2 := K2.alloc (.cells #[.int .i64 id, .int .i64 tm] 44)
          replace GB := GB.alloc GB.size (.cells #[.int .i64 id, .int .i64 tm] 44)
          replace hz : w.heap.size + 1 + 1 + 1 ≤ (w1.alloc (.cells #[.int .i64 id, .int .i64 tm] 44)).heap.size := Nat.le_trans hz (by simp)
          rw [hvb]
          clear hvb
          generalize w1.alloc (.cells #[.int .i64 id, .int .i64 tm] 44) = X2 at KV K0 K1 K2 GB hz oc ⊢
          refine hK.out _ _ ⟨GB, K0, K2⟩ (fun hS => ?_)
          clear hK K
          refine wpAnyH_ready (rs := [9]) (by kernel_rfl) (by simp) ?_
          refine AllReadyH.cons rfl (fun K hK => ?_) AllReadyH.nil
          go_simp
          refine (HRe.out _ _ _ vb oc hz KV HNV).mono ?_
          rintro e3 w3 ⟨⟨Ad, cd, rfl, od, -⟩, gd⟩
          replace K0 := K0.own oc gd (by omega)
          replace K1 := K1.own oc gd (by omega)
          replace K2 := K2.own oc gd (by omega)
          replace GB := GB.grown gd GB.size (fun g hg => by have := (oc.lt g hg).1; omega)
          clear gd oc KV HNV
          refine hK.out _ _ ⟨GB, K0, K2⟩ (fun hS => ?_)
          clear hK K
          refine wpAnyH_take (i := 10) (v := .agg #[.int .i64 now, .slice Ad (n + 1) cd]) rfl (by kernel_rfl) (by kernel_rfl) (by kernel_rfl) (fun _ _ _ h => h) (Or.inl ⟨by kernel_rfl, fun u hSw => (by go_simp)⟩) hS ?_
          change wpAnyH _ _ _ _ _ _ _ (Act.put _ (some 48) _) _
          simp only [Act.put]
          try simp only [List.setIfInBounds_toArray, List.set_cons_zero, List.set_cons_succ]
          refine wpAnyH_ready (rs := [11]) (by kernel_rfl) (by simp) ?_
          refine AllReadyH.cons rfl (fun K hK => ?_) AllReadyH.nil
          have d0 := K1.cell 0
          have d1 := K1.cell 1
          have f0 := K1.frozen 0
          have f1 := K1.frozen 1
          have HP := Lib.hid (put2 (x := .int .i64 now) (y := .slice Ad (n + 1) cd) K1 GB (by omega))
          have K0f := (K0.far (p := ⟨w.heap.size + 1, 0, none⟩) (by simp) (.int .i64 now)).far (p := ⟨w.heap.size + 1, 1, none⟩) (by simp) (.slice Ad (n + 1) cd)
          have K2f := (K2.far (p := ⟨w.heap.size + 1, 0, none⟩) (by simp) (.int .i64 now)).far (p := ⟨w.heap.size + 1, 1, none⟩) (by simp) (.slice Ad (n + 1) cd)
          have HO := Lib.hid (own_set (own_set od (g := w.heap.size + 1) (by omega) 0 (.int .i64 now)) (g := w.heap.size + 1) (by omega) 1 (.slice Ad (n + 1) cd))
          go_simp
          refine hK.out _ _ ⟨HP.out.2, K0f, K2f⟩ (fun hS => ?_)
          clear hK K d0 d1 f0 f1 K1
          refine wpAnyH_take (i := 12) (v := .int .i64 0) rfl (by kernel_rfl) (by kernel_rfl) (by kernel_rfl) (fun _ _ _ h => h) (Or.inl ⟨by kernel_rfl, fun u hSw => (by go_simp)⟩) hS ?_
          change wpAnyH _ _ _ _ _ _ _ (Act.put _ (some 7) _) _
          simp only [Act.put]
          try simp only [List.setIfInBounds_toArray, List.set_cons_zero, List.set_cons_succ]
          refine wpAnyH_done (by kernel_rfl) ?_ _
          clear hS
          go_wp2_with fail
          exact bodyPost_ret (v := .tuple #[.agg #[.int .i64 now, .slice Ad (n + 1) cd], .int .i64 0]) (results_cell_row_tmp Try.results10 _ _ _ _ _ _ rfl HP.out.1 Try.underlying24 rfl (by kernel_rfl)) rfl ⟨_, _, _, rfl, own_len od, own_down HO.out (by omega), HP.out.2⟩
        · skip
          go_simp
          have KV := Blk.new V 44 #[.int .i64 id, .int .i64 tm]
          obtain ⟨vb, hvb⟩ : ∃ vb, V.heap.size = vb := ⟨_, rfl⟩
          rw [hvb] at KV
          skip
          skip
          replace K0 := K0.alloc (.cells #[.int .i64 id, .int .i64 tm] 44)
          replace K1 := K1.alloc (.cells #[.int .i64 id, .int .i64 tm] 44)
          replace K2 := K2.alloc (.cells #[.int .i64 id, .int .i64 tm] 44)
          replace GB := GB.alloc GB.size (.cells #[.int .i64 id, .int .i64 tm] 44)
          replace hz : w.heap.size + 1 + 1 + 1 ≤ (V.alloc (.cells #[.int .i64 id, .int .i64 tm] 44)).heap.size := Nat.le_trans hz (by simp)
          rw [hvb]
          clear hvb
          generalize V.alloc (.cells #[.int .i64 id, .int .i64 tm] 44) = X5 at KV K0 K1 K2 GB hz  ⊢
          refine hK.out _ _ ⟨GB, K0, K2⟩ (fun hS => ?_)
          clear hK K
          refine wpAnyH_ready (rs := [4]) (by kernel_rfl) (by simp) ?_
          refine AllReadyH.cons rfl (fun K hK => ?_) AllReadyH.nil
          go_simp
          refine (HCl.out _ GB).mono ?_
          rintro e6 w6 ⟨Ac, cc, rfl, oc, h9⟩
          have HNV : ∀ j, (Value.slice Ac n cc).ownBlock = some j → vb ≠ j := fun j hj e => by have := (oc.lt j hj).1; have := KV.lt; omega
          replace KV := KV.below h9 KV.lt
          replace oc := own_down oc hz
          replace hz := Nat.le_trans hz h9.size
          replace K0 := K0.below h9 K0.lt
          replace K1 := K1.below h9 K1.lt
          replace K2 := K2.below h9 K2.lt
          replace GB := GB.trans (h9.mono GB.size)
          clear h9
          refine hK.out _ _ ⟨GB, K0, K2⟩ (fun hS => ?_)
          clear hK K
          refine wpAnyH_ready (rs := [9]) (by kernel_rfl) (by simp) ?_
          refine AllReadyH.cons rfl (fun K hK => ?_) AllReadyH.nil
          go_simp
          refine (HRe.out _ _ _ vb oc hz KV HNV).mono ?_
          rintro e7 w7 ⟨⟨Ad, cd, rfl, od, -⟩, gd⟩
          replace K0 := K0.own oc gd (by omega)
          replace K1 := K1.own oc gd (by omega)
          replace K2 := K2.own oc gd (by omega)
          replace GB := GB.grown gd GB.size (fun g hg => by have := (oc.lt g hg).1; omega)
          clear gd oc KV HNV
          refine hK.out _ _ ⟨GB, K0, K2⟩ (fun hS => ?_)
          clear hK K
          refine wpAnyH_take (i := 10) (v := .agg #[.int .i64 now, .slice Ad (n + 1) cd]) rfl (by kernel_rfl) (by kernel_rfl) (by kernel_rfl) (fun _ _ _ h => h) (Or.inl ⟨by kernel_rfl, fun u hSw => (by go_simp)⟩) hS ?_
          change wpAnyH _ _ _ _ _ _ _ (Act.put _ (some 48) _) _
          simp only [Act.put]
          try simp only [List.setIfInBounds_toArray, List.set_cons_zero, List.set_cons_succ]
          refine wpAnyH_ready (rs := [11]) (by kernel_rfl) (by simp) ?_
          refine AllReadyH.cons rfl (fun K hK => ?_) AllReadyH.nil
          have d0 := K1.cell 0
          have d1 := K1.cell 1
          have f0 := K1.frozen 0
          have f1 := K1.frozen 1
          have HP := Lib.hid (put2 (x := .int .i64 now) (y := .slice Ad (n + 1) cd) K1 GB (by omega))
          have K0f := (K0.far (p := ⟨w.heap.size + 1, 0, none⟩) (by simp) (.int .i64 now)).far (p := ⟨w.heap.size + 1, 1, none⟩) (by simp) (.slice Ad (n + 1) cd)
          have K2f := (K2.far (p := ⟨w.heap.size + 1, 0, none⟩) (by simp) (.int .i64 now)).far (p := ⟨w.heap.size + 1, 1, none⟩) (by simp) (.slice Ad (n + 1) cd)
          have HO := Lib.hid (own_set (own_set od (g := w.heap.size + 1) (by omega) 0 (.int .i64 now)) (g := w.heap.size + 1) (by omega) 1 (.slice Ad (n + 1) cd))
          go_simp
          refine hK.out _ _ ⟨HP.out.2, K0f, K2f⟩ (fun hS => ?_)
          clear hK K d0 d1 f0 f1 K1
          refine wpAnyH_take (i := 12) (v := .int .i64 0) rfl (by kernel_rfl) (by kernel_rfl) (by kernel_rfl) (fun _ _ _ h => h) (Or.inl ⟨by kernel_rfl, fun u hSw => (by go_simp)⟩) hS ?_
          change wpAnyH _ _ _ _ _ _ _ (Act.put _ (some 7) _) _
          simp only [Act.put]
          try simp only [List.setIfInBounds_toArray, List.set_cons_zero, List.set_cons_succ]
          refine wpAnyH_done (by kernel_rfl) ?_ _
          clear hS
          go_wp2_with fail
          exact bodyPost_ret (v := .tuple #[.agg #[.int .i64 now, .slice Ad (n + 1) cd], .int .i64 0]) (results_cell_row_tmp Try.results10 _ _ _ _ _ _ rfl HP.out.1 Try.underlying24 rfl (by kernel_rfl)) rfl ⟨_, _, _, rfl, own_len od, own_down HO.out (by omega), HP.out.2⟩

end Go.Proofs.Ytbhcpkmofnfjgaa
