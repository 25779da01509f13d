/-
  The landed wheel: Pass, Next. No statement is proved here.
-/
import Derived.Test.YtbhcpkmofnfjgaaWg
namespace Go.Proofs.Ytbhcpkmofnfjgaa
open Go.RowKit

theorem results_cell_row_tmp2 {P : Program} {fn : Func} {p q r : Tmp} {ty : TypeId} (h : fn.results = #[.cell p ty, .tmp q, .tmp r]) (tmps : Array Value) (w : World) (g : Nat) (t : TypeId) (cs : Array Value) (d : TypeDesc)
    (hp : tmps.getD p undef = .pointer (some ⟨g, 0, none⟩)) (hg : w.heap[g]? = some (.cells cs t (0, 0)))
    (hu : P.underlying ty = some d) (hd : (match d with | .struct _ | .array _ _ => true | _ => false) = true) (hi : (P.info? ty).map (·.size) = some cs.size) :
    (results fn tmps).run P w = .ok (.tuple #[.agg cs, tmps.getD q undef, tmps.getD r undef]) w := by
  have hp' : tmps[p]?.getD undef = .pointer (some ⟨g, 0, none⟩) := by simpa using hp
  simp [results, h, hp', asAddr, run_loadVar_row w g t ty cs (0, 0) d hg hu hd hi]
/-- what passing answers: the wheel, what fires, an error -/
def passV (now : Int) (ts : List Tm) (tm : Int) : ((Int × List Tm) × List Tm) × Int :=
  if chkW now ts = true then (if now ≤ tm ∧ tm ≤ 1125899906842624 then (((tm, ts.filter fun t => !decide (t.2 ≤ tm)), laidL (ts.filter fun t => decide (t.2 ≤ tm))), 0) else (((0, []), []), 2)) else (((0, []), []), 250)
def Passed (r : ((Int × List Tm) × List Tm) × Int) (w : World) (e : Ending) (w' : World) : Prop :=
  ∃ A n c B m d, e = .returned (.tuple #[.agg #[.int .i64 r.1.1.1, .slice A n c], .slice B m d, .int .i64 r.2]) ∧ r.1.1.2.length = n ∧ r.1.2.length = m ∧ w'.ownsRow w.heap.size 44 2 (.slice A n c) n (flat tv r.1.1.2) ∧
    w'.ownsRow w.heap.size 44 2 (.slice B m d) m (flat tv r.1.2) ∧ Below w.heap.size w w'
theorem Passed.none_ {w w' : World} {E : Int} (hb : Below w.heap.size w w') : Passed (((0, []), []), E) w (.returned (.tuple #[.agg #[.int .i64 0, .slice none 0 0], .slice none 0 0, .int .i64 E])) w' :=
  ⟨none, 0, 0, none, 0, 0, rfl, rfl, rfl, World.ownsRow_nil _ _ _ _, World.ownsRow_nil _ _ _ _, hb⟩
theorem Rt.times {now : Int} {ts : List Tm} (h0 : 0 ≤ now) (h : Rt now ts) : ∀ t ∈ ts, 0 ≤ t.2 ∧ t.2 ≤ 1125899906842624 := fun t ht => by
  have := tmB_iff.1 (h.each t ht)
  omega

set_option maxRecDepth 100000 in
set_option maxHeartbeats 8000000 in
theorem pass_any (now : Int) (A : Option Addr) (n c : Nat) (ts : List Tm) (tm : Int) (w : World) (hG : WR w A n ts) :
    Calls Try.prog 17 #[.agg #[.int .i64 now, .slice A n c], .int .i64 tm] w (Passed (passV now ts tm) w) := by
  obtain ⟨K0, K1, K2, GB⟩ := blks3 w 24 2 24 #[.int .i64 now, .slice A n c] #[.int .i64 tm] #[.int .i64 0, .slice none 0 0]
  have hz : w.heap.size + 1 + 1 + 1 ≤ (((w.alloc (.cells #[.int .i64 now, .slice A n c] 24)).alloc (.cells #[.int .i64 tm] 2)).alloc (.cells #[.int .i64 0, .slice none 0 0] 24)).heap.size := by simp
  have HC := Lib.hid (fun (u : World) (h : Below w.heap.size w u) => check_any now A n c ts u (hG.below h))
  have HG := Lib.hid hG
  have z0 := K0.cell 0
  have z1 := K0.cell 1
  have y0 := K1.cell 0
  cases hr : chkW now ts with
  | false =>
    have HV : Hid (passV now ts tm = (((0, []), []), 250)) := Lib.hid (by unfold passV; rw [hr]; rfl)
    rw [hr, show errW false = 250 from rfl] at HC
    clear hr HG hG
    rw [HV.out]
    go_enter Try.func17, Try.ntmps17
    go_wp2_with fail
    refine (HC.out _ GB).mono ?_
    rintro e w1 ⟨rfl, h9⟩
    replace K0 := K0.below h9 K0.lt
    replace K1 := K1.below h9 K1.lt
    replace K2 := K2.below h9 K2.lt
    replace hz := Nat.le_trans hz h9.size
    replace GB := GB.trans (h9.mono GB.size)
    clear h9 z0 z1 y0
    clear K0 K1
    have d0 := K2.cell 0
    have d1 := K2.cell 1
    have f0 := K2.frozen 0
    have f1 := K2.frozen 1
    have HP := Lib.hid (put2 (x := .int .i64 0) (y := .slice none 0 0) K2 GB (by omega))
    clear K2 GB
    go_wp2_with fail
    exact bodyPost_ret (v := .tuple #[.agg #[.int .i64 0, .slice none 0 0], .slice none 0 0, .int .i64 250]) (results_cell_row_tmp2 Try.results17 _ _ _ _ _ _ rfl HP.out.1 Try.underlying24 rfl (by kernel_rfl)) rfl (Passed.none_ HP.out.2)
  | true =>
    rw [hr, show errW true = 0 from rfl] at HC
    have hc := chkW_iff.1 hr
    by_cases hin : now ≤ tm ∧ tm ≤ 1125899906842624
    · have HV : Hid (passV now ts tm = (((tm, ts.filter fun t => !decide (t.2 ≤ tm)), laidL (ts.filter fun t => decide (t.2 ≤ tm))), 0)) := Lib.hid (by unfold passV; rw [if_pos hr, if_pos hin])
      rw [HV.out]
      have e1 : decide (tm < now) = false := decide_eq_false (by omega)
      have e2 : decide (1125899906842624 < tm) = false := decide_eq_false (by omega)
      have HPa := Lib.hid (fun (u : World) (h : Below w.heap.size w u) (K : Blk u (w.heap.size + 1) 2 #[.int .i64 tm]) => ppart_any (w.heap.size + 1) A n c ts (fun t => decide (t.2 ≤ tm)) u (HG.out.below h) (fun a b v _ hb => passcl_any a b tm (w.heap.size + 1) v (K.below hb K.lt)))
      have HLa := Lib.hid (fun (u : World) {A1 : Option Addr} {n1 c1 b1 : Nat} (h : u.ownsRow b1 44 2 (.slice A1 n1 c1) n1 (flat tv (ts.filter fun t => decide (t.2 ≤ tm)))) => laid_any A1 n1 c1 _ u (WR.of_own h (by have h1 := own_len9 h; have h2 := List.length_filter_le (fun t : Tm => decide (t.2 ≤ tm)) ts; rw [HG.out.len] at h2; have := HG.out.small; omega)) (fun t ht => (hc.2.2.times hc.1) t (List.mem_filter.1 ht).1))
      clear hr hc hG hin HV
      go_enter Try.func17, Try.ntmps17
      go_wp2_with fail
      refine (HC.out _ GB).mono ?_
      rintro e w1 ⟨rfl, h9⟩
      replace K0 := K0.below h9 K0.lt
      replace K1 := K1.below h9 K1.lt
      replace K2 := K2.below h9 K2.lt
      replace hz := Nat.le_trans hz h9.size
      replace GB := GB.trans (h9.mono GB.size)
      clear h9 z0 z1 y0
      have y0 := K1.cell 0
      have z0 := K0.cell 0
      have z1 := K0.cell 1
      go_wp2_with fail
      refine (HPa.out _ GB K1).mono ?_
      rintro e w2 ⟨A1, n1, c1, A2, n2, c2, rfl, hl1, hl2, O1, O2, h9⟩
      replace O1 := own_down O1 hz
      replace O2 := own_down O2 hz
      replace hz := Nat.le_trans hz h9.size
      replace K1 := K1.below h9 K1.lt
      replace K2 := K2.below h9 K2.lt
      replace GB := GB.trans (h9.mono GB.size)
      clear h9 y0 z0 z1 K0 HPa HC
      go_upto_region 6 with fail
      replace K1 : Blk w2.drew _ _ _ := K1
      replace K2 : Blk w2.drew _ _ _ := K2
      replace hz : w.heap.size + 1 + 1 + 1 ≤ w2.drew.heap.size := hz
      replace O1 : w2.drew.ownsRow _ _ _ _ _ _ := O1
      replace O2 : w2.drew.ownsRow _ _ _ _ _ _ := O2
      replace GB := GB.drew
      refine wp_region_held_drew (S := fun u => Below w.heap.size w u ∧ Blk u (w.heap.size + 1) 2 #[.int .i64 tm]) (by kernel_rfl) ⟨GB, K1⟩ (fun hS => ?_)
      generalize w2.drew = V at GB K1 K2 hz O1 O2 hS ⊢
      refine wpAnyH_take (i := 0) (v := .int .i64 tm) rfl (by kernel_rfl) (by kernel_rfl) (by kernel_rfl) (fun _ _ _ h => h) (Or.inl ⟨by kernel_rfl, fun u hSw => (by have q0 := hSw.2.cell 0; go_simp)⟩) hS ?_
      change wpAnyH _ _ _ _ _ _ _ (Act.put _ (some 31) _) _
      simp only [Act.put]
      try simp only [List.setIfInBounds_toArray, List.set_cons_zero, List.set_cons_succ]
      refine wpAnyH_take (i := 1) (v := .slice A2 n2 c2) rfl (by kernel_rfl) (by kernel_rfl) (by kernel_rfl) (fun _ _ _ h => h) (Or.inl ⟨by kernel_rfl, fun u hSw => (by go_simp)⟩) hS ?_
      change wpAnyH _ _ _ _ _ _ _ (Act.put _ (some 32) _) _
      simp only [Act.put]
      try simp only [List.setIfInBounds_toArray, List.set_cons_zero, List.set_cons_succ]
      refine wpAnyH_take (i := 2) (v := .agg #[.int .i64 tm, .slice A2 n2 c2]) rfl (by kernel_rfl) (by kernel_rfl) (by kernel_rfl) (fun _ _ _ h => h) (Or.inl ⟨by kernel_rfl, fun u hSw => (by go_simp)⟩) hS ?_
      change wpAnyH _ _ _ _ _ _ _ (Act.put _ (some 33) _) _
      simp only [Act.put]
      try simp only [List.setIfInBounds_toArray, List.set_cons_zero, List.set_cons_succ]
      refine wpAnyH_take (i := 3) (v := .slice A1 n1 c1) rfl (by kernel_rfl) (by kernel_rfl) (by kernel_rfl) (fun _ _ _ h => h) (Or.inl ⟨by kernel_rfl, fun u hSw => (by go_simp)⟩) hS ?_
      change wpAnyH _ _ _ _ _ _ _ (Act.put _ (some 34) _) _
      simp only [Act.put]
      try simp only [List.setIfInBounds_toArray, List.set_cons_zero, List.set_cons_succ]
      refine wpAnyH_ready (rs := [4]) (by kernel_rfl) (by simp) ?_
      refine AllReadyH.cons rfl (fun K hK => ?_) AllReadyH.nil
      go_simp
      refine (HLa.out _ O1).mono ?_
      rintro e1 w1 ⟨A3, n3, c3, rfl, hl3, O3, h9⟩
      replace O3 := own_down O3 hz
      replace O2 := own_below O2 h9
      replace hz := Nat.le_trans hz h9.size
      replace K1 := K1.below h9 K1.lt
      replace K2 := K2.below h9 K2.lt
      replace GB := GB.trans (h9.mono GB.size)
      clear h9 O1
      refine hK.out _ _ ⟨GB, K1⟩ (fun hS => ?_)
      clear hK K
      refine wpAnyH_ready (rs := [5]) (by kernel_rfl) (by simp) ?_
      refine AllReadyH.cons rfl (fun K hK => ?_) AllReadyH.nil
      have d0 := K2.cell 0
      have d1 := K2.cell 1
      have f0 := K2.frozen 0
      have f1 := K2.frozen 1
      have HP := Lib.hid (put2 (x := .int .i64 tm) (y := .slice A2 n2 c2) K2 GB (by omega))
      have K1f := (K1.far (p := ⟨w.heap.size + 1 + 1, 0, none⟩) (by simp) (.int .i64 tm)).far (p := ⟨w.heap.size + 1 + 1, 1, none⟩) (by simp) (.slice A2 n2 c2)
      have HO2 := Lib.hid (own_set (own_set O2 (g := w.heap.size + 1 + 1) (by omega) 0 (.int .i64 tm)) (g := w.heap.size + 1 + 1) (by omega) 1 (.slice A2 n2 c2))
      have HO3 := Lib.hid (own_set (own_set O3 (g := w.heap.size + 1 + 1) (by omega) 0 (.int .i64 tm)) (g := w.heap.size + 1 + 1) (by omega) 1 (.slice A2 n2 c2))
      go_simp
      refine hK.out _ _ ⟨HP.out.2, K1f⟩ (fun hS => ?_)
      clear hK K d0 d1 f0 f1 K2
      refine wpAnyH_take (i := 6) (v := .slice A3 n3 c3) rfl (by kernel_rfl) (by kernel_rfl) (by kernel_rfl) (fun _ _ _ h => h) (Or.inl ⟨by kernel_rfl, fun u hSw => (by go_simp)⟩) hS ?_
      change wpAnyH _ _ _ _ _ _ _ (Act.put _ (some 5) _) _
      simp only [Act.put]
      try simp only [List.setIfInBounds_toArray, List.set_cons_zero, List.set_cons_succ]
      refine wpAnyH_take (i := 7) (v := .int .i64 0) rfl (by kernel_rfl) (by kernel_rfl) (by kernel_rfl) (fun _ _ _ h => h) (Or.inl ⟨by kernel_rfl, fun u hSw => (by go_simp)⟩) hS ?_
      change wpAnyH _ _ _ _ _ _ _ (Act.put _ (some 6) _) _
      simp only [Act.put]
      try simp only [List.setIfInBounds_toArray, List.set_cons_zero, List.set_cons_succ]
      refine wpAnyH_done (by kernel_rfl) ?_ _
      clear hS
      go_wp2_with fail
      exact bodyPost_ret (v := .tuple #[.agg #[.int .i64 tm, .slice A2 n2 c2], .slice A3 n3 c3, .int .i64 0]) (results_cell_row_tmp2 Try.results17 _ _ _ _ _ _ rfl HP.out.1 Try.underlying24 rfl (by kernel_rfl)) rfl ⟨_, _, _, _, _, _, rfl, own_len9 HO2.out, hl3, own_down HO2.out (by omega), own_down HO3.out (by omega), HP.out.2⟩
    · have HV : Hid (passV now ts tm = (((0, []), []), 2)) := Lib.hid (by unfold passV; rw [if_pos hr, if_neg hin])
      rw [HV.out]
      by_cases h1 : tm < now
      · have e1 : decide (tm < now) = true := decide_eq_true h1
        clear hr hc hG hin HG h1
        go_enter Try.func17, Try.ntmps17
        go_wp2_with fail
        refine (HC.out _ GB).mono ?_
        rintro e w1 ⟨rfl, h9⟩
        replace K0 := K0.below h9 K0.lt
        replace K1 := K1.below h9 K1.lt
        replace K2 := K2.below h9 K2.lt
        replace hz := Nat.le_trans hz h9.size
        replace GB := GB.trans (h9.mono GB.size)
        clear h9 z0 z1 y0
        have y0 := K1.cell 0
        have z0 := K0.cell 0
        clear K0 K1
        have d0 := K2.cell 0
        have d1 := K2.cell 1
        have f0 := K2.frozen 0
        have f1 := K2.frozen 1
        have HP := Lib.hid (put2 (x := .int .i64 0) (y := .slice none 0 0) K2 GB (by omega))
        clear K2 GB
        go_wp2_with fail
        exact bodyPost_ret (v := .tuple #[.agg #[.int .i64 0, .slice none 0 0], .slice none 0 0, .int .i64 2]) (results_cell_row_tmp2 Try.results17 _ _ _ _ _ _ rfl HP.out.1 Try.underlying24 rfl (by kernel_rfl)) rfl (Passed.none_ HP.out.2)
      · have e1 : decide (tm < now) = false := decide_eq_false h1
        have e2 : decide (1125899906842624 < tm) = true := decide_eq_true (by omega)
        clear hr hc hG hin HG h1
        go_enter Try.func17, Try.ntmps17
        go_wp2_with fail
        refine (HC.out _ GB).mono ?_
        rintro e w1 ⟨rfl, h9⟩
        replace K0 := K0.below h9 K0.lt
        replace K1 := K1.below h9 K1.lt
        replace K2 := K2.below h9 K2.lt
        replace hz := Nat.le_trans hz h9.size
        replace GB := GB.trans (h9.mono GB.size)
        clear h9 z0 z1 y0
        have y0 := K1.cell 0
        have z0 := K0.cell 0
        clear K0 K1
        have d0 := K2.cell 0
        have d1 := K2.cell 1
        have f0 := K2.frozen 0
        have f1 := K2.frozen 1
        have HP := Lib.hid (put2 (x := .int .i64 0) (y := .slice none 0 0) K2 GB (by omega))
        clear K2 GB
        go_wp2_with fail
        exact bodyPost_ret (v := .tuple #[.agg #[.int .i64 0, .slice none 0 0], .slice none 0 0, .int .i64 2]) (results_cell_row_tmp2 Try.results17 _ _ _ _ _ _ rfl HP.out.1 Try.underlying24 rfl (by kernel_rfl)) rfl (Passed.none_ HP.out.2)

/-- when the first one is due -/
def nextV (now : Int) (ts : List Tm) : Int × Bool := if chkW now ts = true then (match laidL ts with | [] => (0, false) | t :: _ => (t.2, true)) else (0, false)
set_option maxRecDepth 100000 in
set_option maxHeartbeats 4000000 in
theorem next_any (now : Int) (A : Option Addr) (n c : Nat) (ts : List Tm) (w : World) (hG : WR w A n ts) :
    Calls Try.prog 19 #[.agg #[.int .i64 now, .slice A n c]] w (Said (.tuple #[.int .i64 (nextV now ts).1, .bool (nextV now ts).2]) w) := by
  obtain ⟨K0, GB⟩ := box1 w 24 #[.int .i64 now, .slice A n c]
  have HC := Lib.hid (fun (u : World) (h : Below w.heap.size w u) => check_any now A n c ts u (hG.below h))
  have HG := Lib.hid hG
  have z0 := K0.cell 0
  have z1 := K0.cell 1
  cases hr : chkW now ts with
  | false =>
    have HV : Hid (nextV now ts = (0, false)) := Lib.hid (by unfold nextV; rw [hr]; rfl)
    rw [hr, show errW false = 250 from rfl] at HC
    clear hr HG hG
    rw [HV.out]
    go_enter Try.func19, Try.ntmps19
    go_wp2_with fail
    refine (HC.out _ GB).mono ?_
    rintro e w1 ⟨rfl, h9⟩
    replace GB := GB.trans (h9.mono GB.size)
    clear h9 z0 z1 K0
    go_wp2
    go_ret2
    exact ⟨rfl, GB⟩
  | true =>
    rw [hr, show errW true = 0 from rfl] at HC
    have hc := chkW_iff.1 hr
    have HLa := Lib.hid (fun (u : World) (h : Below w.heap.size w u) => laid_any A n c ts u (HG.out.below h) (hc.2.2.times hc.1))
    by_cases hn : n = 0
    · subst hn
      have hl : ts = [] := List.eq_nil_of_length_eq_zero hG.len
      have HV : Hid (nextV now ts = (0, false)) := Lib.hid (by subst hl; unfold nextV; rw [hr]; rfl)
      clear hr HG hG hc hl
      rw [HV.out]
      go_enter Try.func19, Try.ntmps19
      go_wp2_with fail
      refine (HC.out _ GB).mono ?_
      rintro e w1 ⟨rfl, h9⟩
      replace K0 := K0.below h9 K0.lt
      replace GB := GB.trans (h9.mono GB.size)
      clear h9 z0 z1
      have z1 := K0.cell 1
      go_wp2
      go_ret2
      exact ⟨rfl, GB⟩
    · have hlen : (laidL ts).length = n := by rw [laid_len, hG.len]
      have HN := Lib.hid hn
      have e0 : ((n : Int) == 0) = false := by simp; omega
      cases hL : laidL ts with
      | nil => rw [hL] at hlen; simp at hlen; omega
      | cons t l =>
        obtain ⟨a, b⟩ := t
        have HV : Hid (nextV now ts = (b, true)) := Lib.hid (by unfold nextV; rw [if_pos hr, hL])
        rw [hL] at HLa hlen
        clear hr HG hG hc hL
        rw [HV.out]
        go_enter Try.func19, Try.ntmps19
        go_wp2_with fail
        refine (HC.out _ GB).mono ?_
        rintro e w1 ⟨rfl, h9⟩
        replace K0 := K0.below h9 K0.lt
        replace GB := GB.trans (h9.mono GB.size)
        clear h9 z0 z1
        have z1 := K0.cell 1
        go_wp2_with fail
        refine (HLa.out _ GB).mono ?_
        rintro e w2 ⟨A3, n3, c3, rfl, hl3, O3, h9⟩
        obtain rfl : n3 = n := by omega
        obtain ⟨g, cur, rfl, -, -, -, -, -, -⟩ := blk_own O3 (by omega)
        obtain ⟨ad, e1, -, -, c1⟩ := tm_at (Reads.of_own O3) (k := 0) rfl
        injection e1 with e1
        subst e1
        replace c1 : w2.cell? ⟨g, 1, none⟩ = some (.int .i64 b) := c1
        replace GB := GB.trans (h9.mono GB.size)
        clear h9 z1 K0 O3 hl3
        go_wp2
        go_ret2
        exact ⟨rfl, GB⟩

end Go.Proofs.Ytbhcpkmofnfjgaa
