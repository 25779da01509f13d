/-
  The landed wheel: among, At, Cancel, Set. No statement is proved here.
-/
import Derived.Test.YtbhcpkmofnfjgaaWe
import Derived.Test.YtbhcpkmofnfjgaaWd
namespace Go.Proofs.Ytbhcpkmofnfjgaa
open Go.RowKit

/-- the place of a number, or why there is none -/
def amongV (now : Int) (ts : List Tm) (id : Int) : Int × Int := if chkW now ts = true then (if metK (·.1) ts id = true then (((lowK (·.1) ts id : Nat) : Int), 0) else (0, 4)) else (0, 250)
/-- the timer of a number -/
def theTm (now : Int) (ts : List Tm) (id : Int) : Option Tm := if chkW now ts = true ∧ metK (·.1) ts id = true then ts[lowK (·.1) ts id]? else none
theorem met_at {ts : List Tm} {id : Int} (h : metK (·.1) ts id = true) : ∃ b, ts[lowK (·.1) ts id]? = some (id, b) := by
  unfold metK at h
  cases hx : ts[lowK (·.1) ts id]? with
  | none => rw [hx] at h; cases h
  | some t =>
    rw [hx] at h
    have h : t.1 = id := by simpa using h
    exact ⟨t.2, by rw [← h]⟩
theorem among_cases (now : Int) (ts : List Tm) (id : Int) : (∃ e, amongV now ts id = (0, e) ∧ (e == 0) = false ∧ theTm now ts id = none ∧ e = (if chkW now ts = true then 4 else 250)) ∨ ∃ (k : Nat) (b : Int), amongV now ts id = ((k : Int), 0) ∧ ts[k]? = some (id, b) ∧ theTm now ts id = some (id, b) ∧ chkW now ts = true ∧ lowK (·.1) ts id = k ∧ metK (·.1) ts id = true := by
  unfold amongV theTm
  cases hr : chkW now ts with
  | false => exact .inl ⟨250, by simp, rfl, by simp, by simp⟩
  | true =>
    cases hm : metK (·.1) ts id with
    | false => exact .inl ⟨4, by simp, rfl, by simp, by simp⟩
    | true =>
      obtain ⟨b, hb⟩ := met_at hm
      exact .inr ⟨_, b, by simp, hb, by simp [hb], rfl, rfl, rfl⟩

set_option maxRecDepth 100000 in
set_option maxHeartbeats 2000000 in
theorem among_any (now : Int) (A : Option Addr) (n c : Nat) (ts : List Tm) (id : Int) (w : World) (hG : WR w A n ts) :
    Calls Try.prog 32 #[.agg #[.int .i64 now, .slice A n c], .int .i64 id] w (Said (.tuple #[.int .i64 (amongV now ts id).1, .int .i64 (amongV now ts id).2]) w) := by
  obtain ⟨K0, GB⟩ := box1 w 24 #[.int .i64 now, .slice A n c]
  have HC := Lib.hid (fun (u : World) (h : Below w.heap.size w u) => check_any now A n c ts u (hG.below h))
  have HG := Lib.hid hG
  have z0 := K0.cell 0
  have z1 := K0.cell 1
  clear hG
  cases hr : chkW now ts with
  | false =>
    have HV : Hid (amongV now ts id = (0, 250)) := Lib.hid (by unfold amongV; rw [hr]; simp)
    rw [hr, show errW false = 250 from rfl] at HC
    clear hr HG
    go_enter Try.func32, Try.ntmps32
    go_wp2_with fail
    refine (HC.out _ GB).mono ?_
    rintro e w1 ⟨rfl, h9⟩
    replace GB := GB.trans (h9.mono GB.size)
    clear h9 z0 z1 K0
    go_wp2
    go_ret2
    exact ⟨by rw [HV.out]; rfl, GB⟩
  | true =>
    have HS := (chkW_iff.1 hr).2.2.sort
    have HF := Lib.hid (fun (u : World) (h : Below w.heap.size w u) => ifind_any A n c ts id u (HG.out.below h) HS)
    rw [hr, show errW true = 0 from rfl] at HC
    cases hm : metK (·.1) ts id with
    | false =>
      have HV : Hid (amongV now ts id = (0, 4)) := Lib.hid (by unfold amongV; rw [hr, hm]; simp)
      rw [hm] at HF
      clear hr hm HS
      go_enter Try.func32, Try.ntmps32
      go_wp2_with fail
      refine (HC.out _ GB).mono ?_
      rintro e w1 ⟨rfl, h9⟩
      replace GB := GB.trans (h9.mono GB.size)
      replace K0 := K0.below h9 K0.lt
      clear h9 z0 z1
      have z1 := K0.cell 1
      go_wp2_with fail
      refine (HF.out _ GB).mono ?_
      rintro e w2 ⟨rfl, h9⟩
      replace GB := GB.trans (h9.mono GB.size)
      clear h9 z1 K0
      go_wp2
      go_ret2
      exact ⟨by rw [HV.out]; rfl, GB⟩
    | true =>
      have HV : Hid (amongV now ts id = (((lowK (·.1) ts id : Nat) : Int), 0)) := Lib.hid (by unfold amongV; rw [hr, hm]; simp)
      rw [hm] at HF
      clear hr hm HS
      go_enter Try.func32, Try.ntmps32
      go_wp2_with fail
      refine (HC.out _ GB).mono ?_
      rintro e w1 ⟨rfl, h9⟩
      replace GB := GB.trans (h9.mono GB.size)
      replace K0 := K0.below h9 K0.lt
      clear h9 z0 z1
      have z1 := K0.cell 1
      go_wp2_with fail
      refine (HF.out _ GB).mono ?_
      rintro e w2 ⟨rfl, h9⟩
      replace GB := GB.trans (h9.mono GB.size)
      clear h9 z1 K0
      go_wp2
      go_ret2
      exact ⟨by rw [HV.out]; rfl, GB⟩

def atV (now : Int) (ts : List Tm) (id : Int) : Int × Bool := match theTm now ts id with | some t => (t.2, true) | none => (0, false)
set_option maxRecDepth 100000 in
set_option maxHeartbeats 2000000 in
theorem at_any (now : Int) (A : Option Addr) (n c : Nat) (ts : List Tm) (id : Int) (w : World) (hG : WR w A n ts) :
    Calls Try.prog 12 #[.agg #[.int .i64 now, .slice A n c], .int .i64 id] w (Said (.tuple #[.int .i64 (atV now ts id).1, .bool (atV now ts id).2]) w) := by
  obtain ⟨K0, GB⟩ := box1 w 24 #[.int .i64 now, .slice A n c]
  have HA := Lib.hid (fun (u : World) (h : Below w.heap.size w u) => among_any now A n c ts id u (hG.below h))
  have HG := Lib.hid hG
  have z0 := K0.cell 0
  have z1 := K0.cell 1
  rcases among_cases now ts id with ⟨E, h1, h2, h3, h8⟩ | ⟨k, b, h1, h2, h3, h5, h6, h7⟩
  · have HV : Hid (atV now ts id = (0, false)) := Lib.hid (by unfold atV; rw [h3])
    have e0 : (E != 0) = true := by simpa using h2
    rw [h1] at HA
    clear h1 h2 h3 h8 HG hG
    go_enter Try.func12, Try.ntmps12
    go_wp2_with fail
    refine (HA.out _ GB).mono ?_
    rintro e w1 ⟨rfl, h9⟩
    replace GB := GB.trans (h9.mono GB.size)
    clear h9 z0 z1 K0
    go_wp2
    go_ret2
    exact ⟨by rw [HV.out]; rfl, GB⟩
  · have HV : Hid (atV now ts id = (b, true)) := Lib.hid (by unfold atV; rw [h3])
    have hk : k < n := by have := (List.getElem?_eq_some_iff.1 h2).1; rw [hG.len] at this; exact this
    have j0 : (0 : Int) ≤ (k : Int) := by omega
    have j1 : (k : Int) < (n : Int) := by omega
    have HX := Lib.hid h2
    rw [h1] at HA
    clear h1 h2 h3 h5 h6 h7 hG
    go_enter Try.func12, Try.ntmps12
    go_wp2_with fail
    refine (HA.out _ GB).mono ?_
    rintro e w1 ⟨rfl, h9⟩
    replace GB := GB.trans (h9.mono GB.size)
    replace K0 := K0.below h9 K0.lt
    clear h9 z0 z1
    have z1 := K0.cell 1
    obtain ⟨ad, rfl, hb, c0, c1⟩ := tm_at (HG.out.below GB).row HX.out
    go_wp2
    go_ret2
    exact ⟨by rw [HV.out]; rfl, GB⟩

/-- a wheel in memory of its own, and an error -/
def Gave (r : (Int × List Tm) × Int) (w : World) (e : Ending) (w' : World) : Prop :=
  ∃ A n c, e = .returned (.tuple #[.agg #[.int .i64 r.1.1, .slice A n c], .int .i64 r.2]) ∧ r.1.2.length = n ∧ w'.ownsRow w.heap.size 44 2 (.slice A n c) n (flat tv r.1.2) ∧ Below w.heap.size w w'
theorem Gave.none_ {w w' : World} {E : Int} (hb : Below w.heap.size w w') : Gave ((0, []), E) w (.returned (.tuple #[.agg #[.int .i64 0, .slice none 0 0], .int .i64 E])) w' := ⟨none, 0, 0, rfl, rfl, World.ownsRow_nil _ _ _ _, hb⟩
theorem own_len {w : World} {b n : Nat} {v : Value} {ts : List Tm} (h : w.ownsRow b 44 2 v n (flat tv ts)) : ts.length = n := by
  have := h.1
  rw [length_flat tv length_tv] at this
  omega
def cancelV (now : Int) (ts : List Tm) (id : Int) : (Int × List Tm) × Int := if (amongV now ts id).2 = 0 then ((now, ts.eraseIdx (lowK (·.1) ts id)), 0) else ((0, []), (amongV now ts id).2)

set_option maxRecDepth 100000 in
set_option maxHeartbeats 8000000 in
theorem cancel_any (now : Int) (A : Option Addr) (n c : Nat) (ts : List Tm) (id : Int) (w : World) (hG : WR w A n ts) :
    Calls Try.prog 11 #[.agg #[.int .i64 now, .slice A n c], .int .i64 id] w (Gave (cancelV now ts id) w) := by
  obtain ⟨K0, K1, GB⟩ := blks2 w 24 24 #[.int .i64 now, .slice A n c] #[.int .i64 0, .slice none 0 0]
  have hz : w.heap.size + 1 + 1 ≤ ((w.alloc (.cells #[.int .i64 now, .slice A n c] 24)).alloc (.cells #[.int .i64 0, .slice none 0 0] 24)).heap.size := by simp
  have HA := Lib.hid (fun (u : World) (h : Below w.heap.size w u) => among_any now A n c ts id u (hG.below h))
  have z0 := K0.cell 0
  have z1 := K0.cell 1
  rcases among_cases now ts id with ⟨E, h1, h2, h3, h8⟩ | ⟨k, b, h1, h2, h3, h5, h6, h7⟩
  · have HV : Hid (cancelV now ts id = ((0, []), E)) := Lib.hid (by unfold cancelV; rw [h1, if_neg (by simpa using h2)])
    have e0 : (E != 0) = true := by simpa using h2
    rw [h1] at HA
    clear h1 h2 h3 h8 hG
    rw [HV.out]
    go_enter Try.func11, Try.ntmps11
    go_wp2_with fail
    refine (HA.out _ GB).mono ?_
    rintro e w1 ⟨rfl, h9⟩
    replace GB := GB.trans (h9.mono GB.size)
    replace K1 := K1.below h9 K1.lt
    clear h9 z0 z1 K0
    have d0 := K1.cell 0
    have d1 := K1.cell 1
    have f0 := K1.frozen 0
    have f1 := K1.frozen 1
    have HP := Lib.hid (put2 (x := .int .i64 0) (y := .slice none 0 0) K1 GB (by omega))
    clear K1 GB
    go_wp2_with fail
    exact bodyPost_ret (v := .tuple #[.agg #[.int .i64 0, .slice none 0 0], .int .i64 E]) (results_cell_row_tmp Try.results11 _ _ _ _ _ _ rfl HP.out.1 Try.underlying24 rfl (by kernel_rfl)) rfl (Gave.none_ HP.out.2)
  · have HV : Hid (cancelV now ts id = ((now, ts.eraseIdx k), 0)) := Lib.hid (by unfold cancelV; rw [h1, if_pos rfl, h6])
    have hk : k < n := by have := (List.getElem?_eq_some_iff.1 h2).1; rw [hG.len] at this; exact this
    have HCl := Lib.hid (fun (u : World) (h : Below w.heap.size w u) => tclone_any A n c ts u (hG.below h).row hG.small)
    have HDe := Lib.hid (fun (u : World) (A' : Option Addr) (c' : Nat) (h : u.ownsRow (w.heap.size + 1 + 1) 44 2 (.slice A' n c') n (flat tv ts)) => tdelete_any (w.heap.size + 1 + 1) n c' k A' ts u h hG.len hk hG.small)
    have HWr : Hid (IntKind.i64.wrap ((k : Int) + 1) = (k : Int) + 1) := Lib.hid (by have := hG.small; rw [IntKind.wrap_i64]; omega)
    rw [h1] at HA
    clear h1 h2 h3 h5 h6 h7 hG hk
    rw [HV.out]
    go_enter Try.func11, Try.ntmps11
    go_wp2_with fail
    refine (HA.out _ GB).mono ?_
    rintro e w1 ⟨rfl, h9⟩
    replace GB := GB.trans (h9.mono GB.size)
    replace K0 := K0.below h9 K0.lt
    replace K1 := K1.below h9 K1.lt
    replace hz := Nat.le_trans hz h9.size
    clear h9 z0 z1
    go_upto_region 4 with fail
    replace K0 : Blk w1.drew _ _ _ := K0
    replace K1 : Blk w1.drew _ _ _ := K1
    replace hz : w.heap.size + 1 + 1 ≤ w1.drew.heap.size := hz
    replace GB := GB.drew
    refine wp_region_held_drew (S := fun u => Below w.heap.size w u ∧ Blk u w.heap.size 24 #[.int .i64 now, .slice A n c]) (by kernel_rfl) ⟨GB, K0⟩ (fun hS => ?_)
    generalize w1.drew = V at GB K0 K1 hz hS ⊢
    refine wpAnyH_take (i := 0) (v := .pointer (some ⟨w.heap.size, 0, none⟩)) rfl (by kernel_rfl) (by kernel_rfl) (by kernel_rfl) (fun _ _ _ h => h) (Or.inl ⟨by kernel_rfl, fun u hSw => (by go_simp)⟩) hS ?_
    change wpAnyH _ _ _ _ _ _ _ (Act.put _ (some 18) _) _
    simp only [Act.put]
    try simp only [List.setIfInBounds_toArray, List.set_cons_zero, List.set_cons_succ]
    refine wpAnyH_take (i := 1) (v := .int .i64 now) rfl (by kernel_rfl) (by kernel_rfl) (by kernel_rfl) (fun _ _ _ h => h) (Or.inl ⟨by kernel_rfl, fun u hSw => (by have q0 := hSw.2.cell 0; go_simp)⟩) hS ?_
    change wpAnyH _ _ _ _ _ _ _ (Act.put _ (some 19) _) _
    simp only [Act.put]
    try simp only [List.setIfInBounds_toArray, List.set_cons_zero, List.set_cons_succ]
    refine wpAnyH_take (i := 2) (v := .pointer (some ⟨w.heap.size, 1, none⟩)) rfl (by kernel_rfl) (by kernel_rfl) (by kernel_rfl) (fun _ _ _ h => h) (Or.inl ⟨by kernel_rfl, fun u hSw => (by go_simp)⟩) hS ?_
    change wpAnyH _ _ _ _ _ _ _ (Act.put _ (some 20) _) _
    simp only [Act.put]
    try simp only [List.setIfInBounds_toArray, List.set_cons_zero, List.set_cons_succ]
    refine wpAnyH_take (i := 3) (v := .slice A n c) rfl (by kernel_rfl) (by kernel_rfl) (by kernel_rfl) (fun _ _ _ h => h) (Or.inl ⟨by kernel_rfl, fun u hSw => (by have q0 := hSw.2.cell 1; go_simp)⟩) hS ?_
    change wpAnyH _ _ _ _ _ _ _ (Act.put _ (some 21) _) _
    simp only [Act.put]
    try simp only [List.setIfInBounds_toArray, List.set_cons_zero, List.set_cons_succ]
    refine wpAnyH_take (i := 5) (v := .int .i64 (k : Int)) rfl (by kernel_rfl) (by kernel_rfl) (by kernel_rfl) (fun _ _ _ h => h) (Or.inl ⟨by kernel_rfl, fun u hSw => (by go_simp)⟩) hS ?_
    change wpAnyH _ _ _ _ _ _ _ (Act.put _ (some 23) _) _
    simp only [Act.put]
    try simp only [List.setIfInBounds_toArray, List.set_cons_zero, List.set_cons_succ]
    refine wpAnyH_take (i := 6) (v := .int .i64 (k : Int)) rfl (by kernel_rfl) (by kernel_rfl) (by kernel_rfl) (fun _ _ _ h => h) (Or.inl ⟨by kernel_rfl, fun u hSw => (by go_simp)⟩) hS ?_
    change wpAnyH _ _ _ _ _ _ _ (Act.put _ (some 24) _) _
    simp only [Act.put]
    try simp only [List.setIfInBounds_toArray, List.set_cons_zero, List.set_cons_succ]
    refine wpAnyH_take (i := 7) (v := .int .i64 ((k : Int) + 1)) rfl (by kernel_rfl) (by kernel_rfl) (by kernel_rfl) (fun _ _ _ h => h) (Or.inl ⟨by kernel_rfl, fun u hSw => (by go_simp; exact HWr.out)⟩) hS ?_
    change wpAnyH _ _ _ _ _ _ _ (Act.put _ (some 25) _) _
    simp only [Act.put]
    try simp only [List.setIfInBounds_toArray, List.set_cons_zero, List.set_cons_succ]
    refine wpAnyH_ready (rs := [4]) (by kernel_rfl) (by simp) ?_
    refine AllReadyH.cons rfl (fun K hK => ?_) AllReadyH.nil
    go_simp
    refine (HCl.out _ GB).mono ?_
    rintro e1 w1 ⟨Ac, cc, rfl, oc, h9⟩
    replace oc := own_down oc hz
    replace hz := Nat.le_trans hz h9.size
    replace K0 := K0.below h9 K0.lt
    replace K1 := K1.below h9 K1.lt
    replace GB := GB.trans (h9.mono GB.size)
    clear h9
    refine hK.out _ _ ⟨GB, K0⟩ (fun hS => ?_)
    clear hK K
    refine wpAnyH_ready (rs := [8]) (by kernel_rfl) (by simp) ?_
    refine AllReadyH.cons rfl (fun K hK => ?_) AllReadyH.nil
    go_simp
    refine (HDe.out _ _ _ oc).mono ?_
    rintro e2 w2 ⟨⟨Ad, cd, rfl, od, -⟩, gd⟩
    replace K0 := K0.own oc gd (by omega)
    replace K1 := K1.own oc gd (by omega)
    replace GB := GB.grown gd GB.size (fun g hg => by have := (oc.lt g hg).1; omega)
    clear gd oc
    refine hK.out _ _ ⟨GB, K0⟩ (fun hS => ?_)
    clear hK K
    refine wpAnyH_take (i := 9) (v := .agg #[.int .i64 now, .slice Ad (n - 1) cd]) rfl (by kernel_rfl) (by kernel_rfl) (by kernel_rfl) (fun _ _ _ h => h) (Or.inl ⟨by kernel_rfl, fun u hSw => (by go_simp)⟩) hS ?_
    change wpAnyH _ _ _ _ _ _ _ (Act.put _ (some 27) _) _
    simp only [Act.put]
    try simp only [List.setIfInBounds_toArray, List.set_cons_zero, List.set_cons_succ]
    refine wpAnyH_ready (rs := [10]) (by kernel_rfl) (by simp) ?_
    refine AllReadyH.cons rfl (fun K hK => ?_) AllReadyH.nil
    have d0 := K1.cell 0
    have d1 := K1.cell 1
    have f0 := K1.frozen 0
    have f1 := K1.frozen 1
    have HP := Lib.hid (put2 (x := .int .i64 now) (y := .slice Ad (n - 1) cd) K1 GB (by omega))
    have K0f := (K0.far (p := ⟨w.heap.size + 1, 0, none⟩) (by simp) (.int .i64 now)).far (p := ⟨w.heap.size + 1, 1, none⟩) (by simp) (.slice Ad (n - 1) cd)
    have HO := Lib.hid (own_set (own_set od (g := w.heap.size + 1) (by omega) 0 (.int .i64 now)) (g := w.heap.size + 1) (by omega) 1 (.slice Ad (n - 1) cd))
    go_simp
    refine hK.out _ _ ⟨HP.out.2, K0f⟩ (fun hS => ?_)
    clear hK K d0 d1 f0 f1 K1
    refine wpAnyH_take (i := 11) (v := .int .i64 0) rfl (by kernel_rfl) (by kernel_rfl) (by kernel_rfl) (fun _ _ _ h => h) (Or.inl ⟨by kernel_rfl, fun u hSw => (by go_simp)⟩) hS ?_
    change wpAnyH _ _ _ _ _ _ _ (Act.put _ (some 5) _) _
    simp only [Act.put]
    try simp only [List.setIfInBounds_toArray, List.set_cons_zero, List.set_cons_succ]
    refine wpAnyH_done (by kernel_rfl) ?_ _
    clear hS
    go_wp2_with fail
    exact bodyPost_ret (v := .tuple #[.agg #[.int .i64 now, .slice Ad (n - 1) cd], .int .i64 0]) (results_cell_row_tmp Try.results11 _ _ _ _ _ _ rfl HP.out.1 Try.underlying24 rfl (by kernel_rfl)) rfl ⟨_, _, _, rfl, own_len od, own_down HO.out (by omega), HP.out.2⟩

end Go.Proofs.Ytbhcpkmofnfjgaa
