/-
  WheelTells' walk. No statement is proved here.
-/
import Derived.Test.YtbhcpkmofnfjgaaWr
import Derived.Test.YtbhcpkmofnfjgaaWl
import Derived.Test.YtbhcpkmofnfjgaaWn
namespace Go.Proofs.Ytbhcpkmofnfjgaa
open Go.RowKit

theorem sameW_rfl (a : Int) (l : List Tm) : sameW a l a l = true := by unfold sameW; simp
theorem the_at {now : Int} {ts : List Tm} (hc : chkW now ts = true) {k : Nat} {a b : Int} (hx : ts[k]? = some (a, b)) : theTm now ts a = some (a, b) := by
  have hR := (chkW_iff.1 hc).2.2
  have hlow : lowK (·.1) ts a = k := by
    have hk := (List.getElem?_eq_some_iff.1 hx).1
    refine low_is (by omega) (fun j t hj ht => ?_) (fun j t hj ht => hR.sort.at_ hj hx ht)
    obtain ⟨j1, e1⟩ := List.getElem?_eq_some_iff.1 ht
    obtain ⟨k1, e2⟩ := List.getElem?_eq_some_iff.1 hx
    have := List.pairwise_iff_getElem.1 hR.rise j k j1 k1 hj
    rw [e1, e2] at this
    exact this
  unfold theTm
  have hm : metK (·.1) ts a = true := by unfold metK; rw [hlow, hx]; simp
  rw [if_pos ⟨hc, hm⟩, hlow, hx]
theorem place_at {now : Int} {ts : List Tm} (hc : chkW now ts = true) {k : Nat} {a b : Int} (hx : ts[k]? = some (a, b)) : placeV now ts a = (spotT now b, true) := by
  unfold placeV; rw [the_at hc hx]
theorem place_no {now : Int} {ts : List Tm} (hc : chkW now ts = false) (a : Int) : placeV now ts a = ((0, 0), false) := by
  unfold placeV theTm; rw [if_neg (by rw [hc]; simp)]
def hereL (now p q : Int) (l : List Tm) : List Int := (l.filter fun t => decide (spotT now t.2 = (p, q))).map (·.1)
theorem here_step (now p q : Int) {l : List Tm} {k : Nat} {a b : Int} (h : l[k]? = some (a, b)) : hereL now p q (l.take (k + 1)) = hereL now p q (l.take k) ++ (if (spotT now b).1 = p ∧ (spotT now b).2 = q then [a] else []) := by
  unfold hereL
  rw [List.take_add_one, h, List.filter_append, List.map_append]
  congr 1
  by_cases hs : spotT now b = (p, q)
  · have : (spotT now b).1 = p ∧ (spotT now b).2 = q := by rw [hs]; exact ⟨rfl, rfl⟩
    simp [hs]
  · have : ¬ ((spotT now b).1 = p ∧ (spotT now b).2 = q) := fun h2 => hs (Prod.ext h2.1 h2.2)
    rw [if_neg this]
    simp [hs]
theorem here_len (now p q : Int) (l : List Tm) : (hereL now p q l).length ≤ l.length := by
  unfold hereL; rw [List.length_map]; exact List.length_filter_le _ _
theorem iown_len {w : World} {b n : Nat} {v : Value} {is : List Int} (h : w.ownsRow b 3 1 v n (vs is)) : is.length = n := by
  have := h.1
  rw [length_vs] at this
  omega

set_option maxRecDepth 100000 in
set_option maxHeartbeats 16000000 in
theorem tells_walk (now : Int) (A : Option Addr) (n c : Nat) (ts : List Tm) (ny : Int) (B : Option Addr) (m d : Nat) (us : List Tm) (p q : Int) (w : World) (hR : Reads w w.heap.size 2 A n (flat tv ts)) (hn : n ≤ maxLen) (hR' : Reads w w.heap.size 2 B m (flat tv us)) (hm : m ≤ maxLen) : Calls Try.prog 5 #[.agg #[.int .i64 now, .slice A n c], .agg #[.int .i64 ny, .slice B m d], .agg #[.int .i64 p, .int .i64 q]] w (Said (.bool true) w) := by
  obtain ⟨K0, K1, K2, GB⟩ := blks3 w 24 24 51 #[.int .i64 now, .slice A n c] #[.int .i64 ny, .slice B m d] #[.int .i64 p, .int .i64 q]
  have HWk := Lib.hid (fun (u : World) => wakes_any u)
  unfold maxLen at hn hm
  by_cases h100 : 100 < n
  · have e1 : decide ((100 : Int) < (n : Int)) = true := decide_eq_true (by omega)
    have e2 : (100 : Int) < (n : Int) := by omega
    clear hR hR' h100
    go_enter Try.func5, Try.ntmps5
    go_wp2_with fail
    refine (HWk.out _).mono ?_
    rintro e u1 ⟨rfl, h9⟩
    replace K0 := K0.below h9 K0.lt
    replace K1 := K1.below h9 K1.lt
    replace K2 := K2.below h9 K2.lt
    replace GB := GB.trans (h9.mono GB.size)
    clear h9 
    have zK00 := K0.cell 0
    have zK01 := K0.cell 1
    have zK10 := K1.cell 0
    have zK11 := K1.cell 1
    go_wp2
    go_ret
    exact ⟨rfl, GB⟩
  have e1 : decide ((100 : Int) < (n : Int)) = false := decide_eq_false (by omega)
  have e2 : ¬ (100 : Int) < (n : Int) := by omega
  by_cases h101 : 100 < m
  · have e3 : decide ((100 : Int) < (m : Int)) = true := decide_eq_true (by omega)
    have e4 : (100 : Int) < (m : Int) := by omega
    clear hR hR' h100 h101
    go_enter Try.func5, Try.ntmps5
    go_wp2_with fail
    refine (HWk.out _).mono ?_
    rintro e u1 ⟨rfl, h9⟩
    replace K0 := K0.below h9 K0.lt
    replace K1 := K1.below h9 K1.lt
    replace K2 := K2.below h9 K2.lt
    replace GB := GB.trans (h9.mono GB.size)
    clear h9 
    have zK00 := K0.cell 0
    have zK01 := K0.cell 1
    have zK10 := K1.cell 0
    have zK11 := K1.cell 1
    go_wp2
    go_ret
    exact ⟨rfl, GB⟩
  have e3 : decide ((100 : Int) < (m : Int)) = false := decide_eq_false (by omega)
  have e4 : ¬ (100 : Int) < (m : Int) := by omega
  have hG : WR w A n ts := ⟨hR, by omega⟩
  have hH : WR w B m us := ⟨hR', by omega⟩
  have HN9 : Hid (n ≤ 1000) := Lib.hid (by omega)
  have HCo := Lib.hid (fun (u : World) (h : Below w.heap.size w u) => copied_any now A n c ts u (hG.below h))
  have HCk := Lib.hid (fun (u : World) (A' : Option Addr) (c' : Nat) (h : WR u A' n ts) => check_any now A' n c' ts u h)
  have HRi := Lib.hid (fun (u : World) (h : Below w.heap.size w u) => right_any now A n c ts u (hG.below h))
  have HSa := Lib.hid (fun (u : World) (h : Below w.heap.size w u) => same_any now ny A B n c m d ts us u (hG.below h) (hH.below h))
  have HSb := Lib.hid (fun (u : World) (h : Below w.heap.size w u) => rsame_any now ny A B n c m d ts us u (hG.below h) (hH.below h))
  have HSc := Lib.hid (fun (u : World) (h : Below w.heap.size w u) (A' : Option Addr) (c' : Nat) (h' : WR u A' n ts) => same_any now now A A' n c n c' ts ts u (hG.below h) h')
  rw [sameW_rfl] at HSc
  obtain ⟨bv, hbv⟩ : ∃ bv, sameW now ts ny us = bv := ⟨_, rfl⟩
  rw [hbv] at HSa HSb
  have HSl := Lib.hid (fun (u : World) (h : Below w.heap.size w u) => slot_any now A n c ts p q u (hG.below h))
  have HL := Lib.hid hG.len
  clear hR hR' hH h100 h101 hbv hn hm
  cases hc : chkW now ts with
  | false =>
    rw [hc] at HRi
    rw [hc, show errW false = 250 from rfl] at HCk
    have HPl : Hid (∀ (a : Int) (u : World), Below w.heap.size w u → Calls Try.prog 25 #[.agg #[.int .i64 now, .slice A n c], .int .i64 a] u (Said (.tuple #[.int .i64 0, .int .i64 0, .bool false]) u)) := Lib.hid (fun a u h => by
      have z := place_any now A n c ts a u (hG.below h)
      rw [place_no hc] at z
      exact z)
    obtain ⟨H, hH⟩ : ∃ H : List Int, H = [] := ⟨_, rfl⟩
    rw [show slotV now ts p q = H from by unfold slotV; rw [if_neg (by rw [hc]; simp), hH]] at HSl
    have HH := Lib.hid hH
    clear hH hc
    go_enter Try.func5, Try.ntmps5
    go_wp2_with fail
    refine (HWk.out _).mono ?_
    rintro e u1 ⟨rfl, h9⟩
    replace K0 := K0.below h9 K0.lt
    replace K1 := K1.below h9 K1.lt
    replace K2 := K2.below h9 K2.lt
    replace GB := GB.trans (h9.mono GB.size)
    clear h9 
    have zK00 := K0.cell 0
    have zK01 := K0.cell 1
    have zK10 := K1.cell 0
    have zK11 := K1.cell 1
    go_wp2_with fail
    refine (HRi.out _ GB).mono ?_
    rintro e u2 ⟨rfl, h9⟩
    replace K0 := K0.below h9 K0.lt
    replace K1 := K1.below h9 K1.lt
    replace K2 := K2.below h9 K2.lt
    replace GB := GB.trans (h9.mono GB.size)
    clear h9 zK00 zK01 zK10 zK11
    have zK00 := K0.cell 0
    have zK01 := K0.cell 1
    go_wp2_with fail
    refine (HCo.out _ GB).mono ?_
    rintro e u3 ⟨A1, n1, c1, rfl, hl1, O1, h9⟩
    obtain rfl : n = n1 := HL.out.symm.trans hl1
    have W1 := WR.of_own O1 HN9.out
    replace K0 := K0.below h9 K0.lt
    replace K1 := K1.below h9 K1.lt
    replace K2 := K2.below h9 K2.lt
    replace GB := GB.trans (h9.mono GB.size)
    clear h9 O1 hl1 zK00 zK01
    go_wp2_with fail
    refine (HCk.out _ A1 c1 W1).mono ?_
    rintro e u4 ⟨rfl, h9⟩
    replace K0 := K0.below h9 K0.lt
    replace K1 := K1.below h9 K1.lt
    replace K2 := K2.below h9 K2.lt
    replace GB := GB.trans (h9.mono GB.size)
    clear h9 W1
    go_upto_region 7 with fail
    replace K0 : Blk u4.drew _ _ _ := K0
    replace K1 : Blk u4.drew _ _ _ := K1
    replace K2 : Blk u4.drew _ _ _ := K2
    replace GB := GB.drew
    refine wp_region_held_drew (S := fun u => Below w.heap.size w u ∧ Blk u (w.heap.size) 24 #[.int .i64 now, .slice A n c] ∧ Blk u (w.heap.size + 1) 24 #[.int .i64 ny, .slice B m d]) (by kernel_rfl) ⟨GB, K0, K1⟩ (fun hS => ?_)
    generalize u4.drew = V at GB K0 K1 K2 hS ⊢
    refine wpAnyH_take (i := 0) (v := .bool false) rfl (by kernel_rfl) (by kernel_rfl) (by kernel_rfl) (fun _ _ _ h => h) (Or.inl ⟨by kernel_rfl, fun u hSw => (by go_simp)⟩) hS ?_
    change wpAnyH _ _ _ _ _ _ _ (Act.put _ (some 36) _) _
    simp only [Act.put]
    try simp only [List.setIfInBounds_toArray, List.set_cons_zero, List.set_cons_succ]
    refine wpAnyH_take (i := 1) (v := .int .i64 250) rfl (by kernel_rfl) (by kernel_rfl) (by kernel_rfl) (fun _ _ _ h => h) (Or.inl ⟨by kernel_rfl, fun u hSw => (by go_simp)⟩) hS ?_
    change wpAnyH _ _ _ _ _ _ _ (Act.put _ (some 37) _) _
    simp only [Act.put]
    try simp only [List.setIfInBounds_toArray, List.set_cons_zero, List.set_cons_succ]
    refine wpAnyH_take (i := 2) (v := .bool false) rfl (by kernel_rfl) (by kernel_rfl) (by kernel_rfl) (fun _ _ _ h => h) (Or.inl ⟨by kernel_rfl, fun u hSw => (by go_simp)⟩) hS ?_
    change wpAnyH _ _ _ _ _ _ _ (Act.put _ (some 38) _) _
    simp only [Act.put]
    try simp only [List.setIfInBounds_toArray, List.set_cons_zero, List.set_cons_succ]
    refine wpAnyH_take (i := 3) (v := .bool false) rfl (by kernel_rfl) (by kernel_rfl) (by kernel_rfl) (fun _ _ _ h => h) (Or.inl ⟨by kernel_rfl, fun u hSw => (by go_simp)⟩) hS ?_
    change wpAnyH _ _ _ _ _ _ _ (Act.put _ (some 39) _) _
    simp only [Act.put]
    try simp only [List.setIfInBounds_toArray, List.set_cons_zero, List.set_cons_succ]
    refine wpAnyH_take (i := 4) (v := .bool false) rfl (by kernel_rfl) (by kernel_rfl) (by kernel_rfl) (fun _ _ _ h => h) (Or.inl ⟨by kernel_rfl, fun u hSw => (by go_simp)⟩) hS ?_
    change wpAnyH _ _ _ _ _ _ _ (Act.put _ (some 40) _) _
    simp only [Act.put]
    try simp only [List.setIfInBounds_toArray, List.set_cons_zero, List.set_cons_succ]
    refine wpAnyH_take (i := 5) (v := .bool false) rfl (by kernel_rfl) (by kernel_rfl) (by kernel_rfl) (fun _ _ _ h => h) (Or.inl ⟨by kernel_rfl, fun u hSw => (by go_simp)⟩) hS ?_
    change wpAnyH _ _ _ _ _ _ _ (Act.put _ (some 41) _) _
    simp only [Act.put]
    try simp only [List.setIfInBounds_toArray, List.set_cons_zero, List.set_cons_succ]
    refine wpAnyH_take (i := 6) (v := .bool true) rfl (by kernel_rfl) (by kernel_rfl) (by kernel_rfl) (fun _ _ _ h => h) (Or.inl ⟨by kernel_rfl, fun u hSw => (by go_simp)⟩) hS ?_
    change wpAnyH _ _ _ _ _ _ _ (Act.put _ (some 42) _) _
    simp only [Act.put]
    try simp only [List.setIfInBounds_toArray, List.set_cons_zero, List.set_cons_succ]
    refine wpAnyH_take (i := 7) (v := .bool true) rfl (by kernel_rfl) (by kernel_rfl) (by kernel_rfl) (fun _ _ _ h => h) (Or.inl ⟨by kernel_rfl, fun u hSw => (by go_simp)⟩) hS ?_
    change wpAnyH _ _ _ _ _ _ _ (Act.put _ (some 43) _) _
    simp only [Act.put]
    try simp only [List.setIfInBounds_toArray, List.set_cons_zero, List.set_cons_succ]
    refine wpAnyH_take (i := 8) (v := .int .i64 250) rfl (by kernel_rfl) (by kernel_rfl) (by kernel_rfl) (fun _ _ _ h => h) (Or.inl ⟨by kernel_rfl, fun u hSw => (by go_simp)⟩) hS ?_
    change wpAnyH _ _ _ _ _ _ _ (Act.put _ (some 44) _) _
    simp only [Act.put]
    try simp only [List.setIfInBounds_toArray, List.set_cons_zero, List.set_cons_succ]
    refine wpAnyH_take (i := 9) (v := .bool false) rfl (by kernel_rfl) (by kernel_rfl) (by kernel_rfl) (fun _ _ _ h => h) (Or.inl ⟨by kernel_rfl, fun u hSw => (by go_simp)⟩) hS ?_
    change wpAnyH _ _ _ _ _ _ _ (Act.put _ (some 45) _) _
    simp only [Act.put]
    try simp only [List.setIfInBounds_toArray, List.set_cons_zero, List.set_cons_succ]
    refine wpAnyH_take (i := 10) (v := .bool false) rfl (by kernel_rfl) (by kernel_rfl) (by kernel_rfl) (fun _ _ _ h => h) (Or.inl ⟨by kernel_rfl, fun u hSw => (by go_simp)⟩) hS ?_
    change wpAnyH _ _ _ _ _ _ _ (Act.put _ (some 46) _) _
    simp only [Act.put]
    try simp only [List.setIfInBounds_toArray, List.set_cons_zero, List.set_cons_succ]
    refine wpAnyH_take (i := 11) (v := .bool false) rfl (by kernel_rfl) (by kernel_rfl) (by kernel_rfl) (fun _ _ _ h => h) (Or.inl ⟨by kernel_rfl, fun u hSw => (by go_simp)⟩) hS ?_
    change wpAnyH _ _ _ _ _ _ _ (Act.put _ (some 47) _) _
    simp only [Act.put]
    try simp only [List.setIfInBounds_toArray, List.set_cons_zero, List.set_cons_succ]
    refine wpAnyH_take (i := 12) (v := .bool false) rfl (by kernel_rfl) (by kernel_rfl) (by kernel_rfl) (fun _ _ _ h => h) (Or.inl ⟨by kernel_rfl, fun u hSw => (by go_simp)⟩) hS ?_
    change wpAnyH _ _ _ _ _ _ _ (Act.put _ (some 48) _) _
    simp only [Act.put]
    try simp only [List.setIfInBounds_toArray, List.set_cons_zero, List.set_cons_succ]
    refine wpAnyH_take (i := 13) (v := .agg #[.int .i64 now, .slice A n c]) rfl (by kernel_rfl) (by kernel_rfl) (by kernel_rfl) (fun _ _ _ h => h) (Or.inl ⟨by kernel_rfl, fun u hSw => (by have q0 := hSw.2.1.cell 0; have q1 := hSw.2.1.cell 1; go_simp)⟩) hS ?_
    change wpAnyH _ _ _ _ _ _ _ (Act.put _ (some 49) _) _
    simp only [Act.put]
    try simp only [List.setIfInBounds_toArray, List.set_cons_zero, List.set_cons_succ]
    refine wpAnyH_take (i := 14) (v := .agg #[.int .i64 ny, .slice B m d]) rfl (by kernel_rfl) (by kernel_rfl) (by kernel_rfl) (fun _ _ _ h => h) (Or.inl ⟨by kernel_rfl, fun u hSw => (by have q0 := hSw.2.2.cell 0; have q1 := hSw.2.2.cell 1; go_simp)⟩) hS ?_
    change wpAnyH _ _ _ _ _ _ _ (Act.put _ (some 50) _) _
    simp only [Act.put]
    try simp only [List.setIfInBounds_toArray, List.set_cons_zero, List.set_cons_succ]
    refine wpAnyH_take (i := 16) (v := .agg #[.int .i64 now, .slice A n c]) rfl (by kernel_rfl) (by kernel_rfl) (by kernel_rfl) (fun _ _ _ h => h) (Or.inl ⟨by kernel_rfl, fun u hSw => (by have q0 := hSw.2.1.cell 0; have q1 := hSw.2.1.cell 1; go_simp)⟩) hS ?_
    change wpAnyH _ _ _ _ _ _ _ (Act.put _ (some 52) _) _
    simp only [Act.put]
    try simp only [List.setIfInBounds_toArray, List.set_cons_zero, List.set_cons_succ]
    refine wpAnyH_take (i := 17) (v := .agg #[.int .i64 ny, .slice B m d]) rfl (by kernel_rfl) (by kernel_rfl) (by kernel_rfl) (fun _ _ _ h => h) (Or.inl ⟨by kernel_rfl, fun u hSw => (by have q0 := hSw.2.2.cell 0; have q1 := hSw.2.2.cell 1; go_simp)⟩) hS ?_
    change wpAnyH _ _ _ _ _ _ _ (Act.put _ (some 53) _) _
    simp only [Act.put]
    try simp only [List.setIfInBounds_toArray, List.set_cons_zero, List.set_cons_succ]
    refine wpAnyH_ready (rs := [15]) (by kernel_rfl) (by simp) ?_
    refine AllReadyH.cons rfl (fun K hK => ?_) AllReadyH.nil
    go_simp
    refine (HSa.out _ GB).mono ?_
    rintro e1 w1 ⟨rfl, h9⟩
    replace K0 := K0.below h9 K0.lt
    replace K1 := K1.below h9 K1.lt
    replace K2 := K2.below h9 K2.lt
    replace GB := GB.trans (h9.mono GB.size)
    clear h9
    refine hK.out _ _ ⟨GB, K0, K1⟩ (fun hS => ?_)
    clear hK K
    refine wpAnyH_ready (rs := [18]) (by kernel_rfl) (by simp) ?_
    refine AllReadyH.cons rfl (fun K hK => ?_) AllReadyH.nil
    go_simp
    refine (HSb.out _ GB).mono ?_
    rintro e2 w2 ⟨rfl, h9⟩
    replace K0 := K0.below h9 K0.lt
    replace K1 := K1.below h9 K1.lt
    replace K2 := K2.below h9 K2.lt
    replace GB := GB.trans (h9.mono GB.size)
    clear h9
    refine hK.out _ _ ⟨GB, K0, K1⟩ (fun hS => ?_)
    clear hK K
    refine wpAnyH_take (i := 19) (v := .bool false) rfl (by kernel_rfl) (by kernel_rfl) (by kernel_rfl) (fun _ _ _ h => h) (Or.inl ⟨by kernel_rfl, fun u hSw => (by first | (go_simp; done) | (go_simp; simp) | (go_simp; cases bv <;> rfl))⟩) hS ?_
    change wpAnyH _ _ _ _ _ _ _ (Act.put _ (some 55) _) _
    simp only [Act.put]
    try simp only [List.setIfInBounds_toArray, List.set_cons_zero, List.set_cons_succ]
    refine wpAnyH_take (i := 20) (v := .bool false) rfl (by kernel_rfl) (by kernel_rfl) (by kernel_rfl) (fun _ _ _ h => h) (Or.inl ⟨by kernel_rfl, fun u hSw => (by go_simp)⟩) hS ?_
    change wpAnyH _ _ _ _ _ _ _ (Act.put _ (some 56) _) _
    simp only [Act.put]
    try simp only [List.setIfInBounds_toArray, List.set_cons_zero, List.set_cons_succ]
    refine wpAnyH_take (i := 21) (v := .bool false) rfl (by kernel_rfl) (by kernel_rfl) (by kernel_rfl) (fun _ _ _ h => h) (Or.inl ⟨by kernel_rfl, fun u hSw => (by go_simp)⟩) hS ?_
    change wpAnyH _ _ _ _ _ _ _ (Act.put _ (some 57) _) _
    simp only [Act.put]
    try simp only [List.setIfInBounds_toArray, List.set_cons_zero, List.set_cons_succ]
    refine wpAnyH_take (i := 22) (v := .agg #[.int .i64 now, .slice A n c]) rfl (by kernel_rfl) (by kernel_rfl) (by kernel_rfl) (fun _ _ _ h => h) (Or.inl ⟨by kernel_rfl, fun u hSw => (by have q0 := hSw.2.1.cell 0; have q1 := hSw.2.1.cell 1; go_simp)⟩) hS ?_
    change wpAnyH _ _ _ _ _ _ _ (Act.put _ (some 58) _) _
    simp only [Act.put]
    try simp only [List.setIfInBounds_toArray, List.set_cons_zero, List.set_cons_succ]
    refine wpAnyH_take (i := 23) (v := .agg #[.int .i64 now, .slice A n c]) rfl (by kernel_rfl) (by kernel_rfl) (by kernel_rfl) (fun _ _ _ h => h) (Or.inl ⟨by kernel_rfl, fun u hSw => (by have q0 := hSw.2.1.cell 0; have q1 := hSw.2.1.cell 1; go_simp)⟩) hS ?_
    change wpAnyH _ _ _ _ _ _ _ (Act.put _ (some 59) _) _
    simp only [Act.put]
    try simp only [List.setIfInBounds_toArray, List.set_cons_zero, List.set_cons_succ]
    refine wpAnyH_ready (rs := [24]) (by kernel_rfl) (by simp) ?_
    refine AllReadyH.cons rfl (fun K hK => ?_) AllReadyH.nil
    go_simp
    refine (HCo.out _ GB).mono ?_
    rintro e3 w3 ⟨A5, n5, c5, rfl, hl5, O5, h9⟩
    replace K0 := K0.below h9 K0.lt
    replace K1 := K1.below h9 K1.lt
    replace K2 := K2.below h9 K2.lt
    obtain rfl : n = n5 := HL.out.symm.trans hl5
    have W5 := WR.of_own O5 HN9.out
    clear O5 hl5
    replace GB := GB.trans (h9.mono GB.size)
    clear h9
    refine hK.out _ _ ⟨GB, K0, K1⟩ (fun hS => ?_)
    clear hK K
    refine wpAnyH_ready (rs := [25]) (by kernel_rfl) (by simp) ?_
    refine AllReadyH.cons rfl (fun K hK => ?_) AllReadyH.nil
    go_simp
    refine (HSc.out _ GB A5 c5 W5).mono ?_
    rintro e4 w4 ⟨rfl, h9⟩
    replace K0 := K0.below h9 K0.lt
    replace K1 := K1.below h9 K1.lt
    replace K2 := K2.below h9 K2.lt
    clear W5
    replace GB := GB.trans (h9.mono GB.size)
    clear h9
    refine hK.out _ _ ⟨GB, K0, K1⟩ (fun hS => ?_)
    clear hK K
    refine wpAnyH_take (i := 26) (v := .bool false) rfl (by kernel_rfl) (by kernel_rfl) (by kernel_rfl) (fun _ _ _ h => h) (Or.inl ⟨by kernel_rfl, fun u hSw => (by go_simp)⟩) hS ?_
    change wpAnyH _ _ _ _ _ _ _ (Act.put _ (some 62) _) _
    simp only [Act.put]
    try simp only [List.setIfInBounds_toArray, List.set_cons_zero, List.set_cons_succ]
    refine wpAnyH_take (i := 27) (v := .bool false) rfl (by kernel_rfl) (by kernel_rfl) (by kernel_rfl) (fun _ _ _ h => h) (Or.inl ⟨by kernel_rfl, fun u hSw => (by go_simp)⟩) hS ?_
    change wpAnyH _ _ _ _ _ _ _ (Act.put _ (some 63) _) _
    simp only [Act.put]
    try simp only [List.setIfInBounds_toArray, List.set_cons_zero, List.set_cons_succ]
    refine wpAnyH_done (by kernel_rfl) ?_ _
    clear hS
    have zK00 := K0.cell 0
    have zK01 := K0.cell 1
    go_wp2_with fail
    clear zK00 zK01
    have HBASE := Lib.hid (And.intro K0 (And.intro K1 (And.intro K2 (And.intro GB (And.intro (hG.below GB) (Nat.le_refl w4.heap.size))))))
    clear K0 K1 K2 GB
    go_loopw [9, 67] (fun sv iv wr => ∃ (k : Nat) (A3 : Option Addr) (m3 c3 : Nat), k ≤ n ∧ sv = .slice A3 m3 c3 ∧ iv = .int .i64 (k : Int) ∧ Hid (A3 = none ∧ m3 = 0) ∧ Below w4.heap.size w4 wr) (fun _ iv _ => n - (intOf iv).toNat)
    case atStart => exact ⟨0, none, 0, 0, Nat.zero_le _, rfl, rfl, Lib.hid ⟨rfl, rfl⟩, Below.refl _ _⟩
    case round =>
      obtain ⟨k, A3, m3, c3, hk, rfl, rfl, HZ, HB⟩ := hrel
      by_cases hlt : k < n
      · obtain ⟨⟨a, b⟩, hx⟩ := elem_at (l := ts) (k := k) (by rw [HL.out]; exact hlt)
        obtain ⟨ad, rfl, hb, q0, q1⟩ := tm_at (HBASE.out.2.2.2.2.1.below HB).row hx
        have HPx := Lib.hid (fun (u : World) (h : Below w.heap.size w u) => HPl.out a u h)
        have j0 : (0 : Int) ≤ (k : Int) := by omega
        have j1 : (k : Int) < (n : Int) := by omega
        have l1 : decide ((k : Int) < (n : Int)) = true := decide_eq_true j1
        have GBW := HBASE.out.2.2.2.1.trans (HB.mono HBASE.out.2.2.2.1.size)
        have K0 := HBASE.out.1.below HB HBASE.out.1.lt
        have KB := Blk.new wr 44 #[.int .i64 a, .int .i64 b]
        replace K0 := K0.alloc (.cells #[.int .i64 a, .int .i64 b] 44)
        have HB1 := HB.alloc HB.size (.cells #[.int .i64 a, .int .i64 b] 44)
        replace GBW := GBW.alloc GBW.size (.cells #[.int .i64 a, .int .i64 b] 44)
        have x0 := K0.cell 0
        have x1 := K0.cell 1
        have y0 := KB.cell 0
        have y1 := KB.cell 1
        clear hx hb HB
        go_wp2_with fail
        refine (HPx.out _ GBW).mono ?_
        rintro e v1 ⟨rfl, h9⟩
        replace HB1 := HB1.trans (h9.mono HB1.size)
        clear h9 GBW HPx K0 KB x0 x1 y0 y1 q0 q1
        go_wp2_with fail
        go_roundw
        case rel => exact ⟨k + 1, A3, m3, c3, by omega, rfl, by go_num, HZ, HB1⟩
        case measure => simp [intOf] <;> omega
      · obtain rfl : k = n := by omega
        have l1 : decide ((k : Int) < (k : Int)) = false := decide_eq_false (by omega)
        have K0 := HBASE.out.1.below HB HBASE.out.1.lt
        have K1 := HBASE.out.2.1.below HB HBASE.out.2.1.lt
        have K2 := HBASE.out.2.2.1.below HB HBASE.out.2.2.1.lt
        have GB := HBASE.out.2.2.2.1.trans (HB.mono HBASE.out.2.2.2.1.size)
        have HI : Hid (IR wr A3 m3 H) := Lib.hid (by
          obtain ⟨e1, e2⟩ := HZ.out
          rw [e1, e2, HH.out]
          exact ⟨⟨rfl, fun h => absurd h (by omega)⟩, by omega⟩)
        clear HB HBASE HZ
        have zK00 := K0.cell 0
        have zK01 := K0.cell 1
        have zK20 := K2.cell 0
        have zK21 := K2.cell 1
        go_wp2_with fail
        refine (HSl.out _ GB).mono ?_
        rintro e v1 ⟨A9, n9, c9, rfl, hl9, O9, h9⟩
        obtain rfl : n9 = m3 := hl9.symm.trans HI.out.len
        have HI2 := Lib.hid (HI.out.below h9)
        have HI9 : Hid (IR v1 A9 n9 H) := Lib.hid ⟨Reads.of_own O9, HI.out.small⟩
        replace GB := GB.trans (h9.mono GB.size)
        clear h9 hl9 O9 zK00 zK01 zK20 zK21 K0 K1 K2 HI
        have e5 : ((n9 : Int) != (n9 : Int)) = false := by simp
        go_wp2_with fail
        go_loopw [139] (fun iv wr => ∃ k : Nat, k ≤ n9 ∧ iv = .int .i64 (k : Int) ∧ Below v1.heap.size v1 wr) (fun iv _ => n9 - (intOf iv).toNat)
        case atStart => exact ⟨0, Nat.zero_le _, rfl, Below.refl _ _⟩
        case round =>
          obtain ⟨k, hk, rfl, hB⟩ := hrel
          by_cases hlt : k < n9
          · obtain ⟨x, hx⟩ := elem_at (l := H) (k := k) (by rw [HI9.out.len]; exact hlt)
            obtain ⟨ad, rfl, hb1, d0⟩ := (HI9.out.below hB).at_ hx
            obtain ⟨ad', rfl, hb2, d1⟩ := (HI2.out.below hB).at_ hx
            have i1 : (0 : Int) ≤ (k : Int) := by omega
            have i2 : (k : Int) < (n9 : Int) := by omega
            have l1 : decide ((k : Int) < (n9 : Int)) = true := decide_eq_true i2
            have y1 : (x != x) = false := by simp
            have n9s : n9 ≤ 1000 := HI9.out.small
            clear hb1 hb2 hx
            go_wp2_with fail
            go_quiet (fail)
            go_wp2
            go_roundw
            case rel => exact ⟨k + 1, by omega, by go_num, below_drewN hB _⟩
            case measure => simp [intOf] <;> omega
          · obtain rfl : k = n9 := by omega
            have l1 : decide ((k : Int) < (k : Int)) = false := decide_eq_false (by omega)
            have GB9 := GB.trans (hB.mono GB.size)
            go_wp2
            go_ret
            exact ⟨rfl, GB9⟩
  | true =>
    obtain ⟨h0, h1, hRt⟩ := chkW_iff.1 hc
    rw [hc] at HRi
    rw [hc, show errW true = 0 from rfl] at HCk
    have HPl : Hid (∀ (k : Nat) (a b : Int) (u : World), ts[k]? = some (a, b) → Below w.heap.size w u → Calls Try.prog 25 #[.agg #[.int .i64 now, .slice A n c], .int .i64 a] u (Said (.tuple #[.int .i64 (spotT now b).1, .int .i64 (spotT now b).2, .bool true]) u)) := Lib.hid (fun k a b u hx h => by
      have z := place_any now A n c ts a u (hG.below h)
      rw [place_at hc hx] at z
      exact z)
    have HPd : Hid (∀ (a b : Int) (u : World), (a, b) ∈ ts → Calls Try.prog 21 #[.int .i64 now, .int .i64 b] u fun e w' => e = .returned (.tuple #[.int .i64 (spotT now b).1, .int .i64 (spotT now b).2]) ∧ u = w') := Lib.hid (fun a b u hx => by
      have hb := tmB_iff.1 (hRt.each _ hx)
      dsimp only at hb
      have z := rplace_any now b u h0 h1 (by omega) hb.2.2.2
      rwa [placeF_ok h0 hb.2.2.1 hb.2.2.2] at z)
    obtain ⟨H, hH⟩ : ∃ H : List Int, hereL now p q ts = H := ⟨_, rfl⟩
    rw [show slotV now ts p q = H from by unfold slotV; rw [if_pos hc]; exact hH] at HSl
    have HH := Lib.hid hH
    clear hH hc h0 h1 hRt
    go_enter Try.func5, Try.ntmps5
    go_wp2_with fail
    refine (HWk.out _).mono ?_
    rintro e u1 ⟨rfl, h9⟩
    replace K0 := K0.below h9 K0.lt
    replace K1 := K1.below h9 K1.lt
    replace K2 := K2.below h9 K2.lt
    replace GB := GB.trans (h9.mono GB.size)
    clear h9 
    have zK00 := K0.cell 0
    have zK01 := K0.cell 1
    have zK10 := K1.cell 0
    have zK11 := K1.cell 1
    go_wp2_with fail
    refine (HRi.out _ GB).mono ?_
    rintro e u2 ⟨rfl, h9⟩
    replace K0 := K0.below h9 K0.lt
    replace K1 := K1.below h9 K1.lt
    replace K2 := K2.below h9 K2.lt
    replace GB := GB.trans (h9.mono GB.size)
    clear h9 zK00 zK01 zK10 zK11
    have zK00 := K0.cell 0
    have zK01 := K0.cell 1
    go_wp2_with fail
    refine (HCo.out _ GB).mono ?_
    rintro e u3 ⟨A1, n1, c1, rfl, hl1, O1, h9⟩
    obtain rfl : n = n1 := HL.out.symm.trans hl1
    have W1 := WR.of_own O1 HN9.out
    replace K0 := K0.below h9 K0.lt
    replace K1 := K1.below h9 K1.lt
    replace K2 := K2.below h9 K2.lt
    replace GB := GB.trans (h9.mono GB.size)
    clear h9 O1 hl1 zK00 zK01
    go_wp2_with fail
    refine (HCk.out _ A1 c1 W1).mono ?_
    rintro e u4 ⟨rfl, h9⟩
    replace K0 := K0.below h9 K0.lt
    replace K1 := K1.below h9 K1.lt
    replace K2 := K2.below h9 K2.lt
    replace GB := GB.trans (h9.mono GB.size)
    clear h9 W1
    go_upto_region 7 with fail
    replace K0 : Blk u4.drew _ _ _ := K0
    replace K1 : Blk u4.drew _ _ _ := K1
    replace K2 : Blk u4.drew _ _ _ := K2
    replace GB := GB.drew
    refine wp_region_held_drew (S := fun u => Below w.heap.size w u ∧ Blk u (w.heap.size) 24 #[.int .i64 now, .slice A n c] ∧ Blk u (w.heap.size + 1) 24 #[.int .i64 ny, .slice B m d]) (by kernel_rfl) ⟨GB, K0, K1⟩ (fun hS => ?_)
    generalize u4.drew = V at GB K0 K1 K2 hS ⊢
    refine wpAnyH_take (i := 0) (v := .bool true) rfl (by kernel_rfl) (by kernel_rfl) (by kernel_rfl) (fun _ _ _ h => h) (Or.inl ⟨by kernel_rfl, fun u hSw => (by go_simp)⟩) hS ?_
    change wpAnyH _ _ _ _ _ _ _ (Act.put _ (some 36) _) _
    simp only [Act.put]
    try simp only [List.setIfInBounds_toArray, List.set_cons_zero, List.set_cons_succ]
    refine wpAnyH_take (i := 1) (v := .int .i64 0) rfl (by kernel_rfl) (by kernel_rfl) (by kernel_rfl) (fun _ _ _ h => h) (Or.inl ⟨by kernel_rfl, fun u hSw => (by go_simp)⟩) hS ?_
    change wpAnyH _ _ _ _ _ _ _ (Act.put _ (some 37) _) _
    simp only [Act.put]
    try simp only [List.setIfInBounds_toArray, List.set_cons_zero, List.set_cons_succ]
    refine wpAnyH_take (i := 2) (v := .bool true) rfl (by kernel_rfl) (by kernel_rfl) (by kernel_rfl) (fun _ _ _ h => h) (Or.inl ⟨by kernel_rfl, fun u hSw => (by go_simp)⟩) hS ?_
    change wpAnyH _ _ _ _ _ _ _ (Act.put _ (some 38) _) _
    simp only [Act.put]
    try simp only [List.setIfInBounds_toArray, List.set_cons_zero, List.set_cons_succ]
    refine wpAnyH_take (i := 3) (v := .bool false) rfl (by kernel_rfl) (by kernel_rfl) (by kernel_rfl) (fun _ _ _ h => h) (Or.inl ⟨by kernel_rfl, fun u hSw => (by go_simp)⟩) hS ?_
    change wpAnyH _ _ _ _ _ _ _ (Act.put _ (some 39) _) _
    simp only [Act.put]
    try simp only [List.setIfInBounds_toArray, List.set_cons_zero, List.set_cons_succ]
    refine wpAnyH_take (i := 4) (v := .bool false) rfl (by kernel_rfl) (by kernel_rfl) (by kernel_rfl) (fun _ _ _ h => h) (Or.inl ⟨by kernel_rfl, fun u hSw => (by go_simp)⟩) hS ?_
    change wpAnyH _ _ _ _ _ _ _ (Act.put _ (some 40) _) _
    simp only [Act.put]
    try simp only [List.setIfInBounds_toArray, List.set_cons_zero, List.set_cons_succ]
    refine wpAnyH_take (i := 5) (v := .bool true) rfl (by kernel_rfl) (by kernel_rfl) (by kernel_rfl) (fun _ _ _ h => h) (Or.inl ⟨by kernel_rfl, fun u hSw => (by go_simp)⟩) hS ?_
    change wpAnyH _ _ _ _ _ _ _ (Act.put _ (some 41) _) _
    simp only [Act.put]
    try simp only [List.setIfInBounds_toArray, List.set_cons_zero, List.set_cons_succ]
    refine wpAnyH_take (i := 6) (v := .bool false) rfl (by kernel_rfl) (by kernel_rfl) (by kernel_rfl) (fun _ _ _ h => h) (Or.inl ⟨by kernel_rfl, fun u hSw => (by go_simp)⟩) hS ?_
    change wpAnyH _ _ _ _ _ _ _ (Act.put _ (some 42) _) _
    simp only [Act.put]
    try simp only [List.setIfInBounds_toArray, List.set_cons_zero, List.set_cons_succ]
    refine wpAnyH_take (i := 7) (v := .bool false) rfl (by kernel_rfl) (by kernel_rfl) (by kernel_rfl) (fun _ _ _ h => h) (Or.inl ⟨by kernel_rfl, fun u hSw => (by go_simp)⟩) hS ?_
    change wpAnyH _ _ _ _ _ _ _ (Act.put _ (some 43) _) _
    simp only [Act.put]
    try simp only [List.setIfInBounds_toArray, List.set_cons_zero, List.set_cons_succ]
    refine wpAnyH_take (i := 8) (v := undef) rfl (by kernel_rfl) (by kernel_rfl) (by kernel_rfl) (fun _ _ _ h => h) (Or.inr ⟨by kernel_rfl, rfl⟩) hS ?_
    change wpAnyH _ _ _ _ _ _ _ (Act.put _ (some 44) _) _
    simp only [Act.put]
    try simp only [List.setIfInBounds_toArray, List.set_cons_zero, List.set_cons_succ]
    refine wpAnyH_take (i := 9) (v := undef) rfl (by kernel_rfl) (by kernel_rfl) (by kernel_rfl) (fun _ _ _ h => h) (Or.inr ⟨by kernel_rfl, rfl⟩) hS ?_
    change wpAnyH _ _ _ _ _ _ _ (Act.put _ (some 45) _) _
    simp only [Act.put]
    try simp only [List.setIfInBounds_toArray, List.set_cons_zero, List.set_cons_succ]
    refine wpAnyH_take (i := 10) (v := .bool false) rfl (by kernel_rfl) (by kernel_rfl) (by kernel_rfl) (fun _ _ _ h => h) (Or.inl ⟨by kernel_rfl, fun u hSw => (by go_simp)⟩) hS ?_
    change wpAnyH _ _ _ _ _ _ _ (Act.put _ (some 46) _) _
    simp only [Act.put]
    try simp only [List.setIfInBounds_toArray, List.set_cons_zero, List.set_cons_succ]
    refine wpAnyH_take (i := 11) (v := .bool false) rfl (by kernel_rfl) (by kernel_rfl) (by kernel_rfl) (fun _ _ _ h => h) (Or.inl ⟨by kernel_rfl, fun u hSw => (by go_simp)⟩) hS ?_
    change wpAnyH _ _ _ _ _ _ _ (Act.put _ (some 47) _) _
    simp only [Act.put]
    try simp only [List.setIfInBounds_toArray, List.set_cons_zero, List.set_cons_succ]
    refine wpAnyH_take (i := 12) (v := .bool false) rfl (by kernel_rfl) (by kernel_rfl) (by kernel_rfl) (fun _ _ _ h => h) (Or.inl ⟨by kernel_rfl, fun u hSw => (by go_simp)⟩) hS ?_
    change wpAnyH _ _ _ _ _ _ _ (Act.put _ (some 48) _) _
    simp only [Act.put]
    try simp only [List.setIfInBounds_toArray, List.set_cons_zero, List.set_cons_succ]
    refine wpAnyH_take (i := 13) (v := .agg #[.int .i64 now, .slice A n c]) rfl (by kernel_rfl) (by kernel_rfl) (by kernel_rfl) (fun _ _ _ h => h) (Or.inl ⟨by kernel_rfl, fun u hSw => (by have q0 := hSw.2.1.cell 0; have q1 := hSw.2.1.cell 1; go_simp)⟩) hS ?_
    change wpAnyH _ _ _ _ _ _ _ (Act.put _ (some 49) _) _
    simp only [Act.put]
    try simp only [List.setIfInBounds_toArray, List.set_cons_zero, List.set_cons_succ]
    refine wpAnyH_take (i := 14) (v := .agg #[.int .i64 ny, .slice B m d]) rfl (by kernel_rfl) (by kernel_rfl) (by kernel_rfl) (fun _ _ _ h => h) (Or.inl ⟨by kernel_rfl, fun u hSw => (by have q0 := hSw.2.2.cell 0; have q1 := hSw.2.2.cell 1; go_simp)⟩) hS ?_
    change wpAnyH _ _ _ _ _ _ _ (Act.put _ (some 50) _) _
    simp only [Act.put]
    try simp only [List.setIfInBounds_toArray, List.set_cons_zero, List.set_cons_succ]
    refine wpAnyH_take (i := 16) (v := .agg #[.int .i64 now, .slice A n c]) rfl (by kernel_rfl) (by kernel_rfl) (by kernel_rfl) (fun _ _ _ h => h) (Or.inl ⟨by kernel_rfl, fun u hSw => (by have q0 := hSw.2.1.cell 0; have q1 := hSw.2.1.cell 1; go_simp)⟩) hS ?_
    change wpAnyH _ _ _ _ _ _ _ (Act.put _ (some 52) _) _
    simp only [Act.put]
    try simp only [List.setIfInBounds_toArray, List.set_cons_zero, List.set_cons_succ]
    refine wpAnyH_take (i := 17) (v := .agg #[.int .i64 ny, .slice B m d]) rfl (by kernel_rfl) (by kernel_rfl) (by kernel_rfl) (fun _ _ _ h => h) (Or.inl ⟨by kernel_rfl, fun u hSw => (by have q0 := hSw.2.2.cell 0; have q1 := hSw.2.2.cell 1; go_simp)⟩) hS ?_
    change wpAnyH _ _ _ _ _ _ _ (Act.put _ (some 53) _) _
    simp only [Act.put]
    try simp only [List.setIfInBounds_toArray, List.set_cons_zero, List.set_cons_succ]
    refine wpAnyH_ready (rs := [15]) (by kernel_rfl) (by simp) ?_
    refine AllReadyH.cons rfl (fun K hK => ?_) AllReadyH.nil
    go_simp
    refine (HSa.out _ GB).mono ?_
    rintro e1 w1 ⟨rfl, h9⟩
    replace K0 := K0.below h9 K0.lt
    replace K1 := K1.below h9 K1.lt
    replace K2 := K2.below h9 K2.lt
    replace GB := GB.trans (h9.mono GB.size)
    clear h9
    refine hK.out _ _ ⟨GB, K0, K1⟩ (fun hS => ?_)
    clear hK K
    refine wpAnyH_ready (rs := [18]) (by kernel_rfl) (by simp) ?_
    refine AllReadyH.cons rfl (fun K hK => ?_) AllReadyH.nil
    go_simp
    refine (HSb.out _ GB).mono ?_
    rintro e2 w2 ⟨rfl, h9⟩
    replace K0 := K0.below h9 K0.lt
    replace K1 := K1.below h9 K1.lt
    replace K2 := K2.below h9 K2.lt
    replace GB := GB.trans (h9.mono GB.size)
    clear h9
    refine hK.out _ _ ⟨GB, K0, K1⟩ (fun hS => ?_)
    clear hK K
    refine wpAnyH_take (i := 19) (v := .bool false) rfl (by kernel_rfl) (by kernel_rfl) (by kernel_rfl) (fun _ _ _ h => h) (Or.inl ⟨by kernel_rfl, fun u hSw => (by first | (go_simp; done) | (go_simp; simp) | (go_simp; cases bv <;> rfl))⟩) hS ?_
    change wpAnyH _ _ _ _ _ _ _ (Act.put _ (some 55) _) _
    simp only [Act.put]
    try simp only [List.setIfInBounds_toArray, List.set_cons_zero, List.set_cons_succ]
    refine wpAnyH_take (i := 20) (v := .bool false) rfl (by kernel_rfl) (by kernel_rfl) (by kernel_rfl) (fun _ _ _ h => h) (Or.inl ⟨by kernel_rfl, fun u hSw => (by go_simp)⟩) hS ?_
    change wpAnyH _ _ _ _ _ _ _ (Act.put _ (some 56) _) _
    simp only [Act.put]
    try simp only [List.setIfInBounds_toArray, List.set_cons_zero, List.set_cons_succ]
    refine wpAnyH_take (i := 21) (v := .bool false) rfl (by kernel_rfl) (by kernel_rfl) (by kernel_rfl) (fun _ _ _ h => h) (Or.inl ⟨by kernel_rfl, fun u hSw => (by go_simp)⟩) hS ?_
    change wpAnyH _ _ _ _ _ _ _ (Act.put _ (some 57) _) _
    simp only [Act.put]
    try simp only [List.setIfInBounds_toArray, List.set_cons_zero, List.set_cons_succ]
    refine wpAnyH_take (i := 22) (v := .agg #[.int .i64 now, .slice A n c]) rfl (by kernel_rfl) (by kernel_rfl) (by kernel_rfl) (fun _ _ _ h => h) (Or.inl ⟨by kernel_rfl, fun u hSw => (by have q0 := hSw.2.1.cell 0; have q1 := hSw.2.1.cell 1; go_simp)⟩) hS ?_
    change wpAnyH _ _ _ _ _ _ _ (Act.put _ (some 58) _) _
    simp only [Act.put]
    try simp only [List.setIfInBounds_toArray, List.set_cons_zero, List.set_cons_succ]
    refine wpAnyH_take (i := 23) (v := .agg #[.int .i64 now, .slice A n c]) rfl (by kernel_rfl) (by kernel_rfl) (by kernel_rfl) (fun _ _ _ h => h) (Or.inl ⟨by kernel_rfl, fun u hSw => (by have q0 := hSw.2.1.cell 0; have q1 := hSw.2.1.cell 1; go_simp)⟩) hS ?_
    change wpAnyH _ _ _ _ _ _ _ (Act.put _ (some 59) _) _
    simp only [Act.put]
    try simp only [List.setIfInBounds_toArray, List.set_cons_zero, List.set_cons_succ]
    refine wpAnyH_ready (rs := [24]) (by kernel_rfl) (by simp) ?_
    refine AllReadyH.cons rfl (fun K hK => ?_) AllReadyH.nil
    go_simp
    refine (HCo.out _ GB).mono ?_
    rintro e3 w3 ⟨A5, n5, c5, rfl, hl5, O5, h9⟩
    replace K0 := K0.below h9 K0.lt
    replace K1 := K1.below h9 K1.lt
    replace K2 := K2.below h9 K2.lt
    obtain rfl : n = n5 := HL.out.symm.trans hl5
    have W5 := WR.of_own O5 HN9.out
    clear O5 hl5
    replace GB := GB.trans (h9.mono GB.size)
    clear h9
    refine hK.out _ _ ⟨GB, K0, K1⟩ (fun hS => ?_)
    clear hK K
    refine wpAnyH_ready (rs := [25]) (by kernel_rfl) (by simp) ?_
    refine AllReadyH.cons rfl (fun K hK => ?_) AllReadyH.nil
    go_simp
    refine (HSc.out _ GB A5 c5 W5).mono ?_
    rintro e4 w4 ⟨rfl, h9⟩
    replace K0 := K0.below h9 K0.lt
    replace K1 := K1.below h9 K1.lt
    replace K2 := K2.below h9 K2.lt
    clear W5
    replace GB := GB.trans (h9.mono GB.size)
    clear h9
    refine hK.out _ _ ⟨GB, K0, K1⟩ (fun hS => ?_)
    clear hK K
    refine wpAnyH_take (i := 26) (v := .bool false) rfl (by kernel_rfl) (by kernel_rfl) (by kernel_rfl) (fun _ _ _ h => h) (Or.inl ⟨by kernel_rfl, fun u hSw => (by go_simp)⟩) hS ?_
    change wpAnyH _ _ _ _ _ _ _ (Act.put _ (some 62) _) _
    simp only [Act.put]
    try simp only [List.setIfInBounds_toArray, List.set_cons_zero, List.set_cons_succ]
    refine wpAnyH_take (i := 27) (v := .bool false) rfl (by kernel_rfl) (by kernel_rfl) (by kernel_rfl) (fun _ _ _ h => h) (Or.inl ⟨by kernel_rfl, fun u hSw => (by go_simp)⟩) hS ?_
    change wpAnyH _ _ _ _ _ _ _ (Act.put _ (some 63) _) _
    simp only [Act.put]
    try simp only [List.setIfInBounds_toArray, List.set_cons_zero, List.set_cons_succ]
    refine wpAnyH_done (by kernel_rfl) ?_ _
    clear hS
    have zK00 := K0.cell 0
    have zK01 := K0.cell 1
    go_wp2_with fail
    clear zK00 zK01
    have HBASE := Lib.hid (And.intro K0 (And.intro K1 (And.intro K2 (And.intro GB (And.intro (hG.below GB) (Nat.le_refl w4.heap.size))))))
    clear K0 K1 K2 GB
    obtain ⟨i0, hi0, hz0, hz1, hz2⟩ := info_parts9 int_info
    go_loopw [9, 67] (fun sv iv wr => ∃ (k : Nat) (A3 : Option Addr) (m3 c3 : Nat), k ≤ n ∧ sv = .slice A3 m3 c3 ∧ iv = .int .i64 (k : Int) ∧ Hid (wr.ownsRow w4.heap.size 3 1 (.slice A3 m3 c3) m3 (vs (hereL now p q (ts.take k)))) ∧ Below w4.heap.size w4 wr) (fun _ iv _ => n - (intOf iv).toNat)
    case atStart => exact ⟨0, none, 0, 0, Nat.zero_le _, rfl, rfl, Lib.hid (World.ownsRow_nil _ _ _ _), Below.refl _ _⟩
    case round =>
      obtain ⟨k, A3, m3, c3, hk, rfl, rfl, HO, HB⟩ := hrel
      have hm3 : m3 ≤ n := by
        have h1 := iown_len HO.out
        have h2 := here_len now p q (ts.take k)
        rw [List.length_take] at h2
        omega
      by_cases hlt : k < n
      · obtain ⟨⟨a, b⟩, hx⟩ := elem_at (l := ts) (k := k) (by rw [HL.out]; exact hlt)
        obtain ⟨ad, rfl, hb, q0, q1⟩ := tm_at (HBASE.out.2.2.2.2.1.below HB).row hx
        have HPx := Lib.hid (fun (u : World) (h : Below w.heap.size w u) => HPl.out k a b u hx h)
        have HPr := Lib.hid (fun (u : World) => HPd.out a b u (List.mem_of_getElem? hx))
        have HST := Lib.hid (here_step now p q hx)
        obtain ⟨f1, f2, hf⟩ : ∃ x y, spotT now b = (x, y) := ⟨_, _, rfl⟩
        rw [hf] at HPx HPr HST
        dsimp only at HPx HPr HST
        have g1 : (f1 != f1) = false := by simp
        have g2 : (f2 != f2) = false := by simp
        have j0 : (0 : Int) ≤ (k : Int) := by omega
        have j1 : (k : Int) < (n : Int) := by omega
        have l1 : decide ((k : Int) < (n : Int)) = true := decide_eq_true j1
        have GBW := HBASE.out.2.2.2.1.trans (HB.mono HBASE.out.2.2.2.1.size)
        have K0 := HBASE.out.1.below HB HBASE.out.1.lt
        have K2 := HBASE.out.2.2.1.below HB HBASE.out.2.2.1.lt
        have KB := Blk.new wr 44 #[.int .i64 a, .int .i64 b]
        replace K0 := K0.alloc (.cells #[.int .i64 a, .int .i64 b] 44)
        replace K2 := K2.alloc (.cells #[.int .i64 a, .int .i64 b] 44)
        have HB1 := HB.alloc HB.size (.cells #[.int .i64 a, .int .i64 b] 44)
        replace GBW := GBW.alloc GBW.size (.cells #[.int .i64 a, .int .i64 b] 44)
        have O1 := HO.out.alloc (.cells #[.int .i64 a, .int .i64 b] 44)
        have x0 := K0.cell 0
        have x1 := K0.cell 1
        have y0 := KB.cell 0
        have y1 := KB.cell 1
        have m9 : m3 ≤ 1000 := by have := HN9.out; omega
        clear hx hb HB HO hf hm3
        go_wp2_with fail
        refine (HPx.out _ GBW).mono ?_
        rintro e v1 ⟨rfl, h9⟩
        replace HB1 := HB1.trans (h9.mono HB1.size)
        replace K0 := K0.below h9 K0.lt
        replace K2 := K2.below h9 K2.lt
        replace KB := KB.below h9 KB.lt
        replace O1 := own_below O1 h9
        clear h9 GBW HPx x0 x1 y0 y1 q0 q1
        have x0 := K0.cell 0
        have x1 := K0.cell 1
        have y0 := KB.cell 0
        have y1 := KB.cell 1
        go_wp2_with fail
        refine (HPr.out _).mono ?_
        rintro e v2 ⟨rfl, rfl⟩
        have w0 := K2.cell 0
        have w1 := K2.cell 1
        by_cases hp : f1 = p
        · have g3 : (f1 == p) = true := by simpa using hp
          by_cases hq : f2 = q
          · have g4 : (f2 == q) = true := by simpa using hq
            have HS9 : Hid (hereL now p q (ts.take k) ++ [a] = hereL now p q (ts.take (k + 1))) := Lib.hid (by rw [HST.out, if_pos ⟨hp, hq⟩])
            clear hp hq HST
            go_wp2_with (
              at_builtin
              refine wpList_append_any _ rfl (.tmp 120) (.tmp 123) 53 rfl w4.heap.size 3 i0 (.int .i64 0) 1 8 Try.underlying53 hi0 hz0 hz1 hz2 rfl (by decide) (.slice A3 m3 c3) m3 (vs (hereL now p q (ts.take k))) rfl (O1.alloc (.cells #[.int .i64 a] 3)) _ (some ⟨v1.heap.size, 0, none⟩) 1 1 (vs [a]) rfl (reads_int1 v1 3 a rfl) (vs_ones _) (by simp only [maxLen]; omega) (by omega) (Nat.le_trans HB1.size (by simp)) ?_
              intro vv9 w9 own9 grow9 hw9
              rw [← vs_append, HS9.out] at own9
              have HB9 := (HB1.alloc HB1.size (.cells #[.int .i64 a] 3)).grown grow9 (Nat.le_trans HB1.size (by simp)) (fun g hg => (O1.lt g hg).1)
              obtain ⟨A9, c9, rfl, _, _⟩ := own_reads own9
              have HT := Lib.hid (And.intro own9 HB9)
              clear own9 grow9 hw9 HB9)
            have HO9 := Lib.hid HT.out.1
            have HB9 := HT.out.2
            clear O1 HT KB K0 K2 x0 x1 y0 y1 w0 w1
            go_roundw
            case rel => exact ⟨k + 1, A9, m3 + 1, c9, by omega, rfl, by go_num, HO9, HB9⟩
            case measure => simp [intOf] <;> omega
          · have g4 : (f2 == q) = false := by simpa using hq
            skip
            have HS9 : Hid (hereL now p q (ts.take (k + 1)) = hereL now p q (ts.take k)) := Lib.hid (by rw [HST.out, if_neg (fun h => hq h.2), List.append_nil])
            have HO9 := Lib.hid O1
            rw [← HS9.out] at HO9
            clear HST HS9 O1
            go_wp2_with fail
            clear KB K0 K2 x0 x1 y0 y1 w0 w1
            go_roundw
            case rel => exact ⟨k + 1, A3, m3, c3, by omega, rfl, by go_num, HO9, HB1⟩
            case measure => simp [intOf] <;> omega
        · have g3 : (f1 == p) = false := by simpa using hp
          · skip
            have HS9 : Hid (hereL now p q (ts.take (k + 1)) = hereL now p q (ts.take k)) := Lib.hid (by rw [HST.out, if_neg (fun h => hp h.1), List.append_nil])
            have HO9 := Lib.hid O1
            rw [← HS9.out] at HO9
            clear HST HS9 O1
            go_wp2_with fail
            clear KB K0 K2 x0 x1 y0 y1 w0 w1
            go_roundw
            case rel => exact ⟨k + 1, A3, m3, c3, by omega, rfl, by go_num, HO9, HB1⟩
            case measure => simp [intOf] <;> omega
      · obtain rfl : k = n := by omega
        have l1 : decide ((k : Int) < (k : Int)) = false := decide_eq_false (by omega)
        have e1t : ts.take k = ts := by rw [← HL.out]; exact List.take_length
        rw [e1t, HH.out] at HO
        have K0 := HBASE.out.1.below HB HBASE.out.1.lt
        have K1 := HBASE.out.2.1.below HB HBASE.out.2.1.lt
        have K2 := HBASE.out.2.2.1.below HB HBASE.out.2.2.1.lt
        have GB := HBASE.out.2.2.2.1.trans (HB.mono HBASE.out.2.2.2.1.size)
        have HI : Hid (IR wr A3 m3 H) := Lib.hid ⟨Reads.of_own HO.out, by have := HN9.out; omega⟩
        clear HB HBASE HO e1t hm3
        have zK00 := K0.cell 0
        have zK01 := K0.cell 1
        have zK20 := K2.cell 0
        have zK21 := K2.cell 1
        go_wp2_with fail
        refine (HSl.out _ GB).mono ?_
        rintro e v1 ⟨A9, n9, c9, rfl, hl9, O9, h9⟩
        obtain rfl : n9 = m3 := hl9.symm.trans HI.out.len
        have HI2 := Lib.hid (HI.out.below h9)
        have HI9 : Hid (IR v1 A9 n9 H) := Lib.hid ⟨Reads.of_own O9, HI.out.small⟩
        replace GB := GB.trans (h9.mono GB.size)
        clear h9 hl9 O9 zK00 zK01 zK20 zK21 K0 K1 K2 HI
        have e5 : ((n9 : Int) != (n9 : Int)) = false := by simp
        go_wp2_with fail
        go_loopw [139] (fun iv wr => ∃ k : Nat, k ≤ n9 ∧ iv = .int .i64 (k : Int) ∧ Below v1.heap.size v1 wr) (fun iv _ => n9 - (intOf iv).toNat)
        case atStart => exact ⟨0, Nat.zero_le _, rfl, Below.refl _ _⟩
        case round =>
          obtain ⟨k, hk, rfl, hB⟩ := hrel
          by_cases hlt : k < n9
          · obtain ⟨x, hx⟩ := elem_at (l := H) (k := k) (by rw [HI9.out.len]; exact hlt)
            obtain ⟨ad, rfl, hb1, d0⟩ := (HI9.out.below hB).at_ hx
            obtain ⟨ad', rfl, hb2, d1⟩ := (HI2.out.below hB).at_ hx
            have i1 : (0 : Int) ≤ (k : Int) := by omega
            have i2 : (k : Int) < (n9 : Int) := by omega
            have l1 : decide ((k : Int) < (n9 : Int)) = true := decide_eq_true i2
            have y1 : (x != x) = false := by simp
            have n9s : n9 ≤ 1000 := HI9.out.small
            clear hb1 hb2 hx
            go_wp2_with fail
            go_quiet (fail)
            go_wp2
            go_roundw
            case rel => exact ⟨k + 1, by omega, by go_num, below_drewN hB _⟩
            case measure => simp [intOf] <;> omega
          · obtain rfl : k = n9 := by omega
            have l1 : decide ((k : Int) < (k : Int)) = false := decide_eq_false (by omega)
            have GB9 := GB.trans (hB.mono GB.size)
            go_wp2
            go_ret
            exact ⟨rfl, GB9⟩

end Go.Proofs.Ytbhcpkmofnfjgaa
