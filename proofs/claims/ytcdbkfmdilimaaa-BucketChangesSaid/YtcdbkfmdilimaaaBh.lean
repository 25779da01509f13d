/-
  BucketChanges' walk. No statement is proved here.
-/
import Derived.Test.YtcdbkfmdilimaaaBf
namespace Go.Proofs.Ytcdbkfmdilimaaa
open Go.RowKit

theorem newV_eq (p : Int) : newV p = if capB p = true then ((p, p * 100000000), 0) else ((0, 0), 2) := rfl
theorem rch_new {p : Int} (h : capB p = true) : rchangeV 0 0 p = (p, p * 100000000) := by
  have hp : 0 ≤ p ∧ p ≤ 800 := of_decide_eq_true h
  unfold rchangeV
  by_cases h0 : p = 0
  · rw [if_pos h0, h0]; rfl
  · rw [if_neg h0, if_neg (fun q => absurd q.1 (by decide)), w64 (by omega) (by omega)]
theorem rch_any {c t p : Int} (hr : rightB c t = true) (h : capB p = true) : changeV c t p = (rchangeV c t p, 0) := by
  have hp : 0 ≤ p ∧ p ≤ 800 := of_decide_eq_true h
  have hR := right_of hr
  unfold changeV rchangeV
  rw [hr, if_pos rfl, h, if_pos rfl, w64 (n := p * 100000000) (by omega) (by omega)]
  by_cases h0 : p = 0
  · rw [if_pos (.inr h0), if_pos h0, h0]; rfl
  · rw [if_neg h0]
    by_cases hc : c = 0
    · rw [if_pos (.inl hc), if_neg (fun q => by omega)]
    · rw [if_neg (fun q => by omega)]
      unfold minT
      by_cases ht : t < p * 100000000
      · rw [if_pos ht, if_pos ⟨by omega, ht⟩]
      · rw [if_neg ht, if_neg (fun q => ht q.2)]

set_option maxRecDepth 100000 in
set_option maxHeartbeats 16000000 in
theorem changes_walk (c t p d g n : Int) (w : World) : Calls Try.prog 5 #[.agg #[.int .i64 c, .int .i64 t], .int .i64 p, .agg #[.int .i64 d, .int .i64 g, .int .i64 n]] w (Said (.bool true) w) := by
  obtain ⟨K0, K5, GB⟩ := blks2 w 23 36 #[.int .i64 c, .int .i64 t] #[.int .i64 d, .int .i64 g, .int .i64 n]
  have HK := Lib.hid (fun u => wakes_any u)
  have HN := Lib.hid (fun u => new_any p u)
  have HC := Lib.hid (fun u => change_any c t p u)
  have HR := Lib.hid (fun u => rright_any c t u)
  have HrD := Lib.hid (fun u => rdepth_any p u)
  have HB := Lib.hid (fun u => bound_any p d g n u)
  unfold bkE at HN HC
  obtain ⟨q, hq⟩ : ∃ q, boundB p d g n = q := ⟨_, rfl⟩
  have HQ : Hid (decide (1 ≤ p ∧ p ≤ 800 ∧ 0 ≤ d ∧ d ≤ 1125899906842624 ∧ 0 ≤ g ∧ g ≤ 10000000 ∧ 0 ≤ n ∧ n ≤ 8) = q) := Lib.hid hq
  obtain ⟨⟨W, G⟩, hW⟩ : ∃ x, boundV p d g n = x := ⟨_, rfl⟩
  rw [hW] at HB
  obtain ⟨M, hM⟩ : ∃ M, wrap64 (p * 100000000) = M := ⟨_, rfl⟩
  have HW : Hid ((q = true → G = 0 ∧ (W == wrap64 (wrap64 (wrap64 (p * d) + M) + wrap64 (wrap64 (100 * n) * g))) = true) ∧ (q = false → W = 0 ∧ G = 2)) := Lib.hid (by
    unfold boundV at hW
    rw [hq] at hW
    constructor
    · intro h
      rw [h, if_pos rfl] at hW
      have hb := of_decide_eq_true (hq.trans h)
      have q1 := Prod.mk.inj hW
      have m1 := mul_in (a := p) (b := d) (A := 800) (B := 1125899906842624) (by omega) (by omega) (by omega) (by omega)
      have m2 := mul_in (a := 100 * n) (b := g) (A := 800) (B := 10000000) (by omega) (by omega) (by omega) (by omega)
      refine ⟨q1.2.symm, ?_⟩
      rw [← hM, w64 (n := p * d) (by omega) (by omega), w64 (n := p * 100000000) (by omega) (by omega), w64 (n := 100 * n) (by omega) (by omega), w64 (n := 100 * n * g) (by omega) (by omega), w64 (n := p * d + p * 100000000) (by omega) (by omega), w64 (by omega) (by omega), ← q1.1]
      simp
    · intro h
      rw [h, if_neg (by simp)] at hW
      have q1 := Prod.mk.inj hW
      exact ⟨q1.1.symm, q1.2.symm⟩)
  rw [hM] at HrD
  clear hq hW hM
  obtain ⟨k, hk⟩ : ∃ k, capB p = k := ⟨_, rfl⟩
  obtain ⟨r, hr⟩ : ∃ r, rightB c t = r := ⟨_, rfl⟩
  obtain ⟨m, hm⟩ : ∃ m, p * 100000000 = m := ⟨_, rfl⟩
  have HKk : Hid (decide (0 ≤ p ∧ p ≤ 800) = k) := Lib.hid hk
  obtain ⟨⟨⟨na, nb⟩, ne⟩, hN⟩ : ∃ x, newV p = x := ⟨_, rfl⟩
  obtain ⟨⟨⟨a, b⟩, E⟩, hC⟩ : ∃ x, changeV c t p = x := ⟨_, rfl⟩
  have HSk : Hid ((k = true → p = na ∧ m = nb ∧ 0 = ne) ∧ (k = false → 0 = na ∧ 0 = nb ∧ 2 = ne)) := Lib.hid (by
    unfold newV at hN
    rw [hk, hm] at hN
    constructor
    · intro h
      rw [h, if_pos rfl] at hN
      simpa [and_assoc] using hN
    · intro h
      rw [h, if_neg (by simp)] at hN
      simpa [and_assoc] using hN)
  have HSN : Hid (k = true → ∀ u, Calls Try.prog 21 #[.agg #[.int .i64 0, .int .i64 0], .int .i64 p] u (Said (.agg #[.int .i64 p, .int .i64 m]) u)) := Lib.hid (fun h u => by
    have q := rchange_any 0 0 p u
    rw [rch_new (hk.trans h), hm] at q
    exact q)
  have HSC : Hid (r = true → k = true → ∀ u, Calls Try.prog 21 #[.agg #[.int .i64 c, .int .i64 t], .int .i64 p] u (Said (.agg #[.int .i64 a, .int .i64 b]) u)) := Lib.hid (fun h h2 u => by
    have q := rchange_any c t p u
    have e := rch_any (hr.trans h) (hk.trans h2)
    rw [hC] at e
    rw [← (Prod.mk.inj e).1] at q
    exact q)
  have HSr : Hid ((r = false → 0 = a ∧ 0 = b ∧ 210 = E) ∧ (r = true → k = false → 0 = a ∧ 0 = b ∧ 2 = E) ∧ (r = true → k = true → 0 = E)) := Lib.hid (by
    refine ⟨fun h => ?_, fun h h2 => ?_, fun h h2 => ?_⟩
    · unfold changeV at hC
      rw [hr, h, if_neg (by simp)] at hC
      simpa [and_assoc] using hC
    · unfold changeV at hC
      rw [hr, h, if_pos rfl, hk, h2, if_neg (by simp)] at hC
      simpa [and_assoc] using hC
    · have e := rch_any (hr.trans h) (hk.trans h2)
      rw [hC] at e
      exact (Prod.mk.inj e).2.symm)
  rw [hN] at HN
  rw [hC] at HC
  rw [hr] at HR
  clear hk hr hm hN hC
  have x5 : (p == p) = true := by simp
  have v0 : ((0 : Int) == 0) = true := by rfl
  have x3 : (m == m) = true := by simp
  have x4 : (m != m) = false := by simp
  have x6 : (a == a) = true := by simp
  have x7 : (b == b) = true := by simp
  go_enter Try.func5, Try.ntmps5
  go_wp2_with fail
  refine (HK.out _).mono ?_
  rintro e w1 ⟨rfl, h9⟩
  replace K0 := K0.below h9 K0.lt
  replace K5 := K5.below h9 K5.lt
  replace GB := GB.trans (h9.mono GB.size)
  clear h9
  go_upto_region 3 with fail
  go_cut [7] (fun s X => s = .bool k ∧ Blk X w.heap.size 23 #[.int .i64 c, .int .i64 t] ∧ Blk X (w.heap.size + 1) 36 #[.int .i64 d, .int .i64 g, .int .i64 n] ∧ Below w.heap.size w X)
  case first =>
    have hk := HKk.out
    by_cases h0 : 0 ≤ p
    · have a0 : decide (0 ≤ p) = true := decide_eq_true h0
      by_cases h1 : p ≤ 800
      · have a1 : decide (p ≤ 800) = true := decide_eq_true h1
        obtain rfl : true = k := by rw [← hk]; exact (decide_eq_true ⟨h0, h1⟩).symm
        clear h0 h1 hk
        go_wp2_with fail
        go_meet
        exact ⟨rfl, K0, K5, GB⟩
      · have a1 : decide (p ≤ 800) = false := decide_eq_false h1
        obtain rfl : false = k := by rw [← hk]; exact (decide_eq_false (fun q => h1 q.2)).symm
        clear h0 h1 hk
        go_wp2_with fail
        go_meet
        exact ⟨rfl, K0, K5, GB⟩
    · have a0 : decide (0 ≤ p) = false := decide_eq_false h0
      obtain rfl : false = k := by rw [← hk]; exact (decide_eq_false (fun q => h0 q.1)).symm
      clear h0 hk
      go_wp2_with fail
      go_meet
      exact ⟨rfl, K0, K5, GB⟩
  case rest =>
    clear K0 K5 GB
    obtain ⟨rfl, K0, K5, GB⟩ := hcut
    rename World => X3
    go_wp2_with fail
    refine (HN.out _).mono ?_
    rintro e w2 ⟨rfl, h9⟩
    replace K0 := K0.below h9 K0.lt
    replace K5 := K5.below h9 K5.lt
    replace GB := GB.trans (h9.mono GB.size)
    clear h9
    have K8 := Blk.new w2 23 #[.int .i64 na, .int .i64 nb]
    replace K0 := K0.alloc (.cells #[.int .i64 na, .int .i64 nb] 23)
    replace K5 := K5.alloc (.cells #[.int .i64 na, .int .i64 nb] 23)
    replace GB := GB.alloc GB.size (.cells #[.int .i64 na, .int .i64 nb] 23)
    have zK00 := K0.cell 0
    have zK01 := K0.cell 1
    go_wp2_with fail
    refine (HC.out _).mono ?_
    rintro e w3 ⟨rfl, h9⟩
    clear zK00 zK01
    replace K0 := K0.below h9 K0.lt
    replace K5 := K5.below h9 K5.lt
    replace K8 := K8.below h9 K8.lt
    replace GB := GB.trans (h9.mono GB.size)
    clear h9
    have K10 := Blk.new w3 23 #[.int .i64 a, .int .i64 b]
    replace K0 := K0.alloc (.cells #[.int .i64 a, .int .i64 b] 23)
    replace K5 := K5.alloc (.cells #[.int .i64 a, .int .i64 b] 23)
    replace K8 := K8.alloc (.cells #[.int .i64 a, .int .i64 b] 23)
    replace GB := GB.alloc GB.size (.cells #[.int .i64 a, .int .i64 b] 23)
    go_upto_region 6 with fail
    obtain ⟨g8, hg8⟩ : ∃ j, w2.heap.size = j := ⟨_, rfl⟩
    obtain ⟨g10, hg10⟩ : ∃ j, w3.heap.size = j := ⟨_, rfl⟩
    rw [hg8] at K8 ⊢
    rw [hg10] at K10 ⊢
    clear hg8 hg10
    generalize w3.alloc (.cells #[.int .i64 a, .int .i64 b] 23) = X at K0 K5 K8 K10 GB ⊢
    go_cut [59] (fun s X => s = .bool false ∧ Blk X w.heap.size 23 #[.int .i64 c, .int .i64 t] ∧ Blk X (w.heap.size + 1) 36 #[.int .i64 d, .int .i64 g, .int .i64 n] ∧ Blk X g8 23 #[.int .i64 na, .int .i64 nb] ∧ Blk X g10 23 #[.int .i64 a, .int .i64 b] ∧ Below w.heap.size w X)
    case first =>
      cases k with
      | true =>
        obtain ⟨rfl, rfl, rfl⟩ := HSk.out.1 rfl
        have HrN := Lib.hid (HSN.out rfl)
        replace K0 : Blk X.drew _ _ _ := K0
        replace K5 : Blk X.drew _ _ _ := K5
        replace K8 : Blk X.drew _ _ _ := K8
        replace K10 : Blk X.drew _ _ _ := K10
        replace GB := GB.drew
        refine wp_region_held_drew (S := fun u => Below w.heap.size w u ∧ Blk u w.heap.size 23 #[.int .i64 c, .int .i64 t] ∧ Blk u (w.heap.size + 1) 36 #[.int .i64 d, .int .i64 g, .int .i64 n] ∧ Blk u g8 23 #[.int .i64 p, .int .i64 m] ∧ Blk u g10 23 #[.int .i64 a, .int .i64 b]) (by kernel_rfl) ⟨GB, K0, K5, K8, K10⟩ (fun hS => ?_)
        generalize X.drew = V at K0 K5 K8 K10 GB hS ⊢
        refine wpAnyH_take (i := 0) (v := .bool true) rfl (by kernel_rfl) (by kernel_rfl) (by kernel_rfl) (fun _ _ _ h => h) (Or.inl ⟨by kernel_rfl, fun u hSw => (by go_simp)⟩) hS ?_
        change wpAnyH _ _ _ _ _ _ _ (Act.put _ (some 33) _) _
        simp only [Act.put]
        try simp only [List.setIfInBounds_toArray, List.set_cons_zero, List.set_cons_succ]
        refine wpAnyH_take (i := 1) (v := .int .i64 0) rfl (by kernel_rfl) (by kernel_rfl) (by kernel_rfl) (fun _ _ _ h => h) (Or.inl ⟨by kernel_rfl, fun u hSw => (by go_simp)⟩) hS ?_
        change wpAnyH _ _ _ _ _ _ _ (Act.put _ (some 34) _) _
        simp only [Act.put]
        try simp only [List.setIfInBounds_toArray, List.set_cons_zero, List.set_cons_succ]
        refine wpAnyH_take (i := 2) (v := .bool true) rfl (by kernel_rfl) (by kernel_rfl) (by kernel_rfl) (fun _ _ _ h => h) (Or.inl ⟨by kernel_rfl, fun u hSw => (by go_simp)⟩) hS ?_
        change wpAnyH _ _ _ _ _ _ _ (Act.put _ (some 35) _) _
        simp only [Act.put]
        try simp only [List.setIfInBounds_toArray, List.set_cons_zero, List.set_cons_succ]
        refine wpAnyH_take (i := 3) (v := .bool false) rfl (by kernel_rfl) (by kernel_rfl) (by kernel_rfl) (fun _ _ _ h => h) (Or.inl ⟨by kernel_rfl, fun u hSw => (by go_simp)⟩) hS ?_
        change wpAnyH _ _ _ _ _ _ _ (Act.put _ (some 36) _) _
        simp only [Act.put]
        try simp only [List.setIfInBounds_toArray, List.set_cons_zero, List.set_cons_succ]
        refine wpAnyH_take (i := 4) (v := .bool false) rfl (by kernel_rfl) (by kernel_rfl) (by kernel_rfl) (fun _ _ _ h => h) (Or.inl ⟨by kernel_rfl, fun u hSw => (by go_simp)⟩) hS ?_
        change wpAnyH _ _ _ _ _ _ _ (Act.put _ (some 37) _) _
        simp only [Act.put]
        try simp only [List.setIfInBounds_toArray, List.set_cons_zero, List.set_cons_succ]
        refine wpAnyH_take (i := 5) (v := .bool true) rfl (by kernel_rfl) (by kernel_rfl) (by kernel_rfl) (fun _ _ _ h => h) (Or.inl ⟨by kernel_rfl, fun u hSw => (by go_simp)⟩) hS ?_
        change wpAnyH _ _ _ _ _ _ _ (Act.put _ (some 38) _) _
        simp only [Act.put]
        try simp only [List.setIfInBounds_toArray, List.set_cons_zero, List.set_cons_succ]
        refine wpAnyH_take (i := 6) (v := .bool true) rfl (by kernel_rfl) (by kernel_rfl) (by kernel_rfl) (fun _ _ _ h => h) (Or.inl ⟨by kernel_rfl, fun u hSw => (by go_simp)⟩) hS ?_
        change wpAnyH _ _ _ _ _ _ _ (Act.put _ (some 39) _) _
        simp only [Act.put]
        try simp only [List.setIfInBounds_toArray, List.set_cons_zero, List.set_cons_succ]
        refine wpAnyH_take (i := 7) (v := .agg #[.int .i64 p, .int .i64 m]) rfl (by kernel_rfl) (by kernel_rfl) (by kernel_rfl) (fun _ _ _ h => h) (Or.inl ⟨by kernel_rfl, fun u hSw => (by have q0 := hSw.2.2.2.1.cell 0; have q1 := hSw.2.2.2.1.cell 1; go_simp)⟩) hS ?_
        change wpAnyH _ _ _ _ _ _ _ (Act.put _ (some 40) _) _
        simp only [Act.put]
        try simp only [List.setIfInBounds_toArray, List.set_cons_zero, List.set_cons_succ]
        refine wpAnyH_take (i := 8) (v := .agg #[.int .i64 0, .int .i64 0]) rfl (by kernel_rfl) (by kernel_rfl) (by kernel_rfl) (fun _ _ _ h => h) (Or.inl ⟨by kernel_rfl, fun u hSw => (by go_simp)⟩) hS ?_
        change wpAnyH _ _ _ _ _ _ _ (Act.put _ (some 41) _) _
        simp only [Act.put]
        try simp only [List.setIfInBounds_toArray, List.set_cons_zero, List.set_cons_succ]
        refine wpAnyH_take (i := 9) (v := .int .i64 p) rfl (by kernel_rfl) (by kernel_rfl) (by kernel_rfl) (fun _ _ _ h => h) (Or.inl ⟨by kernel_rfl, fun u hSw => (by go_simp)⟩) hS ?_
        change wpAnyH _ _ _ _ _ _ _ (Act.put _ (some 42) _) _
        simp only [Act.put]
        try simp only [List.setIfInBounds_toArray, List.set_cons_zero, List.set_cons_succ]
        refine wpAnyH_ready (rs := [10]) (by kernel_rfl) (by simp) ?_
        refine AllReadyH.cons rfl (fun K hK => ?_) AllReadyH.nil
        go_simp
        refine (HrN.out _).mono ?_
        rintro e1 w1 ⟨rfl, h9⟩
        replace K0 := K0.below h9 K0.lt
        replace K5 := K5.below h9 K5.lt
        replace K8 := K8.below h9 K8.lt
        replace K10 := K10.below h9 K10.lt
        replace GB := GB.trans (h9.mono GB.size)
        clear h9
        refine hK.out _ _ ⟨GB, K0, K5, K8, K10⟩ (fun hS => ?_)
        clear hK K
        refine wpAnyH_take (i := 11) (v := .bool false) rfl (by kernel_rfl) (by kernel_rfl) (by kernel_rfl) (fun _ _ _ h => h) (Or.inl ⟨by kernel_rfl, fun u hSw => (by go_simp)⟩) hS ?_
        change wpAnyH _ _ _ _ _ _ _ (Act.put _ (some 44) _) _
        simp only [Act.put]
        try simp only [List.setIfInBounds_toArray, List.set_cons_zero, List.set_cons_succ]
        refine wpAnyH_take (i := 12) (v := .bool false) rfl (by kernel_rfl) (by kernel_rfl) (by kernel_rfl) (fun _ _ _ h => h) (Or.inl ⟨by kernel_rfl, fun u hSw => (by go_simp)⟩) hS ?_
        change wpAnyH _ _ _ _ _ _ _ (Act.put _ (some 45) _) _
        simp only [Act.put]
        try simp only [List.setIfInBounds_toArray, List.set_cons_zero, List.set_cons_succ]
        refine wpAnyH_take (i := 13) (v := .bool false) rfl (by kernel_rfl) (by kernel_rfl) (by kernel_rfl) (fun _ _ _ h => h) (Or.inl ⟨by kernel_rfl, fun u hSw => (by go_simp)⟩) hS ?_
        change wpAnyH _ _ _ _ _ _ _ (Act.put _ (some 46) _) _
        simp only [Act.put]
        try simp only [List.setIfInBounds_toArray, List.set_cons_zero, List.set_cons_succ]
        refine wpAnyH_take (i := 14) (v := .bool false) rfl (by kernel_rfl) (by kernel_rfl) (by kernel_rfl) (fun _ _ _ h => h) (Or.inl ⟨by kernel_rfl, fun u hSw => (by go_simp)⟩) hS ?_
        change wpAnyH _ _ _ _ _ _ _ (Act.put _ (some 47) _) _
        simp only [Act.put]
        try simp only [List.setIfInBounds_toArray, List.set_cons_zero, List.set_cons_succ]
        refine wpAnyH_take (i := 15) (v := .bool true) rfl (by kernel_rfl) (by kernel_rfl) (by kernel_rfl) (fun _ _ _ h => h) (Or.inl ⟨by kernel_rfl, fun u hSw => (by go_simp)⟩) hS ?_
        change wpAnyH _ _ _ _ _ _ _ (Act.put _ (some 48) _) _
        simp only [Act.put]
        try simp only [List.setIfInBounds_toArray, List.set_cons_zero, List.set_cons_succ]
        refine wpAnyH_take (i := 16) (v := .bool false) rfl (by kernel_rfl) (by kernel_rfl) (by kernel_rfl) (fun _ _ _ h => h) (Or.inl ⟨by kernel_rfl, fun u hSw => (by go_simp)⟩) hS ?_
        change wpAnyH _ _ _ _ _ _ _ (Act.put _ (some 49) _) _
        simp only [Act.put]
        try simp only [List.setIfInBounds_toArray, List.set_cons_zero, List.set_cons_succ]
        refine wpAnyH_take (i := 17) (v := .bool false) rfl (by kernel_rfl) (by kernel_rfl) (by kernel_rfl) (fun _ _ _ h => h) (Or.inl ⟨by kernel_rfl, fun u hSw => (by go_simp)⟩) hS ?_
        change wpAnyH _ _ _ _ _ _ _ (Act.put _ (some 50) _) _
        simp only [Act.put]
        try simp only [List.setIfInBounds_toArray, List.set_cons_zero, List.set_cons_succ]
        refine wpAnyH_take (i := 18) (v := undef) rfl (by kernel_rfl) (by kernel_rfl) (by kernel_rfl) (fun _ _ _ h => h) (Or.inr ⟨by kernel_rfl, rfl⟩) hS ?_
        change wpAnyH _ _ _ _ _ _ _ (Act.put _ (some 51) _) _
        simp only [Act.put]
        try simp only [List.setIfInBounds_toArray, List.set_cons_zero, List.set_cons_succ]
        refine wpAnyH_take (i := 19) (v := undef) rfl (by kernel_rfl) (by kernel_rfl) (by kernel_rfl) (fun _ _ _ h => h) (Or.inr ⟨by kernel_rfl, rfl⟩) hS ?_
        change wpAnyH _ _ _ _ _ _ _ (Act.put _ (some 52) _) _
        simp only [Act.put]
        try simp only [List.setIfInBounds_toArray, List.set_cons_zero, List.set_cons_succ]
        refine wpAnyH_take (i := 20) (v := undef) rfl (by kernel_rfl) (by kernel_rfl) (by kernel_rfl) (fun _ _ _ h => h) (Or.inr ⟨by kernel_rfl, rfl⟩) hS ?_
        change wpAnyH _ _ _ _ _ _ _ (Act.put _ (some 53) _) _
        simp only [Act.put]
        try simp only [List.setIfInBounds_toArray, List.set_cons_zero, List.set_cons_succ]
        refine wpAnyH_take (i := 21) (v := undef) rfl (by kernel_rfl) (by kernel_rfl) (by kernel_rfl) (fun _ _ _ h => h) (Or.inr ⟨by kernel_rfl, rfl⟩) hS ?_
        change wpAnyH _ _ _ _ _ _ _ (Act.put _ (some 54) _) _
        simp only [Act.put]
        try simp only [List.setIfInBounds_toArray, List.set_cons_zero, List.set_cons_succ]
        refine wpAnyH_take (i := 22) (v := undef) rfl (by kernel_rfl) (by kernel_rfl) (by kernel_rfl) (fun _ _ _ h => h) (Or.inr ⟨by kernel_rfl, rfl⟩) hS ?_
        change wpAnyH _ _ _ _ _ _ _ (Act.put _ (some 55) _) _
        simp only [Act.put]
        try simp only [List.setIfInBounds_toArray, List.set_cons_zero, List.set_cons_succ]
        refine wpAnyH_take (i := 23) (v := undef) rfl (by kernel_rfl) (by kernel_rfl) (by kernel_rfl) (fun _ _ _ h => h) (Or.inr ⟨by kernel_rfl, rfl⟩) hS ?_
        change wpAnyH _ _ _ _ _ _ _ (Act.put _ (some 56) _) _
        simp only [Act.put]
        try simp only [List.setIfInBounds_toArray, List.set_cons_zero, List.set_cons_succ]
        refine wpAnyH_take (i := 24) (v := undef) rfl (by kernel_rfl) (by kernel_rfl) (by kernel_rfl) (fun _ _ _ h => h) (Or.inr ⟨by kernel_rfl, rfl⟩) hS ?_
        change wpAnyH _ _ _ _ _ _ _ (Act.put _ (some 57) _) _
        simp only [Act.put]
        try simp only [List.setIfInBounds_toArray, List.set_cons_zero, List.set_cons_succ]
        refine wpAnyH_take (i := 25) (v := .bool false) rfl (by kernel_rfl) (by kernel_rfl) (by kernel_rfl) (fun _ _ _ h => h) (Or.inl ⟨by kernel_rfl, fun u hSw => (by go_simp)⟩) hS ?_
        change wpAnyH _ _ _ _ _ _ _ (Act.put _ (some 58) _) _
        simp only [Act.put]
        try simp only [List.setIfInBounds_toArray, List.set_cons_zero, List.set_cons_succ]
        refine wpAnyH_take (i := 26) (v := .bool false) rfl (by kernel_rfl) (by kernel_rfl) (by kernel_rfl) (fun _ _ _ h => h) (Or.inl ⟨by kernel_rfl, fun u hSw => (by go_simp)⟩) hS ?_
        change wpAnyH _ _ _ _ _ _ _ (Act.put _ (some 59) _) _
        simp only [Act.put]
        try simp only [List.setIfInBounds_toArray, List.set_cons_zero, List.set_cons_succ]
        refine wpAnyH_done (by kernel_rfl) ?_ _
        clear hS
        go_wp2_with fail
        go_meet
        exact ⟨rfl, K0, K5, K8, K10, GB⟩
      | false =>
        obtain ⟨rfl, rfl, rfl⟩ := HSk.out.2 rfl
        replace K0 : Blk X.drew _ _ _ := K0
        replace K5 : Blk X.drew _ _ _ := K5
        replace K8 : Blk X.drew _ _ _ := K8
        replace K10 : Blk X.drew _ _ _ := K10
        replace GB := GB.drew
        refine wp_region_held_drew (S := fun u => Below w.heap.size w u ∧ Blk u w.heap.size 23 #[.int .i64 c, .int .i64 t] ∧ Blk u (w.heap.size + 1) 36 #[.int .i64 d, .int .i64 g, .int .i64 n] ∧ Blk u g8 23 #[.int .i64 0, .int .i64 0] ∧ Blk u g10 23 #[.int .i64 a, .int .i64 b]) (by kernel_rfl) ⟨GB, K0, K5, K8, K10⟩ (fun hS => ?_)
        generalize X.drew = V at K0 K5 K8 K10 GB hS ⊢
        refine wpAnyH_take (i := 0) (v := .bool false) rfl (by kernel_rfl) (by kernel_rfl) (by kernel_rfl) (fun _ _ _ h => h) (Or.inl ⟨by kernel_rfl, fun u hSw => (by go_simp)⟩) hS ?_
        change wpAnyH _ _ _ _ _ _ _ (Act.put _ (some 33) _) _
        simp only [Act.put]
        try simp only [List.setIfInBounds_toArray, List.set_cons_zero, List.set_cons_succ]
        refine wpAnyH_take (i := 1) (v := .int .i64 2) rfl (by kernel_rfl) (by kernel_rfl) (by kernel_rfl) (fun _ _ _ h => h) (Or.inl ⟨by kernel_rfl, fun u hSw => (by go_simp)⟩) hS ?_
        change wpAnyH _ _ _ _ _ _ _ (Act.put _ (some 34) _) _
        simp only [Act.put]
        try simp only [List.setIfInBounds_toArray, List.set_cons_zero, List.set_cons_succ]
        refine wpAnyH_take (i := 2) (v := .bool false) rfl (by kernel_rfl) (by kernel_rfl) (by kernel_rfl) (fun _ _ _ h => h) (Or.inl ⟨by kernel_rfl, fun u hSw => (by go_simp)⟩) hS ?_
        change wpAnyH _ _ _ _ _ _ _ (Act.put _ (some 35) _) _
        simp only [Act.put]
        try simp only [List.setIfInBounds_toArray, List.set_cons_zero, List.set_cons_succ]
        refine wpAnyH_take (i := 3) (v := .bool false) rfl (by kernel_rfl) (by kernel_rfl) (by kernel_rfl) (fun _ _ _ h => h) (Or.inl ⟨by kernel_rfl, fun u hSw => (by go_simp)⟩) hS ?_
        change wpAnyH _ _ _ _ _ _ _ (Act.put _ (some 36) _) _
        simp only [Act.put]
        try simp only [List.setIfInBounds_toArray, List.set_cons_zero, List.set_cons_succ]
        refine wpAnyH_take (i := 4) (v := .bool false) rfl (by kernel_rfl) (by kernel_rfl) (by kernel_rfl) (fun _ _ _ h => h) (Or.inl ⟨by kernel_rfl, fun u hSw => (by go_simp)⟩) hS ?_
        change wpAnyH _ _ _ _ _ _ _ (Act.put _ (some 37) _) _
        simp only [Act.put]
        try simp only [List.setIfInBounds_toArray, List.set_cons_zero, List.set_cons_succ]
        refine wpAnyH_take (i := 5) (v := .bool false) rfl (by kernel_rfl) (by kernel_rfl) (by kernel_rfl) (fun _ _ _ h => h) (Or.inl ⟨by kernel_rfl, fun u hSw => (by go_simp)⟩) hS ?_
        change wpAnyH _ _ _ _ _ _ _ (Act.put _ (some 38) _) _
        simp only [Act.put]
        try simp only [List.setIfInBounds_toArray, List.set_cons_zero, List.set_cons_succ]
        refine wpAnyH_take (i := 6) (v := .bool false) rfl (by kernel_rfl) (by kernel_rfl) (by kernel_rfl) (fun _ _ _ h => h) (Or.inl ⟨by kernel_rfl, fun u hSw => (by go_simp)⟩) hS ?_
        change wpAnyH _ _ _ _ _ _ _ (Act.put _ (some 39) _) _
        simp only [Act.put]
        try simp only [List.setIfInBounds_toArray, List.set_cons_zero, List.set_cons_succ]
        refine wpAnyH_take (i := 7) (v := undef) rfl (by kernel_rfl) (by kernel_rfl) (by kernel_rfl) (fun _ _ _ h => h) (Or.inr ⟨by kernel_rfl, rfl⟩) hS ?_
        change wpAnyH _ _ _ _ _ _ _ (Act.put _ (some 40) _) _
        simp only [Act.put]
        try simp only [List.setIfInBounds_toArray, List.set_cons_zero, List.set_cons_succ]
        refine wpAnyH_take (i := 8) (v := undef) rfl (by kernel_rfl) (by kernel_rfl) (by kernel_rfl) (fun _ _ _ h => h) (Or.inr ⟨by kernel_rfl, rfl⟩) hS ?_
        change wpAnyH _ _ _ _ _ _ _ (Act.put _ (some 41) _) _
        simp only [Act.put]
        try simp only [List.setIfInBounds_toArray, List.set_cons_zero, List.set_cons_succ]
        refine wpAnyH_take (i := 9) (v := undef) rfl (by kernel_rfl) (by kernel_rfl) (by kernel_rfl) (fun _ _ _ h => h) (Or.inr ⟨by kernel_rfl, rfl⟩) hS ?_
        change wpAnyH _ _ _ _ _ _ _ (Act.put _ (some 42) _) _
        simp only [Act.put]
        try simp only [List.setIfInBounds_toArray, List.set_cons_zero, List.set_cons_succ]
        refine wpAnyH_take (i := 10) (v := undef) rfl (by kernel_rfl) (by kernel_rfl) (by kernel_rfl) (fun _ _ _ h => h) (Or.inr ⟨by kernel_rfl, rfl⟩) hS ?_
        change wpAnyH _ _ _ _ _ _ _ (Act.put _ (some 43) _) _
        simp only [Act.put]
        try simp only [List.setIfInBounds_toArray, List.set_cons_zero, List.set_cons_succ]
        refine wpAnyH_take (i := 11) (v := undef) rfl (by kernel_rfl) (by kernel_rfl) (by kernel_rfl) (fun _ _ _ h => h) (Or.inr ⟨by kernel_rfl, rfl⟩) hS ?_
        change wpAnyH _ _ _ _ _ _ _ (Act.put _ (some 44) _) _
        simp only [Act.put]
        try simp only [List.setIfInBounds_toArray, List.set_cons_zero, List.set_cons_succ]
        refine wpAnyH_take (i := 12) (v := .bool false) rfl (by kernel_rfl) (by kernel_rfl) (by kernel_rfl) (fun _ _ _ h => h) (Or.inl ⟨by kernel_rfl, fun u hSw => (by go_simp)⟩) hS ?_
        change wpAnyH _ _ _ _ _ _ _ (Act.put _ (some 45) _) _
        simp only [Act.put]
        try simp only [List.setIfInBounds_toArray, List.set_cons_zero, List.set_cons_succ]
        refine wpAnyH_take (i := 13) (v := .bool false) rfl (by kernel_rfl) (by kernel_rfl) (by kernel_rfl) (fun _ _ _ h => h) (Or.inl ⟨by kernel_rfl, fun u hSw => (by go_simp)⟩) hS ?_
        change wpAnyH _ _ _ _ _ _ _ (Act.put _ (some 46) _) _
        simp only [Act.put]
        try simp only [List.setIfInBounds_toArray, List.set_cons_zero, List.set_cons_succ]
        refine wpAnyH_take (i := 14) (v := .bool false) rfl (by kernel_rfl) (by kernel_rfl) (by kernel_rfl) (fun _ _ _ h => h) (Or.inl ⟨by kernel_rfl, fun u hSw => (by go_simp)⟩) hS ?_
        change wpAnyH _ _ _ _ _ _ _ (Act.put _ (some 47) _) _
        simp only [Act.put]
        try simp only [List.setIfInBounds_toArray, List.set_cons_zero, List.set_cons_succ]
        refine wpAnyH_take (i := 15) (v := .bool false) rfl (by kernel_rfl) (by kernel_rfl) (by kernel_rfl) (fun _ _ _ h => h) (Or.inl ⟨by kernel_rfl, fun u hSw => (by go_simp)⟩) hS ?_
        change wpAnyH _ _ _ _ _ _ _ (Act.put _ (some 48) _) _
        simp only [Act.put]
        try simp only [List.setIfInBounds_toArray, List.set_cons_zero, List.set_cons_succ]
        refine wpAnyH_take (i := 16) (v := .bool true) rfl (by kernel_rfl) (by kernel_rfl) (by kernel_rfl) (fun _ _ _ h => h) (Or.inl ⟨by kernel_rfl, fun u hSw => (by go_simp)⟩) hS ?_
        change wpAnyH _ _ _ _ _ _ _ (Act.put _ (some 49) _) _
        simp only [Act.put]
        try simp only [List.setIfInBounds_toArray, List.set_cons_zero, List.set_cons_succ]
        refine wpAnyH_take (i := 17) (v := .bool true) rfl (by kernel_rfl) (by kernel_rfl) (by kernel_rfl) (fun _ _ _ h => h) (Or.inl ⟨by kernel_rfl, fun u hSw => (by go_simp)⟩) hS ?_
        change wpAnyH _ _ _ _ _ _ _ (Act.put _ (some 50) _) _
        simp only [Act.put]
        try simp only [List.setIfInBounds_toArray, List.set_cons_zero, List.set_cons_succ]
        refine wpAnyH_take (i := 18) (v := .agg #[.int .i64 0, .int .i64 0]) rfl (by kernel_rfl) (by kernel_rfl) (by kernel_rfl) (fun _ _ _ h => h) (Or.inl ⟨by kernel_rfl, fun u hSw => (by have q0 := hSw.2.2.2.1.cell 0; have q1 := hSw.2.2.2.1.cell 1; go_simp)⟩) hS ?_
        change wpAnyH _ _ _ _ _ _ _ (Act.put _ (some 51) _) _
        simp only [Act.put]
        try simp only [List.setIfInBounds_toArray, List.set_cons_zero, List.set_cons_succ]
        refine wpAnyH_take (i := 19) (v := .agg #[.int .i64 0, .int .i64 0]) rfl (by kernel_rfl) (by kernel_rfl) (by kernel_rfl) (fun _ _ _ h => h) (Or.inl ⟨by kernel_rfl, fun u hSw => (by go_simp)⟩) hS ?_
        change wpAnyH _ _ _ _ _ _ _ (Act.put _ (some 52) _) _
        simp only [Act.put]
        try simp only [List.setIfInBounds_toArray, List.set_cons_zero, List.set_cons_succ]
        refine wpAnyH_take (i := 20) (v := .bool false) rfl (by kernel_rfl) (by kernel_rfl) (by kernel_rfl) (fun _ _ _ h => h) (Or.inl ⟨by kernel_rfl, fun u hSw => (by go_simp)⟩) hS ?_
        change wpAnyH _ _ _ _ _ _ _ (Act.put _ (some 53) _) _
        simp only [Act.put]
        try simp only [List.setIfInBounds_toArray, List.set_cons_zero, List.set_cons_succ]
        refine wpAnyH_take (i := 21) (v := .bool false) rfl (by kernel_rfl) (by kernel_rfl) (by kernel_rfl) (fun _ _ _ h => h) (Or.inl ⟨by kernel_rfl, fun u hSw => (by go_simp)⟩) hS ?_
        change wpAnyH _ _ _ _ _ _ _ (Act.put _ (some 54) _) _
        simp only [Act.put]
        try simp only [List.setIfInBounds_toArray, List.set_cons_zero, List.set_cons_succ]
        refine wpAnyH_take (i := 22) (v := .int .i64 2) rfl (by kernel_rfl) (by kernel_rfl) (by kernel_rfl) (fun _ _ _ h => h) (Or.inl ⟨by kernel_rfl, fun u hSw => (by go_simp)⟩) hS ?_
        change wpAnyH _ _ _ _ _ _ _ (Act.put _ (some 55) _) _
        simp only [Act.put]
        try simp only [List.setIfInBounds_toArray, List.set_cons_zero, List.set_cons_succ]
        refine wpAnyH_take (i := 23) (v := .bool false) rfl (by kernel_rfl) (by kernel_rfl) (by kernel_rfl) (fun _ _ _ h => h) (Or.inl ⟨by kernel_rfl, fun u hSw => (by go_simp)⟩) hS ?_
        change wpAnyH _ _ _ _ _ _ _ (Act.put _ (some 56) _) _
        simp only [Act.put]
        try simp only [List.setIfInBounds_toArray, List.set_cons_zero, List.set_cons_succ]
        refine wpAnyH_take (i := 24) (v := .bool false) rfl (by kernel_rfl) (by kernel_rfl) (by kernel_rfl) (fun _ _ _ h => h) (Or.inl ⟨by kernel_rfl, fun u hSw => (by go_simp)⟩) hS ?_
        change wpAnyH _ _ _ _ _ _ _ (Act.put _ (some 57) _) _
        simp only [Act.put]
        try simp only [List.setIfInBounds_toArray, List.set_cons_zero, List.set_cons_succ]
        refine wpAnyH_take (i := 25) (v := .bool false) rfl (by kernel_rfl) (by kernel_rfl) (by kernel_rfl) (fun _ _ _ h => h) (Or.inl ⟨by kernel_rfl, fun u hSw => (by go_simp)⟩) hS ?_
        change wpAnyH _ _ _ _ _ _ _ (Act.put _ (some 58) _) _
        simp only [Act.put]
        try simp only [List.setIfInBounds_toArray, List.set_cons_zero, List.set_cons_succ]
        refine wpAnyH_take (i := 26) (v := .bool false) rfl (by kernel_rfl) (by kernel_rfl) (by kernel_rfl) (fun _ _ _ h => h) (Or.inl ⟨by kernel_rfl, fun u hSw => (by go_simp)⟩) hS ?_
        change wpAnyH _ _ _ _ _ _ _ (Act.put _ (some 59) _) _
        simp only [Act.put]
        try simp only [List.setIfInBounds_toArray, List.set_cons_zero, List.set_cons_succ]
        refine wpAnyH_done (by kernel_rfl) ?_ _
        clear hS
        go_wp2_with fail
        go_meet
        exact ⟨rfl, K0, K5, K8, K10, GB⟩
    case rest =>
      clear K0 K5 K8 K10 GB
      obtain ⟨rfl, K0, K5, K8, K10, GB⟩ := hcut
      rename World => X
      go_upto_block 0 with fail
      go_cut [] (fun X => Blk X (w.heap.size + 1) 36 #[.int .i64 d, .int .i64 g, .int .i64 n] ∧ Below w.heap.size w X)
      case first =>
        cases r with
        | false =>
          obtain ⟨rfl, rfl, rfl⟩ := HSr.out.1 rfl
          have z0 := K0.cell 0
          have z1 := K0.cell 1
          go_wp2_with fail
          refine (HR.out _).mono ?_
          rintro e w7 ⟨rfl, h9⟩
          clear z0 z1
          replace K0 := K0.below h9 K0.lt
          replace K5 := K5.below h9 K5.lt
          replace K8 := K8.below h9 K8.lt
          replace K10 := K10.below h9 K10.lt
          replace GB := GB.trans (h9.mono GB.size)
          clear h9
          have y0 := K10.cell 0
          have y1 := K10.cell 1
          go_wp2_with fail
          go_meet
          exact ⟨K5, GB⟩
        | true =>
          cases k with
          | false =>
            obtain ⟨rfl, rfl, rfl⟩ := HSr.out.2.1 rfl rfl
            have z0 := K0.cell 0
            have z1 := K0.cell 1
            go_wp2_with fail
            refine (HR.out _).mono ?_
            rintro e w7 ⟨rfl, h9⟩
            clear z0 z1
            replace K0 := K0.below h9 K0.lt
            replace K5 := K5.below h9 K5.lt
            replace K8 := K8.below h9 K8.lt
            replace K10 := K10.below h9 K10.lt
            replace GB := GB.trans (h9.mono GB.size)
            clear h9
            have y0 := K10.cell 0
            have y1 := K10.cell 1
            go_wp2_with fail
            go_meet
            exact ⟨K5, GB⟩
          | true =>
            obtain rfl := HSr.out.2.2 rfl rfl
            have HrC := Lib.hid (HSC.out rfl rfl)
            have z0 := K0.cell 0
            have z1 := K0.cell 1
            go_wp2_with fail
            refine (HR.out _).mono ?_
            rintro e w7 ⟨rfl, h9⟩
            clear z0 z1
            replace K0 := K0.below h9 K0.lt
            replace K5 := K5.below h9 K5.lt
            replace K8 := K8.below h9 K8.lt
            replace K10 := K10.below h9 K10.lt
            replace GB := GB.trans (h9.mono GB.size)
            clear h9
            go_upto_region 8 with fail
            replace K0 : Blk w7.drew _ _ _ := K0
            replace K5 : Blk w7.drew _ _ _ := K5
            replace K8 : Blk w7.drew _ _ _ := K8
            replace K10 : Blk w7.drew _ _ _ := K10
            replace GB := GB.drew
            refine wp_region_held_drew (S := fun u => Below w.heap.size w u ∧ Blk u w.heap.size 23 #[.int .i64 c, .int .i64 t] ∧ Blk u (w.heap.size + 1) 36 #[.int .i64 d, .int .i64 g, .int .i64 n] ∧ Blk u g8 23 #[.int .i64 na, .int .i64 nb] ∧ Blk u g10 23 #[.int .i64 a, .int .i64 b]) (by kernel_rfl) ⟨GB, K0, K5, K8, K10⟩ (fun hS => ?_)
            generalize w7.drew = V at K0 K5 K8 K10 GB hS ⊢
            refine wpAnyH_take (i := 0) (v := .int .i64 0) rfl (by kernel_rfl) (by kernel_rfl) (by kernel_rfl) (fun _ _ _ h => h) (Or.inl ⟨by kernel_rfl, fun u hSw => (by go_simp)⟩) hS ?_
            change wpAnyH _ _ _ _ _ _ _ (Act.put _ (some 60) _) _
            simp only [Act.put]
            try simp only [List.setIfInBounds_toArray, List.set_cons_zero, List.set_cons_succ]
            refine wpAnyH_take (i := 1) (v := .bool false) rfl (by kernel_rfl) (by kernel_rfl) (by kernel_rfl) (fun _ _ _ h => h) (Or.inl ⟨by kernel_rfl, fun u hSw => (by go_simp)⟩) hS ?_
            change wpAnyH _ _ _ _ _ _ _ (Act.put _ (some 61) _) _
            simp only [Act.put]
            try simp only [List.setIfInBounds_toArray, List.set_cons_zero, List.set_cons_succ]
            refine wpAnyH_take (i := 2) (v := .bool false) rfl (by kernel_rfl) (by kernel_rfl) (by kernel_rfl) (fun _ _ _ h => h) (Or.inl ⟨by kernel_rfl, fun u hSw => (by go_simp)⟩) hS ?_
            change wpAnyH _ _ _ _ _ _ _ (Act.put _ (some 62) _) _
            simp only [Act.put]
            try simp only [List.setIfInBounds_toArray, List.set_cons_zero, List.set_cons_succ]
            refine wpAnyH_take (i := 3) (v := .agg #[.int .i64 a, .int .i64 b]) rfl (by kernel_rfl) (by kernel_rfl) (by kernel_rfl) (fun _ _ _ h => h) (Or.inl ⟨by kernel_rfl, fun u hSw => (by have q0 := hSw.2.2.2.2.cell 0; have q1 := hSw.2.2.2.2.cell 1; go_simp)⟩) hS ?_
            change wpAnyH _ _ _ _ _ _ _ (Act.put _ (some 63) _) _
            simp only [Act.put]
            try simp only [List.setIfInBounds_toArray, List.set_cons_zero, List.set_cons_succ]
            refine wpAnyH_take (i := 4) (v := .agg #[.int .i64 c, .int .i64 t]) rfl (by kernel_rfl) (by kernel_rfl) (by kernel_rfl) (fun _ _ _ h => h) (Or.inl ⟨by kernel_rfl, fun u hSw => (by have q0 := hSw.2.1.cell 0; have q1 := hSw.2.1.cell 1; go_simp)⟩) hS ?_
            change wpAnyH _ _ _ _ _ _ _ (Act.put _ (some 64) _) _
            simp only [Act.put]
            try simp only [List.setIfInBounds_toArray, List.set_cons_zero, List.set_cons_succ]
            refine wpAnyH_take (i := 5) (v := .int .i64 p) rfl (by kernel_rfl) (by kernel_rfl) (by kernel_rfl) (fun _ _ _ h => h) (Or.inl ⟨by kernel_rfl, fun u hSw => (by go_simp)⟩) hS ?_
            change wpAnyH _ _ _ _ _ _ _ (Act.put _ (some 65) _) _
            simp only [Act.put]
            try simp only [List.setIfInBounds_toArray, List.set_cons_zero, List.set_cons_succ]
            refine wpAnyH_ready (rs := [6]) (by kernel_rfl) (by simp) ?_
            refine AllReadyH.cons rfl (fun K hK => ?_) AllReadyH.nil
            go_simp
            refine (HrC.out _).mono ?_
            rintro e1 w1 ⟨rfl, h9⟩
            replace K0 := K0.below h9 K0.lt
            replace K5 := K5.below h9 K5.lt
            replace K8 := K8.below h9 K8.lt
            replace K10 := K10.below h9 K10.lt
            replace GB := GB.trans (h9.mono GB.size)
            clear h9
            refine hK.out _ _ ⟨GB, K0, K5, K8, K10⟩ (fun hS => ?_)
            clear hK K
            refine wpAnyH_take (i := 7) (v := .bool false) rfl (by kernel_rfl) (by kernel_rfl) (by kernel_rfl) (fun _ _ _ h => h) (Or.inl ⟨by kernel_rfl, fun u hSw => (by go_simp)⟩) hS ?_
            change wpAnyH _ _ _ _ _ _ _ (Act.put _ (some 67) _) _
            simp only [Act.put]
            try simp only [List.setIfInBounds_toArray, List.set_cons_zero, List.set_cons_succ]
            refine wpAnyH_take (i := 8) (v := .bool false) rfl (by kernel_rfl) (by kernel_rfl) (by kernel_rfl) (fun _ _ _ h => h) (Or.inl ⟨by kernel_rfl, fun u hSw => (by go_simp)⟩) hS ?_
            change wpAnyH _ _ _ _ _ _ _ (Act.put _ (some 68) _) _
            simp only [Act.put]
            try simp only [List.setIfInBounds_toArray, List.set_cons_zero, List.set_cons_succ]
            refine wpAnyH_done (by kernel_rfl) ?_ _
            clear hS
            go_wp2_with fail
            go_meet
            exact ⟨K5, GB⟩
      case rest =>
        clear K0 K5 K8 K10 GB
        obtain ⟨K5, GB⟩ := hcut
        rename World => X8
        have z50 := K5.cell 0
        have z51 := K5.cell 1
        have z52 := K5.cell 2
        go_wp2_with fail
        refine (HB.out _).mono ?_
        rintro e w8 ⟨rfl, h9⟩
        clear z50 z51 z52
        replace K5 := K5.below h9 K5.lt
        replace GB := GB.trans (h9.mono GB.size)
        clear h9
        go_upto_region 17 with fail
        go_cut [136] (fun s X => s = .bool (!q) ∧ Blk X (w.heap.size + 1) 36 #[.int .i64 d, .int .i64 g, .int .i64 n] ∧ Below w.heap.size w X)
        case first =>
          by_cases b0 : p < 1
          · have e0 : decide (p < 1) = true := decide_eq_true b0
            have hq : q = false := HQ.out.symm.trans (decide_eq_false (by omega))
            subst hq
            clear b0
            have z50 := K5.cell 0
            have z51 := K5.cell 1
            have z52 := K5.cell 2
            go_wp2_with fail
            go_meet
            exact ⟨rfl, K5, GB⟩
          · have e0 : decide (p < 1) = false := decide_eq_false b0
            by_cases b1 : 800 < p
            · have e1 : decide (800 < p) = true := decide_eq_true b1
              have hq : q = false := HQ.out.symm.trans (decide_eq_false (by omega))
              subst hq
              clear b0 b1
              have z50 := K5.cell 0
              have z51 := K5.cell 1
              have z52 := K5.cell 2
              go_wp2_with fail
              go_meet
              exact ⟨rfl, K5, GB⟩
            · have e1 : decide (800 < p) = false := decide_eq_false b1
              by_cases b2 : d < 0
              · have e2 : decide (d < 0) = true := decide_eq_true b2
                have hq : q = false := HQ.out.symm.trans (decide_eq_false (by omega))
                subst hq
                clear b0 b1 b2
                have z50 := K5.cell 0
                have z51 := K5.cell 1
                have z52 := K5.cell 2
                go_wp2_with fail
                go_meet
                exact ⟨rfl, K5, GB⟩
              · have e2 : decide (d < 0) = false := decide_eq_false b2
                by_cases b3 : 1125899906842624 < d
                · have e3 : decide (1125899906842624 < d) = true := decide_eq_true b3
                  have hq : q = false := HQ.out.symm.trans (decide_eq_false (by omega))
                  subst hq
                  clear b0 b1 b2 b3
                  have z50 := K5.cell 0
                  have z51 := K5.cell 1
                  have z52 := K5.cell 2
                  go_wp2_with fail
                  go_meet
                  exact ⟨rfl, K5, GB⟩
                · have e3 : decide (1125899906842624 < d) = false := decide_eq_false b3
                  by_cases b4 : g < 0
                  · have e4 : decide (g < 0) = true := decide_eq_true b4
                    have hq : q = false := HQ.out.symm.trans (decide_eq_false (by omega))
                    subst hq
                    clear b0 b1 b2 b3 b4
                    have z50 := K5.cell 0
                    have z51 := K5.cell 1
                    have z52 := K5.cell 2
                    go_wp2_with fail
                    go_meet
                    exact ⟨rfl, K5, GB⟩
                  · have e4 : decide (g < 0) = false := decide_eq_false b4
                    by_cases b5 : 10000000 < g
                    · have e5 : decide (10000000 < g) = true := decide_eq_true b5
                      have hq : q = false := HQ.out.symm.trans (decide_eq_false (by omega))
                      subst hq
                      clear b0 b1 b2 b3 b4 b5
                      have z50 := K5.cell 0
                      have z51 := K5.cell 1
                      have z52 := K5.cell 2
                      go_wp2_with fail
                      go_meet
                      exact ⟨rfl, K5, GB⟩
                    · have e5 : decide (10000000 < g) = false := decide_eq_false b5
                      by_cases b6 : n < 0
                      · have e6 : decide (n < 0) = true := decide_eq_true b6
                        have hq : q = false := HQ.out.symm.trans (decide_eq_false (by omega))
                        subst hq
                        clear b0 b1 b2 b3 b4 b5 b6
                        have z50 := K5.cell 0
                        have z51 := K5.cell 1
                        have z52 := K5.cell 2
                        go_wp2_with fail
                        go_meet
                        exact ⟨rfl, K5, GB⟩
                      · have e6 : decide (n < 0) = false := decide_eq_false b6
                        by_cases b7 : 8 < n
                        · have e7 : decide (8 < n) = true := decide_eq_true b7
                          have hq : q = false := HQ.out.symm.trans (decide_eq_false (by omega))
                          subst hq
                          clear b0 b1 b2 b3 b4 b5 b6 b7
                          have z50 := K5.cell 0
                          have z51 := K5.cell 1
                          have z52 := K5.cell 2
                          go_wp2_with fail
                          go_meet
                          exact ⟨rfl, K5, GB⟩
                        · have e7 : decide (8 < n) = false := decide_eq_false b7
                          have hq : q = true := HQ.out.symm.trans (decide_eq_true (by omega))
                          subst hq
                          clear b0 b1 b2 b3 b4 b5 b6 b7
                          have z50 := K5.cell 0
                          have z51 := K5.cell 1
                          have z52 := K5.cell 2
                          go_wp2_with fail
                          go_meet
                          exact ⟨rfl, K5, GB⟩
        case rest =>
          clear K5 GB
          obtain ⟨rfl, K5, GB⟩ := hcut
          rename World => X9
          cases q with
          | false =>
            have HG := Lib.hid (HW.out.2 rfl)
            have x1 : (W == 0) = true := by simp [HG.out.1]
            have x2 : (G == 2) = true := by simp [HG.out.2]
            have HE := Lib.hid GB
            clear GB K5
            go_wp2
            go_ret
            exact ⟨rfl, HE.out⟩
          | true =>
            obtain ⟨hG, x1⟩ := HW.out.1 rfl
            subst hG
            go_upto_region 19 with fail
            replace K5 : Blk X9.drew _ _ _ := K5
            replace GB := GB.drew
            refine wp_region_held_drew (S := fun u => Below w.heap.size w u ∧ Blk u (w.heap.size + 1) 36 #[.int .i64 d, .int .i64 g, .int .i64 n]) (by kernel_rfl) ⟨GB, K5⟩ (fun hS => ?_)
            generalize X9.drew = V at K5 GB hS ⊢
            refine wpAnyH_take (i := 0) (v := .int .i64 0) rfl (by kernel_rfl) (by kernel_rfl) (by kernel_rfl) (fun _ _ _ h => h) (Or.inl ⟨by kernel_rfl, fun u hSw => (by go_simp)⟩) hS ?_
            change wpAnyH _ _ _ _ _ _ _ (Act.put _ (some 143) _) _
            simp only [Act.put]
            try simp only [List.setIfInBounds_toArray, List.set_cons_zero, List.set_cons_succ]
            refine wpAnyH_take (i := 1) (v := .bool true) rfl (by kernel_rfl) (by kernel_rfl) (by kernel_rfl) (fun _ _ _ h => h) (Or.inl ⟨by kernel_rfl, fun u hSw => (by go_simp)⟩) hS ?_
            change wpAnyH _ _ _ _ _ _ _ (Act.put _ (some 144) _) _
            simp only [Act.put]
            try simp only [List.setIfInBounds_toArray, List.set_cons_zero, List.set_cons_succ]
            refine wpAnyH_take (i := 2) (v := .bool true) rfl (by kernel_rfl) (by kernel_rfl) (by kernel_rfl) (fun _ _ _ h => h) (Or.inl ⟨by kernel_rfl, fun u hSw => (by go_simp)⟩) hS ?_
            change wpAnyH _ _ _ _ _ _ _ (Act.put _ (some 145) _) _
            simp only [Act.put]
            try simp only [List.setIfInBounds_toArray, List.set_cons_zero, List.set_cons_succ]
            refine wpAnyH_take (i := 3) (v := .int .i64 W) rfl (by kernel_rfl) (by kernel_rfl) (by kernel_rfl) (fun _ _ _ h => h) (Or.inl ⟨by kernel_rfl, fun u hSw => (by go_simp)⟩) hS ?_
            change wpAnyH _ _ _ _ _ _ _ (Act.put _ (some 146) _) _
            simp only [Act.put]
            try simp only [List.setIfInBounds_toArray, List.set_cons_zero, List.set_cons_succ]
            refine wpAnyH_take (i := 4) (v := .int .i64 p) rfl (by kernel_rfl) (by kernel_rfl) (by kernel_rfl) (fun _ _ _ h => h) (Or.inl ⟨by kernel_rfl, fun u hSw => (by go_simp)⟩) hS ?_
            change wpAnyH _ _ _ _ _ _ _ (Act.put _ (some 147) _) _
            simp only [Act.put]
            try simp only [List.setIfInBounds_toArray, List.set_cons_zero, List.set_cons_succ]
            refine wpAnyH_take (i := 5) (v := .pointer (some ⟨w.heap.size + 1, 0, none⟩)) rfl (by kernel_rfl) (by kernel_rfl) (by kernel_rfl) (fun _ _ _ h => h) (Or.inl ⟨by kernel_rfl, fun u hSw => (by go_simp)⟩) hS ?_
            change wpAnyH _ _ _ _ _ _ _ (Act.put _ (some 148) _) _
            simp only [Act.put]
            try simp only [List.setIfInBounds_toArray, List.set_cons_zero, List.set_cons_succ]
            refine wpAnyH_take (i := 6) (v := .int .i64 d) rfl (by kernel_rfl) (by kernel_rfl) (by kernel_rfl) (fun _ _ _ h => h) (Or.inl ⟨by kernel_rfl, fun u hSw => (by have q0 := hSw.2.cell 0; go_simp)⟩) hS ?_
            change wpAnyH _ _ _ _ _ _ _ (Act.put _ (some 149) _) _
            simp only [Act.put]
            try simp only [List.setIfInBounds_toArray, List.set_cons_zero, List.set_cons_succ]
            refine wpAnyH_take (i := 7) (v := .int .i64 (wrap64 (p * d))) rfl (by kernel_rfl) (by kernel_rfl) (by kernel_rfl) (fun _ _ _ h => h) (Or.inl ⟨by kernel_rfl, fun u hSw => (by go_simp; exact (IntKind.wrap_i64 _).trans (by unfold wrap64; rfl))⟩) hS ?_
            change wpAnyH _ _ _ _ _ _ _ (Act.put _ (some 150) _) _
            simp only [Act.put]
            try simp only [List.setIfInBounds_toArray, List.set_cons_zero, List.set_cons_succ]
            refine wpAnyH_take (i := 8) (v := .int .i64 p) rfl (by kernel_rfl) (by kernel_rfl) (by kernel_rfl) (fun _ _ _ h => h) (Or.inl ⟨by kernel_rfl, fun u hSw => (by go_simp)⟩) hS ?_
            change wpAnyH _ _ _ _ _ _ _ (Act.put _ (some 151) _) _
            simp only [Act.put]
            try simp only [List.setIfInBounds_toArray, List.set_cons_zero, List.set_cons_succ]
            refine wpAnyH_take (i := 11) (v := .pointer (some ⟨w.heap.size + 1, 2, none⟩)) rfl (by kernel_rfl) (by kernel_rfl) (by kernel_rfl) (fun _ _ _ h => h) (Or.inl ⟨by kernel_rfl, fun u hSw => (by go_simp)⟩) hS ?_
            change wpAnyH _ _ _ _ _ _ _ (Act.put _ (some 154) _) _
            simp only [Act.put]
            try simp only [List.setIfInBounds_toArray, List.set_cons_zero, List.set_cons_succ]
            refine wpAnyH_take (i := 12) (v := .int .i64 n) rfl (by kernel_rfl) (by kernel_rfl) (by kernel_rfl) (fun _ _ _ h => h) (Or.inl ⟨by kernel_rfl, fun u hSw => (by have q0 := hSw.2.cell 2; go_simp)⟩) hS ?_
            change wpAnyH _ _ _ _ _ _ _ (Act.put _ (some 155) _) _
            simp only [Act.put]
            try simp only [List.setIfInBounds_toArray, List.set_cons_zero, List.set_cons_succ]
            refine wpAnyH_take (i := 13) (v := .int .i64 (wrap64 (100 * n))) rfl (by kernel_rfl) (by kernel_rfl) (by kernel_rfl) (fun _ _ _ h => h) (Or.inl ⟨by kernel_rfl, fun u hSw => (by go_simp; exact (IntKind.wrap_i64 _).trans (by unfold wrap64; rfl))⟩) hS ?_
            change wpAnyH _ _ _ _ _ _ _ (Act.put _ (some 156) _) _
            simp only [Act.put]
            try simp only [List.setIfInBounds_toArray, List.set_cons_zero, List.set_cons_succ]
            refine wpAnyH_take (i := 14) (v := .pointer (some ⟨w.heap.size + 1, 1, none⟩)) rfl (by kernel_rfl) (by kernel_rfl) (by kernel_rfl) (fun _ _ _ h => h) (Or.inl ⟨by kernel_rfl, fun u hSw => (by go_simp)⟩) hS ?_
            change wpAnyH _ _ _ _ _ _ _ (Act.put _ (some 157) _) _
            simp only [Act.put]
            try simp only [List.setIfInBounds_toArray, List.set_cons_zero, List.set_cons_succ]
            refine wpAnyH_take (i := 15) (v := .int .i64 g) rfl (by kernel_rfl) (by kernel_rfl) (by kernel_rfl) (fun _ _ _ h => h) (Or.inl ⟨by kernel_rfl, fun u hSw => (by have q0 := hSw.2.cell 1; go_simp)⟩) hS ?_
            change wpAnyH _ _ _ _ _ _ _ (Act.put _ (some 158) _) _
            simp only [Act.put]
            try simp only [List.setIfInBounds_toArray, List.set_cons_zero, List.set_cons_succ]
            refine wpAnyH_take (i := 16) (v := .int .i64 (wrap64 (wrap64 (100 * n) * g))) rfl (by kernel_rfl) (by kernel_rfl) (by kernel_rfl) (fun _ _ _ h => h) (Or.inl ⟨by kernel_rfl, fun u hSw => (by go_simp; exact (IntKind.wrap_i64 _).trans (by unfold wrap64; rfl))⟩) hS ?_
            change wpAnyH _ _ _ _ _ _ _ (Act.put _ (some 159) _) _
            simp only [Act.put]
            try simp only [List.setIfInBounds_toArray, List.set_cons_zero, List.set_cons_succ]
            refine wpAnyH_ready (rs := [9]) (by kernel_rfl) (by simp) ?_
            refine AllReadyH.cons rfl (fun K hK => ?_) AllReadyH.nil
            go_simp
            refine (HrD.out _).mono ?_
            rintro e1 w1 ⟨rfl, rfl⟩
            refine hK.out _ _ ⟨GB, K5⟩ (fun hS => ?_)
            clear hK K
            refine wpAnyH_take (i := 10) (v := .int .i64 (wrap64 (wrap64 (p * d) + M))) rfl (by kernel_rfl) (by kernel_rfl) (by kernel_rfl) (fun _ _ _ h => h) (Or.inl ⟨by kernel_rfl, fun u hSw => (by go_simp; exact (IntKind.wrap_i64 _).trans (by unfold wrap64; rfl))⟩) hS ?_
            change wpAnyH _ _ _ _ _ _ _ (Act.put _ (some 153) _) _
            simp only [Act.put]
            try simp only [List.setIfInBounds_toArray, List.set_cons_zero, List.set_cons_succ]
            refine wpAnyH_take (i := 17) (v := .int .i64 (wrap64 (wrap64 (wrap64 (p * d) + M) + wrap64 (wrap64 (100 * n) * g)))) rfl (by kernel_rfl) (by kernel_rfl) (by kernel_rfl) (fun _ _ _ h => h) (Or.inl ⟨by kernel_rfl, fun u hSw => (by go_simp; exact (IntKind.wrap_i64 _).trans (by unfold wrap64; rfl))⟩) hS ?_
            change wpAnyH _ _ _ _ _ _ _ (Act.put _ (some 160) _) _
            simp only [Act.put]
            try simp only [List.setIfInBounds_toArray, List.set_cons_zero, List.set_cons_succ]
            refine wpAnyH_take (i := 18) (v := .bool true) rfl (by kernel_rfl) (by kernel_rfl) (by kernel_rfl) (fun _ _ _ h => h) (Or.inl ⟨by kernel_rfl, fun u hSw => (by go_simp)⟩) hS ?_
            change wpAnyH _ _ _ _ _ _ _ (Act.put _ (some 161) _) _
            simp only [Act.put]
            try simp only [List.setIfInBounds_toArray, List.set_cons_zero, List.set_cons_succ]
            refine wpAnyH_take (i := 19) (v := .bool true) rfl (by kernel_rfl) (by kernel_rfl) (by kernel_rfl) (fun _ _ _ h => h) (Or.inl ⟨by kernel_rfl, fun u hSw => (by go_simp)⟩) hS ?_
            change wpAnyH _ _ _ _ _ _ _ (Act.put _ (some 162) _) _
            simp only [Act.put]
            try simp only [List.setIfInBounds_toArray, List.set_cons_zero, List.set_cons_succ]
            refine wpAnyH_take (i := 20) (v := .bool true) rfl (by kernel_rfl) (by kernel_rfl) (by kernel_rfl) (fun _ _ _ h => h) (Or.inl ⟨by kernel_rfl, fun u hSw => (by go_simp)⟩) hS ?_
            change wpAnyH _ _ _ _ _ _ _ (Act.put _ (some 6) _) _
            simp only [Act.put]
            try simp only [List.setIfInBounds_toArray, List.set_cons_zero, List.set_cons_succ]
            refine wpAnyH_done (by kernel_rfl) ?_ _
            clear hS
            have HE := Lib.hid GB
            clear GB K5
            go_wp2
            go_ret
            exact ⟨rfl, HE.out⟩

end Go.Proofs.Ytcdbkfmdilimaaa
