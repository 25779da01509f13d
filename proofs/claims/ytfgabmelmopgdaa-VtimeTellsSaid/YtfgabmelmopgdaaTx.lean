/-
  Td, Te, Tf and Tg as one text (a claim holds 60 files at most).
-/
import Derived.Test.YtfgabmelmopgdaaVx
import Derived.Deep.DeepCutAuto
import Derived.Test.YtfgabmelmopgdaaFy
namespace Go.Proofs.Ytfgabmelmopgdaa
open Go.RowKit

set_option maxRecDepth 100000 in
set_option maxHeartbeats 400000 in
theorem rid_any (a : Int) (w : World) : Calls Try.prog 44 #[.int .i64 a] w fun e w' => e = .returned (.bool (idB a)) ∧ w = w' := by
  by_cases h1 : 1 ≤ a
  · have c1 : decide (1 ≤ a) = true := decide_eq_true h1
    by_cases h2 : a ≤ 16
    · have c2 : decide (a ≤ 16) = true := decide_eq_true h2
      have H : Hid (idB a = true) := Lib.hid (by unfold idB; rw [c1, c2]; rfl)
      clear h1 h2
      go_enter Try.func44, Try.ntmps44
      go_wp2
      go_ret
      exact ⟨retB H.out.symm, rfl⟩
    · have c2 : decide (a ≤ 16) = false := decide_eq_false h2
      have H : Hid (idB a = false) := Lib.hid (by unfold idB; rw [c2, Bool.and_false])
      clear h1 h2
      go_enter Try.func44, Try.ntmps44
      go_wp2
      go_ret
      exact ⟨retB H.out.symm, rfl⟩
  · have c1 : decide (1 ≤ a) = false := decide_eq_false h1
    have H : Hid (idB a = false) := Lib.hid (by unfold idB; rw [c1, Bool.false_and])
    clear h1
    go_enter Try.func44, Try.ntmps44
    go_wp2
    go_ret
    exact ⟨retB H.out.symm, rfl⟩

set_option maxRecDepth 100000 in
set_option maxHeartbeats 4000000 in
theorem rrunner_any (a b : Int) (h l x : Nat) (w : World) (hu : UR (a, b, h, l, x)) : Calls Try.prog 20 #[.agg #[.int .i64 a, .int .i64 b, .int .u64 (h : Int), .int .u64 (l : Int), .int .u64 (x : Int)]] w (Said (.bool (rightR (a, b, h, l, x))) w) := by
  obtain ⟨K0, GB⟩ := box1 w 40 #[.int .i64 a, .int .i64 b, .int .u64 (h : Int), .int .u64 (l : Int), .int .u64 (x : Int)]
  have HI := Lib.hid (fun (u : World) => rid_any a u)
  have HF := Lib.hid (fun (u : World) => (rright_any h l x u : Calls _ _ #[.agg #[.int .u64 (h : Int), .int .u64 (l : Int), .int .u64 (x : Int)]] _ _))
  obtain ⟨p, hp⟩ : ∃ p, rightB h x = p := ⟨_, rfl⟩
  have hV : rightR (a, b, h, l, x) = (idB a && (decide (1 ≤ b) && decide (b ≤ 8) && p)) := by
    unfold rightR rightE rN rW
    simp only
    rw [rightN_of hu.2.1, hp]
  rw [hp] at HF
  rw [hV]
  have z0 := K0.cell 0
  have z1 := K0.cell 1
  have z2 := K0.cell 2
  have z3 := K0.cell 3
  have z4 := K0.cell 4
  have HB := Lib.hid GB
  clear hp hV hu GB K0
  cases h1 : idB a with
  | false =>
    rw [h1] at HI
    clear h1
    rw [Bool.false_and]
    go_enter Try.func20, Try.ntmps20
    go_wp2_with fail
    refine (HI.out _).mono ?_
    rintro e w1 ⟨rfl, rfl⟩
    go_wp2
    go_ret
    exact ⟨rfl, HB.out⟩
  | true =>
    rw [h1] at HI
    clear h1
    rw [Bool.true_and]
    by_cases h2 : 1 ≤ b
    · have c2 : decide (1 ≤ b) = true := decide_eq_true h2
      by_cases h3 : b ≤ 8
      · have c3 : decide (b ≤ 8) = true := decide_eq_true h3
        rw [c2, c3, Bool.true_and, Bool.true_and]
        clear h2 h3
        go_enter Try.func20, Try.ntmps20
        go_wp2_with fail
        refine (HI.out _).mono ?_
        rintro e w1 ⟨rfl, rfl⟩
        go_wp2_with fail
        refine (HF.out _).mono ?_
        rintro e w1 ⟨rfl, h9⟩
        have HE := Lib.hid (HB.out.trans (h9.mono HB.out.size))
        clear h9 z0 z1 z2 z3 z4
        cases p <;> (go_wp2; go_ret; exact ⟨rfl, HE.out⟩)
      · have c3 : decide (b ≤ 8) = false := decide_eq_false h3
        rw [c3, Bool.and_false, Bool.false_and]
        clear h2 h3
        go_enter Try.func20, Try.ntmps20
        go_wp2_with fail
        refine (HI.out _).mono ?_
        rintro e w1 ⟨rfl, rfl⟩
        go_wp2
        go_ret
        exact ⟨rfl, HB.out⟩
    · have c2 : decide (1 ≤ b) = false := decide_eq_false h2
      rw [c2, Bool.false_and, Bool.false_and]
      clear h2
      go_enter Try.func20, Try.ntmps20
      go_wp2_with fail
      refine (HI.out _).mono ?_
      rintro e w1 ⟨rfl, rfl⟩
      go_wp2
      go_ret
      exact ⟨rfl, HB.out⟩

/-! ### rows -/
theorem rise_at {l : List Rn} (h : Rise l) {i j : Nat} {a b : Rn} (hij : i < j) (ha : l[i]? = some a) (hb : l[j]? = some b) : a.1 < b.1 := by
  obtain ⟨hi, rfl⟩ := List.getElem?_eq_some_iff.1 ha
  obtain ⟨hj, rfl⟩ := List.getElem?_eq_some_iff.1 hb
  exact List.pairwise_iff_getElem.1 h i j hi hj hij
theorem rq_snoc {l : List Rn} {k : Nat} {x : Rn} (h : RQ (l.take k)) (hx : l[k]? = some x) (hr : rightR x = true) (hp : ∀ y, 0 < k → l[k - 1]? = some y → y.1 < x.1) : RQ (l.take (k + 1)) := by
  rw [List.take_add_one, hx]
  refine ⟨?_, fun y hy => ?_⟩
  · show List.Pairwise _ (l.take k ++ [x])
    rw [List.pairwise_append]
    refine ⟨h.rise, List.pairwise_singleton _ _, fun y hy z hz => ?_⟩
    obtain rfl := List.mem_singleton.1 hz
    obtain ⟨i, hi⟩ := List.mem_iff_getElem?.1 hy
    have hik : i < k := by
      have := (List.getElem?_eq_some_iff.1 hi).1
      rw [List.length_take] at this
      omega
    have hkl : k < l.length := (List.getElem?_eq_some_iff.1 hx).1
    obtain ⟨p, hpp⟩ := elem_at (l := l) (k := k - 1) (by omega)
    have h1 := hp p (by omega) hpp
    have hpt : (l.take k)[k - 1]? = some p := by rw [List.getElem?_take_of_lt (by omega)]; exact hpp
    by_cases e : i = k - 1
    · rw [e, hpt] at hi
      rw [← Option.some.inj hi]
      exact h1
    · have := rise_at h.rise (show i < k - 1 by omega) hi hpt
      omega
  · rcases List.mem_append.1 hy with hy | hy
    · exact h.each y hy
    · obtain rfl := List.mem_singleton.1 hy
      exact hr
theorem take_eq {l l' : List Rn} {k : Nat} {x : Rn} (h1 : l[k]? = some x) (h2 : l'[k]? = some x) (h : l.take k = l'.take k) : l.take (k + 1) = l'.take (k + 1) := by
  rw [List.take_add_one, List.take_add_one, h1, h2, h]
theorem ne_at {l l' : List Rn} {k : Nat} {x y : Rn} (h1 : l[k]? = some x) (h2 : l'[k]? = some y) (h : x ≠ y) : l ≠ l' := fun e => by
  rw [e, h2] at h1
  exact h (Option.some.inj h1).symm

/-- the first place of a number -/
def fnd (l : List Rn) (i : Int) : Int := match l.findIdx? (fun r => r.1 == i) with | some k => (k : Int) | none => -1
theorem fnd_some {l : List Rn} {i : Int} {k : Nat} {x : Rn} (hx : l[k]? = some x) (hi : x.1 = i) (hn : ∀ j y, j < k → l[j]? = some y → y.1 ≠ i) : fnd l i = (k : Int) ∧ kf l i = some x := by
  have hk := (List.getElem?_eq_some_iff.1 hx).1
  have h1 : l.findIdx? (fun r => r.1 == i) = some k := by
    rw [List.findIdx?_eq_some_iff_getElem]
    obtain ⟨_, he⟩ := List.getElem?_eq_some_iff.1 hx
    refine ⟨hk, by rw [he]; simp [hi], fun j hj => ?_⟩
    have hjl : j < l.length := by omega
    have := hn j _ hj (List.getElem?_eq_getElem hjl)
    simpa using this
  refine ⟨by unfold fnd; rw [h1], ?_⟩
  unfold kf
  rw [List.find?_eq_some_iff_getElem]
  obtain ⟨_, he⟩ := List.getElem?_eq_some_iff.1 hx
  refine ⟨by simp [hi], k, hk, he, fun j hj => ?_⟩
  have hjl : j < l.length := by omega
  have := hn j _ hj (List.getElem?_eq_getElem hjl)
  simpa using this
theorem fnd_none {l : List Rn} {i : Int} (hn : ∀ j y, j < l.length → l[j]? = some y → y.1 ≠ i) : fnd l i = -1 ∧ kf l i = none := by
  have hall : ∀ y ∈ l, y.1 ≠ i := fun y hy => by
    obtain ⟨j, hj⟩ := List.mem_iff_getElem?.1 hy
    exact hn j y (List.getElem?_eq_some_iff.1 hj).1 hj
  refine ⟨?_, kf_none.2 hall⟩
  unfold fnd
  rw [List.findIdx?_eq_none_iff.2 (fun y hy => by simpa using hall y hy)]

set_option maxRecDepth 100000 in
set_option maxHeartbeats 4000000 in
theorem rfind_any (A : Option Addr) (n c : Nat) (qs : List Rn) (i : Int) (w : World) (hG : QR w A n c qs) : Calls Try.prog 40 #[.agg #[.slice A n c], .int .i64 i] w (Said (.int .i64 (fnd qs i)) w) := by
  obtain ⟨K0, GB⟩ := box1 w 26 #[.slice A n c]
  have HG := Lib.hid hG
  have HN : Hid (n ≤ 1000) := Lib.hid hG.small
  have z0 := K0.cell 0
  have HB := Lib.hid GB
  clear hG GB K0
  go_enter Try.func40, Try.ntmps40
  go_wp2_with fail
  clear z0
  go_loopw [10] (fun iv wr => ∃ k : Nat, k ≤ n ∧ iv = .int .i64 (k : Int) ∧ Hid (∀ (j : Nat) (y : Rn), j < k → qs[j]? = some y → y.1 ≠ i) ∧ Below w.heap.size w wr) (fun iv _ => n - (intOf iv).toNat)
  case atStart => exact ⟨0, by omega, rfl, Lib.hid (fun j y hj _ => absurd hj (by omega)), HB.out⟩
  case round =>
    obtain ⟨k, hk, rfl, HA, hB⟩ := hrel
    by_cases hlt : k < n
    · obtain ⟨⟨a, b, h, l, x⟩, hx⟩ := elem_at (l := qs) (k := k) (by rw [HG.out.len]; exact hlt)
      obtain ⟨ad, rfl, hb1, d0, d1, d2, d3, d4⟩ := rn_at (HG.out.below hB).row hx
      have HX := Lib.hid hx
      have hsz := hB.size
      have i1 : (0 : Int) ≤ (k : Int) := by omega
      have i2 : (k : Int) < (n : Int) := by omega
      have hn := HN.out
      clear hx hb1
      by_cases he : a = i
      · have HV := Lib.hid (fnd_some HX.out he HA.out).1
        have c1 : (a == i) = true := by simp [he]
        clear he
        go_wp2
        go_ret
        exact ⟨retI HV.out.symm, hB.alloc hsz _⟩
      · have c1 : (a == i) = false := by simp [he]
        have HA2 : Hid (∀ (j : Nat) (y : Rn), j < k + 1 → qs[j]? = some y → y.1 ≠ i) := Lib.hid (fun j y hj hy => by
          by_cases e : j = k
          · subst e
            rw [HX.out] at hy
            rw [← Option.some.inj hy]
            exact he
          · exact HA.out j y (by omega) hy)
        clear he
        go_wp2
        go_roundw
        case rel => exact ⟨k + 1, by omega, by go_num, HA2, hB.alloc hsz _⟩
        case measure => simp [intOf]; omega
    · obtain rfl : k = n := by omega
      have HV := Lib.hid (fnd_none (l := qs) (i := i) (fun j y hj hy => HA.out j y (by rw [← HG.out.len]; exact hj) hy)).1
      go_wp2
      go_ret
      exact ⟨retI HV.out.symm, hB⟩

end Go.Proofs.Ytfgabmelmopgdaa
namespace Go.Proofs.Ytfgabmelmopgdaa
open Go.RowKit

set_option maxRecDepth 100000 in
set_option maxHeartbeats 8000000 in
theorem rrightq_any (A : Option Addr) (n c : Nat) (qs : List Rn) (w : World) (hG : QR w A n c qs) : Calls Try.prog 11 #[.agg #[.slice A n c]] w (Said (.bool (rightQ qs)) w) := by
  obtain ⟨K0, GB⟩ := box1 w 26 #[.slice A n c]
  have HG := Lib.hid hG
  have HN : Hid (n ≤ 1000) := Lib.hid hG.small
  have z0 := K0.cell 0
  have HB := Lib.hid (And.intro K0 GB)
  clear hG GB K0
  go_enter Try.func11, Try.ntmps11
  go_wp2_with fail
  clear z0
  go_loopw [8] (fun iv wr => ∃ k : Nat, k ≤ n ∧ iv = .int .i64 (k : Int) ∧ Hid (RQ (qs.take k)) ∧ Blk wr w.heap.size 26 #[.slice A n c] ∧ Below w.heap.size w wr) (fun iv _ => n - (intOf iv).toNat)
  case atStart => exact ⟨0, by omega, rfl, Lib.hid (by rw [List.take_zero]; exact RQ.nil), HB.out.1, HB.out.2⟩
  case round =>
    obtain ⟨k, hk, rfl, HA, K0, hB⟩ := hrel
    by_cases hlt : k < n
    · obtain ⟨⟨a, b, h, l, x⟩, hx⟩ := elem_at (l := qs) (k := k) (by rw [HG.out.len]; exact hlt)
      obtain ⟨ad, rfl, hb1, d0, d1, d2, d3, d4⟩ := rn_at (HG.out.below hB).row hx
      have HX := Lib.hid hx
      have hsz := hB.size
      have i1 : (0 : Int) ≤ (k : Int) := by omega
      have i2 : (k : Int) < (n : Int) := by omega
      have hn := HN.out
      have huu := HG.out.ur _ (List.mem_of_getElem? hx)
      have HRr := Lib.hid (fun (u : World) => rrunner_any a b h l x u huu)
      have K4 := Blk.new wr 40 #[.int .i64 a, .int .i64 b, .int .u64 (h : Int), .int .u64 (l : Int), .int .u64 (x : Int)]
      replace K0 := K0.alloc (.cells #[.int .i64 a, .int .i64 b, .int .u64 (h : Int), .int .u64 (l : Int), .int .u64 (x : Int)] 40)
      replace hB := hB.alloc hsz (.cells #[.int .i64 a, .int .i64 b, .int .u64 (h : Int), .int .u64 (l : Int), .int .u64 (x : Int)] 40)
      have Hlt := Lib.hid hlt
      have hk1000 : k < 1000 := by omega
      clear hx hb1 huu
      go_upto_region 4 with fail
      obtain ⟨Y, hY⟩ : ∃ Y, wr.alloc (.cells #[.int .i64 a, .int .i64 b, .int .u64 (h : Int), .int .u64 (l : Int), .int .u64 (x : Int)] 40) = Y := ⟨_, rfl⟩
      obtain ⟨g4, hg4⟩ : ∃ j, wr.heap.size = j := ⟨_, rfl⟩
      rw [hY] at K0 K4 hB ⊢
      rw [hg4] at K4 ⊢
      clear hY hg4 d0 d1 d2 d3 d4 hsz
      cases hr : rightR (a, b, h, l, x) with
      | false =>
        rw [hr] at HRr
        have HV : Hid (rightQ qs = false) := Lib.hid (rightQ_no (fun q => by have := q.each _ (List.mem_of_getElem? HX.out); rw [hr] at this; cases this))
        clear hr hlt
        replace K0 : Blk Y.drew _ _ _ := K0
        replace K4 : Blk Y.drew _ _ _ := K4
        replace hB := hB.drew
        refine wp_region_held_drew (S := fun u => Below w.heap.size w u ∧ Blk u w.heap.size 26 #[.slice (some ad) n c] ∧ Blk u g4 40 #[.int .i64 a, .int .i64 b, .int .u64 (h : Int), .int .u64 (l : Int), .int .u64 (x : Int)]) (by kernel_rfl) ⟨hB, K0, K4⟩ (fun hS => ?_)
        generalize Y.drew = V at K0 K4 hB hS ⊢
        refine wpAnyH_take (i := 0) (v := .agg #[.int .i64 a, .int .i64 b, .int .u64 (h : Int), .int .u64 (l : Int), .int .u64 (x : Int)]) rfl (by kernel_rfl) (by kernel_rfl) (by kernel_rfl) (fun _ _ _ h => h) (Or.inl ⟨by kernel_rfl, fun u hSw => (by have q0 := hSw.2.2.cell 0; have q1 := hSw.2.2.cell 1; have q2 := hSw.2.2.cell 2; have q3 := hSw.2.2.cell 3; have q4 := hSw.2.2.cell 4; go_simp)⟩) hS ?_
        change wpAnyH _ _ _ _ _ _ _ (Act.put _ (some 13) _) _
        simp only [Act.put]
        try simp only [List.setIfInBounds_toArray, List.set_cons_zero, List.set_cons_succ]
        refine wpAnyH_ready (rs := [1]) (by kernel_rfl) (by simp) ?_
        refine AllReadyH.cons rfl (fun K hK => ?_) AllReadyH.nil
        go_simp
        refine (HRr.out _).mono ?_
        rintro e1 w1 ⟨rfl, h9⟩
        replace K0 := K0.below h9 K0.lt
        replace K4 := K4.below h9 K4.lt
        replace hB := hB.trans (h9.mono hB.size)
        clear h9
        refine hK.out _ _ ⟨hB, K0, K4⟩ (fun hS => ?_)
        clear hK K
        refine wpAnyH_take (i := 2) (v := .bool true) rfl (by kernel_rfl) (by kernel_rfl) (by kernel_rfl) (fun _ _ _ h => h) (Or.inl ⟨by kernel_rfl, fun u hSw => (by go_simp)⟩) hS ?_
        change wpAnyH _ _ _ _ _ _ _ (Act.put _ (some 15) _) _
        simp only [Act.put]
        try simp only [List.setIfInBounds_toArray, List.set_cons_zero, List.set_cons_succ]
        refine wpAnyH_take (i := 3) (v := .bool true) rfl (by kernel_rfl) (by kernel_rfl) (by kernel_rfl) (fun _ _ _ h => h) (Or.inl ⟨by kernel_rfl, fun u hSw => (by go_simp)⟩) hS ?_
        change wpAnyH _ _ _ _ _ _ _ (Act.put _ (some 16) _) _
        simp only [Act.put]
        try simp only [List.setIfInBounds_toArray, List.set_cons_zero, List.set_cons_succ]
        refine wpAnyH_take (i := 4) (v := undef) rfl (by kernel_rfl) (by kernel_rfl) (by kernel_rfl) (fun _ _ _ h => h) (Or.inr ⟨by kernel_rfl, rfl⟩) hS ?_
        change wpAnyH _ _ _ _ _ _ _ (Act.put _ (some 17) _) _
        simp only [Act.put]
        try simp only [List.setIfInBounds_toArray, List.set_cons_zero, List.set_cons_succ]
        refine wpAnyH_take (i := 5) (v := undef) rfl (by kernel_rfl) (by kernel_rfl) (by kernel_rfl) (fun _ _ _ h => h) (Or.inr ⟨by kernel_rfl, rfl⟩) hS ?_
        change wpAnyH _ _ _ _ _ _ _ (Act.put _ (some 18) _) _
        simp only [Act.put]
        try simp only [List.setIfInBounds_toArray, List.set_cons_zero, List.set_cons_succ]
        refine wpAnyH_take (i := 6) (v := undef) rfl (by kernel_rfl) (by kernel_rfl) (by kernel_rfl) (fun _ _ _ h => h) (Or.inr ⟨by kernel_rfl, rfl⟩) hS ?_
        change wpAnyH _ _ _ _ _ _ _ (Act.put _ (some 19) _) _
        simp only [Act.put]
        try simp only [List.setIfInBounds_toArray, List.set_cons_zero, List.set_cons_succ]
        refine wpAnyH_take (i := 7) (v := undef) rfl (by kernel_rfl) (by kernel_rfl) (by kernel_rfl) (fun _ _ _ h => h) (Or.inr ⟨by kernel_rfl, rfl⟩) hS ?_
        change wpAnyH _ _ _ _ _ _ _ (Act.put _ (some 20) _) _
        simp only [Act.put]
        try simp only [List.setIfInBounds_toArray, List.set_cons_zero, List.set_cons_succ]
        refine wpAnyH_take (i := 8) (v := undef) rfl (by kernel_rfl) (by kernel_rfl) (by kernel_rfl) (fun _ _ _ h => h) (Or.inr ⟨by kernel_rfl, rfl⟩) hS ?_
        change wpAnyH _ _ _ _ _ _ _ (Act.put _ (some 21) _) _
        simp only [Act.put]
        try simp only [List.setIfInBounds_toArray, List.set_cons_zero, List.set_cons_succ]
        refine wpAnyH_take (i := 9) (v := undef) rfl (by kernel_rfl) (by kernel_rfl) (by kernel_rfl) (fun _ _ _ h => h) (Or.inr ⟨by kernel_rfl, rfl⟩) hS ?_
        change wpAnyH _ _ _ _ _ _ _ (Act.put _ (some 22) _) _
        simp only [Act.put]
        try simp only [List.setIfInBounds_toArray, List.set_cons_zero, List.set_cons_succ]
        refine wpAnyH_take (i := 10) (v := undef) rfl (by kernel_rfl) (by kernel_rfl) (by kernel_rfl) (fun _ _ _ h => h) (Or.inr ⟨by kernel_rfl, rfl⟩) hS ?_
        change wpAnyH _ _ _ _ _ _ _ (Act.put _ (some 23) _) _
        simp only [Act.put]
        try simp only [List.setIfInBounds_toArray, List.set_cons_zero, List.set_cons_succ]
        refine wpAnyH_take (i := 11) (v := undef) rfl (by kernel_rfl) (by kernel_rfl) (by kernel_rfl) (fun _ _ _ h => h) (Or.inr ⟨by kernel_rfl, rfl⟩) hS ?_
        change wpAnyH _ _ _ _ _ _ _ (Act.put _ (some 24) _) _
        simp only [Act.put]
        try simp only [List.setIfInBounds_toArray, List.set_cons_zero, List.set_cons_succ]
        refine wpAnyH_take (i := 12) (v := undef) rfl (by kernel_rfl) (by kernel_rfl) (by kernel_rfl) (fun _ _ _ h => h) (Or.inr ⟨by kernel_rfl, rfl⟩) hS ?_
        change wpAnyH _ _ _ _ _ _ _ (Act.put _ (some 25) _) _
        simp only [Act.put]
        try simp only [List.setIfInBounds_toArray, List.set_cons_zero, List.set_cons_succ]
        refine wpAnyH_take (i := 13) (v := undef) rfl (by kernel_rfl) (by kernel_rfl) (by kernel_rfl) (fun _ _ _ h => h) (Or.inr ⟨by kernel_rfl, rfl⟩) hS ?_
        change wpAnyH _ _ _ _ _ _ _ (Act.put _ (some 26) _) _
        simp only [Act.put]
        try simp only [List.setIfInBounds_toArray, List.set_cons_zero, List.set_cons_succ]
        refine wpAnyH_take (i := 14) (v := undef) rfl (by kernel_rfl) (by kernel_rfl) (by kernel_rfl) (fun _ _ _ h => h) (Or.inr ⟨by kernel_rfl, rfl⟩) hS ?_
        change wpAnyH _ _ _ _ _ _ _ (Act.put _ (some 27) _) _
        simp only [Act.put]
        try simp only [List.setIfInBounds_toArray, List.set_cons_zero, List.set_cons_succ]
        refine wpAnyH_take (i := 15) (v := undef) rfl (by kernel_rfl) (by kernel_rfl) (by kernel_rfl) (fun _ _ _ h => h) (Or.inr ⟨by kernel_rfl, rfl⟩) hS ?_
        change wpAnyH _ _ _ _ _ _ _ (Act.put _ (some 28) _) _
        simp only [Act.put]
        try simp only [List.setIfInBounds_toArray, List.set_cons_zero, List.set_cons_succ]
        refine wpAnyH_take (i := 16) (v := undef) rfl (by kernel_rfl) (by kernel_rfl) (by kernel_rfl) (fun _ _ _ h => h) (Or.inr ⟨by kernel_rfl, rfl⟩) hS ?_
        change wpAnyH _ _ _ _ _ _ _ (Act.put _ (some 29) _) _
        simp only [Act.put]
        try simp only [List.setIfInBounds_toArray, List.set_cons_zero, List.set_cons_succ]
        refine wpAnyH_take (i := 17) (v := undef) rfl (by kernel_rfl) (by kernel_rfl) (by kernel_rfl) (fun _ _ _ h => h) (Or.inr ⟨by kernel_rfl, rfl⟩) hS ?_
        change wpAnyH _ _ _ _ _ _ _ (Act.put _ (some 30) _) _
        simp only [Act.put]
        try simp only [List.setIfInBounds_toArray, List.set_cons_zero, List.set_cons_succ]
        refine wpAnyH_take (i := 18) (v := .bool true) rfl (by kernel_rfl) (by kernel_rfl) (by kernel_rfl) (fun _ _ _ h => h) (Or.inl ⟨by kernel_rfl, fun u hSw => (by go_simp)⟩) hS ?_
        change wpAnyH _ _ _ _ _ _ _ (Act.put _ (some 31) _) _
        simp only [Act.put]
        try simp only [List.setIfInBounds_toArray, List.set_cons_zero, List.set_cons_succ]
        refine wpAnyH_done (by kernel_rfl) ?_ _
        clear hS
        have HE := Lib.hid hB
        clear hB K0 K4
        go_wp2
        go_ret
        exact ⟨retB HV.out.symm, HE.out⟩
      | true =>
        rw [hr] at HRr
        by_cases h0 : 0 < k
        · have H0k : Hid (0 < k) := Lib.hid h0
          obtain ⟨j, hj⟩ : ∃ j, k = j + 1 := ⟨k - 1, by omega⟩
          have HJ : Hid (IntKind.i64.wrap ((k : Int) - 1) = (j : Int)) := Lib.hid (by rw [IntKind.wrap_i64]; omega)
          obtain ⟨⟨py, p2, p3, p4, p5⟩, hp⟩ := elem_at (l := qs) (k := j) (by rw [HG.out.len]; omega)
          have HPp := Lib.hid hp
          have HPv : Hid (∀ u, Below w.heap.size w u → u.cell? (ad.add (j * 5)) = some (.int .i64 py)) := Lib.hid (fun u hu => by
            obtain ⟨ad2, e2, _, q0, _⟩ := rn_at (HG.out.below hu).row hp
            injection e2 with e2
            subst e2
            exact q0)
          have j1 : (0 : Int) ≤ (j : Int) := by omega
          have j2 : (j : Int) < (n : Int) := by omega
          have Hkj := Lib.hid hj
          by_cases hg : a ≤ py
          · have c1 : decide (a ≤ py) = true := decide_eq_true hg
            have HV : Hid (rightQ qs = false) := Lib.hid (rightQ_no (fun q => by have := rise_at q.rise (show j < k by omega) hp HX.out; simp only at this; omega))
            clear hr hlt h0 hj hp hg
            replace K0 : Blk Y.drew _ _ _ := K0
            replace K4 : Blk Y.drew _ _ _ := K4
            replace hB := hB.drew
            refine wp_region_held_drew (S := fun u => Below w.heap.size w u ∧ Blk u w.heap.size 26 #[.slice (some ad) n c] ∧ Blk u g4 40 #[.int .i64 a, .int .i64 b, .int .u64 (h : Int), .int .u64 (l : Int), .int .u64 (x : Int)]) (by kernel_rfl) ⟨hB, K0, K4⟩ (fun hS => ?_)
            generalize Y.drew = V at K0 K4 hB hS ⊢
            refine wpAnyH_take (i := 0) (v := .agg #[.int .i64 a, .int .i64 b, .int .u64 (h : Int), .int .u64 (l : Int), .int .u64 (x : Int)]) rfl (by kernel_rfl) (by kernel_rfl) (by kernel_rfl) (fun _ _ _ h => h) (Or.inl ⟨by kernel_rfl, fun u hSw => (by have q0 := hSw.2.2.cell 0; have q1 := hSw.2.2.cell 1; have q2 := hSw.2.2.cell 2; have q3 := hSw.2.2.cell 3; have q4 := hSw.2.2.cell 4; go_simp)⟩) hS ?_
            change wpAnyH _ _ _ _ _ _ _ (Act.put _ (some 13) _) _
            simp only [Act.put]
            try simp only [List.setIfInBounds_toArray, List.set_cons_zero, List.set_cons_succ]
            refine wpAnyH_ready (rs := [1]) (by kernel_rfl) (by simp) ?_
            refine AllReadyH.cons rfl (fun K hK => ?_) AllReadyH.nil
            go_simp
            refine (HRr.out _).mono ?_
            rintro e1 w1 ⟨rfl, h9⟩
            replace K0 := K0.below h9 K0.lt
            replace K4 := K4.below h9 K4.lt
            replace hB := hB.trans (h9.mono hB.size)
            clear h9
            refine hK.out _ _ ⟨hB, K0, K4⟩ (fun hS => ?_)
            clear hK K
            refine wpAnyH_take (i := 2) (v := .bool false) rfl (by kernel_rfl) (by kernel_rfl) (by kernel_rfl) (fun _ _ _ h => h) (Or.inl ⟨by kernel_rfl, fun u hSw => (by go_simp)⟩) hS ?_
            change wpAnyH _ _ _ _ _ _ _ (Act.put _ (some 15) _) _
            simp only [Act.put]
            try simp only [List.setIfInBounds_toArray, List.set_cons_zero, List.set_cons_succ]
            refine wpAnyH_take (i := 3) (v := .bool false) rfl (by kernel_rfl) (by kernel_rfl) (by kernel_rfl) (fun _ _ _ h => h) (Or.inl ⟨by kernel_rfl, fun u hSw => (by go_simp)⟩) hS ?_
            change wpAnyH _ _ _ _ _ _ _ (Act.put _ (some 16) _) _
            simp only [Act.put]
            try simp only [List.setIfInBounds_toArray, List.set_cons_zero, List.set_cons_succ]
            refine wpAnyH_take (i := 4) (v := .int .i64 (k : Int)) rfl (by kernel_rfl) (by kernel_rfl) (by kernel_rfl) (fun _ _ _ h => h) (Or.inl ⟨by kernel_rfl, fun u hSw => (by go_simp)⟩) hS ?_
            change wpAnyH _ _ _ _ _ _ _ (Act.put _ (some 17) _) _
            simp only [Act.put]
            try simp only [List.setIfInBounds_toArray, List.set_cons_zero, List.set_cons_succ]
            refine wpAnyH_take (i := 5) (v := .bool true) rfl (by kernel_rfl) (by kernel_rfl) (by kernel_rfl) (fun _ _ _ h => h) (Or.inl ⟨by kernel_rfl, fun u hSw => (by go_simp; exact H0k.out)⟩) hS ?_
            change wpAnyH _ _ _ _ _ _ _ (Act.put _ (some 18) _) _
            simp only [Act.put]
            try simp only [List.setIfInBounds_toArray, List.set_cons_zero, List.set_cons_succ]
            refine wpAnyH_take (i := 6) (v := .bool true) rfl (by kernel_rfl) (by kernel_rfl) (by kernel_rfl) (fun _ _ _ h => h) (Or.inl ⟨by kernel_rfl, fun u hSw => (by go_simp)⟩) hS ?_
            change wpAnyH _ _ _ _ _ _ _ (Act.put _ (some 19) _) _
            simp only [Act.put]
            try simp only [List.setIfInBounds_toArray, List.set_cons_zero, List.set_cons_succ]
            refine wpAnyH_take (i := 7) (v := .pointer (some ⟨w.heap.size, 0, none⟩)) rfl (by kernel_rfl) (by kernel_rfl) (by kernel_rfl) (fun _ _ _ h => h) (Or.inl ⟨by kernel_rfl, fun u hSw => (by go_simp)⟩) hS ?_
            change wpAnyH _ _ _ _ _ _ _ (Act.put _ (some 20) _) _
            simp only [Act.put]
            try simp only [List.setIfInBounds_toArray, List.set_cons_zero, List.set_cons_succ]
            refine wpAnyH_take (i := 8) (v := .slice (some ad) n c) rfl (by kernel_rfl) (by kernel_rfl) (by kernel_rfl) (fun _ _ _ h => h) (Or.inl ⟨by kernel_rfl, fun u hSw => (by have q0 := hSw.2.1.cell 0; go_simp)⟩) hS ?_
            change wpAnyH _ _ _ _ _ _ _ (Act.put _ (some 21) _) _
            simp only [Act.put]
            try simp only [List.setIfInBounds_toArray, List.set_cons_zero, List.set_cons_succ]
            refine wpAnyH_take (i := 9) (v := .int .i64 (k : Int)) rfl (by kernel_rfl) (by kernel_rfl) (by kernel_rfl) (fun _ _ _ h => h) (Or.inl ⟨by kernel_rfl, fun u hSw => (by go_simp)⟩) hS ?_
            change wpAnyH _ _ _ _ _ _ _ (Act.put _ (some 22) _) _
            simp only [Act.put]
            try simp only [List.setIfInBounds_toArray, List.set_cons_zero, List.set_cons_succ]
            refine wpAnyH_take (i := 10) (v := .int .i64 (j : Int)) rfl (by kernel_rfl) (by kernel_rfl) (by kernel_rfl) (fun _ _ _ h => h) (Or.inl ⟨by kernel_rfl, fun u hSw => (by go_simp; exact HJ.out)⟩) hS ?_
            change wpAnyH _ _ _ _ _ _ _ (Act.put _ (some 23) _) _
            simp only [Act.put]
            try simp only [List.setIfInBounds_toArray, List.set_cons_zero, List.set_cons_succ]
            refine wpAnyH_take (i := 11) (v := .pointer (some (ad.add (j * 5)))) rfl (by kernel_rfl) (by kernel_rfl) (by kernel_rfl) (fun _ _ _ h => h) (Or.inl ⟨by kernel_rfl, fun u hSw => (by go_simp)⟩) hS ?_
            change wpAnyH _ _ _ _ _ _ _ (Act.put _ (some 24) _) _
            simp only [Act.put]
            try simp only [List.setIfInBounds_toArray, List.set_cons_zero, List.set_cons_succ]
            refine wpAnyH_take (i := 12) (v := .pointer (some (ad.add (j * 5)))) rfl (by kernel_rfl) (by kernel_rfl) (by kernel_rfl) (fun _ _ _ h => h) (Or.inl ⟨by kernel_rfl, fun u hSw => (by go_simp)⟩) hS ?_
            change wpAnyH _ _ _ _ _ _ _ (Act.put _ (some 25) _) _
            simp only [Act.put]
            try simp only [List.setIfInBounds_toArray, List.set_cons_zero, List.set_cons_succ]
            refine wpAnyH_take (i := 13) (v := .int .i64 py) rfl (by kernel_rfl) (by kernel_rfl) (by kernel_rfl) (fun _ _ _ h => h) (Or.inl ⟨by kernel_rfl, fun u hSw => (by have q0 := HPv.out u hSw.1; go_simp)⟩) hS ?_
            change wpAnyH _ _ _ _ _ _ _ (Act.put _ (some 26) _) _
            simp only [Act.put]
            try simp only [List.setIfInBounds_toArray, List.set_cons_zero, List.set_cons_succ]
            refine wpAnyH_take (i := 14) (v := .pointer (some ⟨g4, 0, none⟩)) rfl (by kernel_rfl) (by kernel_rfl) (by kernel_rfl) (fun _ _ _ h => h) (Or.inl ⟨by kernel_rfl, fun u hSw => (by go_simp)⟩) hS ?_
            change wpAnyH _ _ _ _ _ _ _ (Act.put _ (some 27) _) _
            simp only [Act.put]
            try simp only [List.setIfInBounds_toArray, List.set_cons_zero, List.set_cons_succ]
            refine wpAnyH_take (i := 15) (v := .int .i64 a) rfl (by kernel_rfl) (by kernel_rfl) (by kernel_rfl) (fun _ _ _ h => h) (Or.inl ⟨by kernel_rfl, fun u hSw => (by have q0 := hSw.2.2.cell 0; go_simp)⟩) hS ?_
            change wpAnyH _ _ _ _ _ _ _ (Act.put _ (some 28) _) _
            simp only [Act.put]
            try simp only [List.setIfInBounds_toArray, List.set_cons_zero, List.set_cons_succ]
            refine wpAnyH_take (i := 16) (v := .bool true) rfl (by kernel_rfl) (by kernel_rfl) (by kernel_rfl) (fun _ _ _ h => h) (Or.inl ⟨by kernel_rfl, fun u hSw => (by go_simp)⟩) hS ?_
            change wpAnyH _ _ _ _ _ _ _ (Act.put _ (some 29) _) _
            simp only [Act.put]
            try simp only [List.setIfInBounds_toArray, List.set_cons_zero, List.set_cons_succ]
            refine wpAnyH_take (i := 17) (v := .bool true) rfl (by kernel_rfl) (by kernel_rfl) (by kernel_rfl) (fun _ _ _ h => h) (Or.inl ⟨by kernel_rfl, fun u hSw => (by go_simp)⟩) hS ?_
            change wpAnyH _ _ _ _ _ _ _ (Act.put _ (some 30) _) _
            simp only [Act.put]
            try simp only [List.setIfInBounds_toArray, List.set_cons_zero, List.set_cons_succ]
            refine wpAnyH_take (i := 18) (v := .bool true) rfl (by kernel_rfl) (by kernel_rfl) (by kernel_rfl) (fun _ _ _ h => h) (Or.inl ⟨by kernel_rfl, fun u hSw => (by go_simp)⟩) hS ?_
            change wpAnyH _ _ _ _ _ _ _ (Act.put _ (some 31) _) _
            simp only [Act.put]
            try simp only [List.setIfInBounds_toArray, List.set_cons_zero, List.set_cons_succ]
            refine wpAnyH_done (by kernel_rfl) ?_ _
            clear hS
            have HE := Lib.hid hB
            clear hB K0 K4
            go_wp2
            go_ret
            exact ⟨retB HV.out.symm, HE.out⟩
          · have c1 : decide (a ≤ py) = false := decide_eq_false hg
            have HS : Hid (RQ (qs.take (k + 1))) := Lib.hid (rq_snoc HA.out HX.out hr (fun y _ hy => by
              rw [show k - 1 = j by omega, hp] at hy
              rw [← Option.some.inj hy]
              simp only
              omega))
            clear hr hlt h0 hj hp hg
            replace K0 : Blk Y.drew _ _ _ := K0
            replace K4 : Blk Y.drew _ _ _ := K4
            replace hB := hB.drew
            refine wp_region_held_drew (S := fun u => Below w.heap.size w u ∧ Blk u w.heap.size 26 #[.slice (some ad) n c] ∧ Blk u g4 40 #[.int .i64 a, .int .i64 b, .int .u64 (h : Int), .int .u64 (l : Int), .int .u64 (x : Int)]) (by kernel_rfl) ⟨hB, K0, K4⟩ (fun hS => ?_)
            generalize Y.drew = V at K0 K4 hB hS ⊢
            refine wpAnyH_take (i := 0) (v := .agg #[.int .i64 a, .int .i64 b, .int .u64 (h : Int), .int .u64 (l : Int), .int .u64 (x : Int)]) rfl (by kernel_rfl) (by kernel_rfl) (by kernel_rfl) (fun _ _ _ h => h) (Or.inl ⟨by kernel_rfl, fun u hSw => (by have q0 := hSw.2.2.cell 0; have q1 := hSw.2.2.cell 1; have q2 := hSw.2.2.cell 2; have q3 := hSw.2.2.cell 3; have q4 := hSw.2.2.cell 4; go_simp)⟩) hS ?_
            change wpAnyH _ _ _ _ _ _ _ (Act.put _ (some 13) _) _
            simp only [Act.put]
            try simp only [List.setIfInBounds_toArray, List.set_cons_zero, List.set_cons_succ]
            refine wpAnyH_ready (rs := [1]) (by kernel_rfl) (by simp) ?_
            refine AllReadyH.cons rfl (fun K hK => ?_) AllReadyH.nil
            go_simp
            refine (HRr.out _).mono ?_
            rintro e1 w1 ⟨rfl, h9⟩
            replace K0 := K0.below h9 K0.lt
            replace K4 := K4.below h9 K4.lt
            replace hB := hB.trans (h9.mono hB.size)
            clear h9
            refine hK.out _ _ ⟨hB, K0, K4⟩ (fun hS => ?_)
            clear hK K
            refine wpAnyH_take (i := 2) (v := .bool false) rfl (by kernel_rfl) (by kernel_rfl) (by kernel_rfl) (fun _ _ _ h => h) (Or.inl ⟨by kernel_rfl, fun u hSw => (by go_simp)⟩) hS ?_
            change wpAnyH _ _ _ _ _ _ _ (Act.put _ (some 15) _) _
            simp only [Act.put]
            try simp only [List.setIfInBounds_toArray, List.set_cons_zero, List.set_cons_succ]
            refine wpAnyH_take (i := 3) (v := .bool false) rfl (by kernel_rfl) (by kernel_rfl) (by kernel_rfl) (fun _ _ _ h => h) (Or.inl ⟨by kernel_rfl, fun u hSw => (by go_simp)⟩) hS ?_
            change wpAnyH _ _ _ _ _ _ _ (Act.put _ (some 16) _) _
            simp only [Act.put]
            try simp only [List.setIfInBounds_toArray, List.set_cons_zero, List.set_cons_succ]
            refine wpAnyH_take (i := 4) (v := .int .i64 (k : Int)) rfl (by kernel_rfl) (by kernel_rfl) (by kernel_rfl) (fun _ _ _ h => h) (Or.inl ⟨by kernel_rfl, fun u hSw => (by go_simp)⟩) hS ?_
            change wpAnyH _ _ _ _ _ _ _ (Act.put _ (some 17) _) _
            simp only [Act.put]
            try simp only [List.setIfInBounds_toArray, List.set_cons_zero, List.set_cons_succ]
            refine wpAnyH_take (i := 5) (v := .bool true) rfl (by kernel_rfl) (by kernel_rfl) (by kernel_rfl) (fun _ _ _ h => h) (Or.inl ⟨by kernel_rfl, fun u hSw => (by go_simp; exact H0k.out)⟩) hS ?_
            change wpAnyH _ _ _ _ _ _ _ (Act.put _ (some 18) _) _
            simp only [Act.put]
            try simp only [List.setIfInBounds_toArray, List.set_cons_zero, List.set_cons_succ]
            refine wpAnyH_take (i := 6) (v := .bool true) rfl (by kernel_rfl) (by kernel_rfl) (by kernel_rfl) (fun _ _ _ h => h) (Or.inl ⟨by kernel_rfl, fun u hSw => (by go_simp)⟩) hS ?_
            change wpAnyH _ _ _ _ _ _ _ (Act.put _ (some 19) _) _
            simp only [Act.put]
            try simp only [List.setIfInBounds_toArray, List.set_cons_zero, List.set_cons_succ]
            refine wpAnyH_take (i := 7) (v := .pointer (some ⟨w.heap.size, 0, none⟩)) rfl (by kernel_rfl) (by kernel_rfl) (by kernel_rfl) (fun _ _ _ h => h) (Or.inl ⟨by kernel_rfl, fun u hSw => (by go_simp)⟩) hS ?_
            change wpAnyH _ _ _ _ _ _ _ (Act.put _ (some 20) _) _
            simp only [Act.put]
            try simp only [List.setIfInBounds_toArray, List.set_cons_zero, List.set_cons_succ]
            refine wpAnyH_take (i := 8) (v := .slice (some ad) n c) rfl (by kernel_rfl) (by kernel_rfl) (by kernel_rfl) (fun _ _ _ h => h) (Or.inl ⟨by kernel_rfl, fun u hSw => (by have q0 := hSw.2.1.cell 0; go_simp)⟩) hS ?_
            change wpAnyH _ _ _ _ _ _ _ (Act.put _ (some 21) _) _
            simp only [Act.put]
            try simp only [List.setIfInBounds_toArray, List.set_cons_zero, List.set_cons_succ]
            refine wpAnyH_take (i := 9) (v := .int .i64 (k : Int)) rfl (by kernel_rfl) (by kernel_rfl) (by kernel_rfl) (fun _ _ _ h => h) (Or.inl ⟨by kernel_rfl, fun u hSw => (by go_simp)⟩) hS ?_
            change wpAnyH _ _ _ _ _ _ _ (Act.put _ (some 22) _) _
            simp only [Act.put]
            try simp only [List.setIfInBounds_toArray, List.set_cons_zero, List.set_cons_succ]
            refine wpAnyH_take (i := 10) (v := .int .i64 (j : Int)) rfl (by kernel_rfl) (by kernel_rfl) (by kernel_rfl) (fun _ _ _ h => h) (Or.inl ⟨by kernel_rfl, fun u hSw => (by go_simp; exact HJ.out)⟩) hS ?_
            change wpAnyH _ _ _ _ _ _ _ (Act.put _ (some 23) _) _
            simp only [Act.put]
            try simp only [List.setIfInBounds_toArray, List.set_cons_zero, List.set_cons_succ]
            refine wpAnyH_take (i := 11) (v := .pointer (some (ad.add (j * 5)))) rfl (by kernel_rfl) (by kernel_rfl) (by kernel_rfl) (fun _ _ _ h => h) (Or.inl ⟨by kernel_rfl, fun u hSw => (by go_simp)⟩) hS ?_
            change wpAnyH _ _ _ _ _ _ _ (Act.put _ (some 24) _) _
            simp only [Act.put]
            try simp only [List.setIfInBounds_toArray, List.set_cons_zero, List.set_cons_succ]
            refine wpAnyH_take (i := 12) (v := .pointer (some (ad.add (j * 5)))) rfl (by kernel_rfl) (by kernel_rfl) (by kernel_rfl) (fun _ _ _ h => h) (Or.inl ⟨by kernel_rfl, fun u hSw => (by go_simp)⟩) hS ?_
            change wpAnyH _ _ _ _ _ _ _ (Act.put _ (some 25) _) _
            simp only [Act.put]
            try simp only [List.setIfInBounds_toArray, List.set_cons_zero, List.set_cons_succ]
            refine wpAnyH_take (i := 13) (v := .int .i64 py) rfl (by kernel_rfl) (by kernel_rfl) (by kernel_rfl) (fun _ _ _ h => h) (Or.inl ⟨by kernel_rfl, fun u hSw => (by have q0 := HPv.out u hSw.1; go_simp)⟩) hS ?_
            change wpAnyH _ _ _ _ _ _ _ (Act.put _ (some 26) _) _
            simp only [Act.put]
            try simp only [List.setIfInBounds_toArray, List.set_cons_zero, List.set_cons_succ]
            refine wpAnyH_take (i := 14) (v := .pointer (some ⟨g4, 0, none⟩)) rfl (by kernel_rfl) (by kernel_rfl) (by kernel_rfl) (fun _ _ _ h => h) (Or.inl ⟨by kernel_rfl, fun u hSw => (by go_simp)⟩) hS ?_
            change wpAnyH _ _ _ _ _ _ _ (Act.put _ (some 27) _) _
            simp only [Act.put]
            try simp only [List.setIfInBounds_toArray, List.set_cons_zero, List.set_cons_succ]
            refine wpAnyH_take (i := 15) (v := .int .i64 a) rfl (by kernel_rfl) (by kernel_rfl) (by kernel_rfl) (fun _ _ _ h => h) (Or.inl ⟨by kernel_rfl, fun u hSw => (by have q0 := hSw.2.2.cell 0; go_simp)⟩) hS ?_
            change wpAnyH _ _ _ _ _ _ _ (Act.put _ (some 28) _) _
            simp only [Act.put]
            try simp only [List.setIfInBounds_toArray, List.set_cons_zero, List.set_cons_succ]
            refine wpAnyH_take (i := 16) (v := .bool false) rfl (by kernel_rfl) (by kernel_rfl) (by kernel_rfl) (fun _ _ _ h => h) (Or.inl ⟨by kernel_rfl, fun u hSw => (by go_simp)⟩) hS ?_
            change wpAnyH _ _ _ _ _ _ _ (Act.put _ (some 29) _) _
            simp only [Act.put]
            try simp only [List.setIfInBounds_toArray, List.set_cons_zero, List.set_cons_succ]
            refine wpAnyH_take (i := 17) (v := .bool false) rfl (by kernel_rfl) (by kernel_rfl) (by kernel_rfl) (fun _ _ _ h => h) (Or.inl ⟨by kernel_rfl, fun u hSw => (by go_simp)⟩) hS ?_
            change wpAnyH _ _ _ _ _ _ _ (Act.put _ (some 30) _) _
            simp only [Act.put]
            try simp only [List.setIfInBounds_toArray, List.set_cons_zero, List.set_cons_succ]
            refine wpAnyH_take (i := 18) (v := .bool false) rfl (by kernel_rfl) (by kernel_rfl) (by kernel_rfl) (fun _ _ _ h => h) (Or.inl ⟨by kernel_rfl, fun u hSw => (by go_simp)⟩) hS ?_
            change wpAnyH _ _ _ _ _ _ _ (Act.put _ (some 31) _) _
            simp only [Act.put]
            try simp only [List.setIfInBounds_toArray, List.set_cons_zero, List.set_cons_succ]
            refine wpAnyH_done (by kernel_rfl) ?_ _
            clear hS
            have HE := Lib.hid hB
            have HK := Lib.hid K0
            clear hB K0 K4
            go_wp2_with fail
            go_roundw
            case rel => exact ⟨k + 1, Hlt.out, by go_num, HS, HK.out, HE.out⟩
            case measure => have := Hlt.out; simp [intOf] <;> omega
        · have H0k : Hid (k = 0) := Lib.hid (by omega)
          have HS : Hid (RQ (qs.take (k + 1))) := Lib.hid (rq_snoc HA.out HX.out hr (fun y hy => absurd hy h0))
          clear hr hlt h0
          replace K0 : Blk Y.drew _ _ _ := K0
          replace K4 : Blk Y.drew _ _ _ := K4
          replace hB := hB.drew
          refine wp_region_held_drew (S := fun u => Below w.heap.size w u ∧ Blk u w.heap.size 26 #[.slice (some ad) n c] ∧ Blk u g4 40 #[.int .i64 a, .int .i64 b, .int .u64 (h : Int), .int .u64 (l : Int), .int .u64 (x : Int)]) (by kernel_rfl) ⟨hB, K0, K4⟩ (fun hS => ?_)
          generalize Y.drew = V at K0 K4 hB hS ⊢
          refine wpAnyH_take (i := 0) (v := .agg #[.int .i64 a, .int .i64 b, .int .u64 (h : Int), .int .u64 (l : Int), .int .u64 (x : Int)]) rfl (by kernel_rfl) (by kernel_rfl) (by kernel_rfl) (fun _ _ _ h => h) (Or.inl ⟨by kernel_rfl, fun u hSw => (by have q0 := hSw.2.2.cell 0; have q1 := hSw.2.2.cell 1; have q2 := hSw.2.2.cell 2; have q3 := hSw.2.2.cell 3; have q4 := hSw.2.2.cell 4; go_simp)⟩) hS ?_
          change wpAnyH _ _ _ _ _ _ _ (Act.put _ (some 13) _) _
          simp only [Act.put]
          try simp only [List.setIfInBounds_toArray, List.set_cons_zero, List.set_cons_succ]
          refine wpAnyH_ready (rs := [1]) (by kernel_rfl) (by simp) ?_
          refine AllReadyH.cons rfl (fun K hK => ?_) AllReadyH.nil
          go_simp
          refine (HRr.out _).mono ?_
          rintro e1 w1 ⟨rfl, h9⟩
          replace K0 := K0.below h9 K0.lt
          replace K4 := K4.below h9 K4.lt
          replace hB := hB.trans (h9.mono hB.size)
          clear h9
          refine hK.out _ _ ⟨hB, K0, K4⟩ (fun hS => ?_)
          clear hK K
          refine wpAnyH_take (i := 2) (v := .bool false) rfl (by kernel_rfl) (by kernel_rfl) (by kernel_rfl) (fun _ _ _ h => h) (Or.inl ⟨by kernel_rfl, fun u hSw => (by go_simp)⟩) hS ?_
          change wpAnyH _ _ _ _ _ _ _ (Act.put _ (some 15) _) _
          simp only [Act.put]
          try simp only [List.setIfInBounds_toArray, List.set_cons_zero, List.set_cons_succ]
          refine wpAnyH_take (i := 3) (v := .bool false) rfl (by kernel_rfl) (by kernel_rfl) (by kernel_rfl) (fun _ _ _ h => h) (Or.inl ⟨by kernel_rfl, fun u hSw => (by go_simp)⟩) hS ?_
          change wpAnyH _ _ _ _ _ _ _ (Act.put _ (some 16) _) _
          simp only [Act.put]
          try simp only [List.setIfInBounds_toArray, List.set_cons_zero, List.set_cons_succ]
          refine wpAnyH_take (i := 4) (v := .int .i64 (k : Int)) rfl (by kernel_rfl) (by kernel_rfl) (by kernel_rfl) (fun _ _ _ h => h) (Or.inl ⟨by kernel_rfl, fun u hSw => (by go_simp)⟩) hS ?_
          change wpAnyH _ _ _ _ _ _ _ (Act.put _ (some 17) _) _
          simp only [Act.put]
          try simp only [List.setIfInBounds_toArray, List.set_cons_zero, List.set_cons_succ]
          refine wpAnyH_take (i := 5) (v := .bool false) rfl (by kernel_rfl) (by kernel_rfl) (by kernel_rfl) (fun _ _ _ h => h) (Or.inl ⟨by kernel_rfl, fun u hSw => (by go_simp; exact H0k.out)⟩) hS ?_
          change wpAnyH _ _ _ _ _ _ _ (Act.put _ (some 18) _) _
          simp only [Act.put]
          try simp only [List.setIfInBounds_toArray, List.set_cons_zero, List.set_cons_succ]
          refine wpAnyH_take (i := 6) (v := .bool false) rfl (by kernel_rfl) (by kernel_rfl) (by kernel_rfl) (fun _ _ _ h => h) (Or.inl ⟨by kernel_rfl, fun u hSw => (by go_simp)⟩) hS ?_
          change wpAnyH _ _ _ _ _ _ _ (Act.put _ (some 19) _) _
          simp only [Act.put]
          try simp only [List.setIfInBounds_toArray, List.set_cons_zero, List.set_cons_succ]
          refine wpAnyH_take (i := 7) (v := undef) rfl (by kernel_rfl) (by kernel_rfl) (by kernel_rfl) (fun _ _ _ h => h) (Or.inr ⟨by kernel_rfl, rfl⟩) hS ?_
          change wpAnyH _ _ _ _ _ _ _ (Act.put _ (some 20) _) _
          simp only [Act.put]
          try simp only [List.setIfInBounds_toArray, List.set_cons_zero, List.set_cons_succ]
          refine wpAnyH_take (i := 8) (v := undef) rfl (by kernel_rfl) (by kernel_rfl) (by kernel_rfl) (fun _ _ _ h => h) (Or.inr ⟨by kernel_rfl, rfl⟩) hS ?_
          change wpAnyH _ _ _ _ _ _ _ (Act.put _ (some 21) _) _
          simp only [Act.put]
          try simp only [List.setIfInBounds_toArray, List.set_cons_zero, List.set_cons_succ]
          refine wpAnyH_take (i := 9) (v := undef) rfl (by kernel_rfl) (by kernel_rfl) (by kernel_rfl) (fun _ _ _ h => h) (Or.inr ⟨by kernel_rfl, rfl⟩) hS ?_
          change wpAnyH _ _ _ _ _ _ _ (Act.put _ (some 22) _) _
          simp only [Act.put]
          try simp only [List.setIfInBounds_toArray, List.set_cons_zero, List.set_cons_succ]
          refine wpAnyH_take (i := 10) (v := undef) rfl (by kernel_rfl) (by kernel_rfl) (by kernel_rfl) (fun _ _ _ h => h) (Or.inr ⟨by kernel_rfl, rfl⟩) hS ?_
          change wpAnyH _ _ _ _ _ _ _ (Act.put _ (some 23) _) _
          simp only [Act.put]
          try simp only [List.setIfInBounds_toArray, List.set_cons_zero, List.set_cons_succ]
          refine wpAnyH_take (i := 11) (v := undef) rfl (by kernel_rfl) (by kernel_rfl) (by kernel_rfl) (fun _ _ _ h => h) (Or.inr ⟨by kernel_rfl, rfl⟩) hS ?_
          change wpAnyH _ _ _ _ _ _ _ (Act.put _ (some 24) _) _
          simp only [Act.put]
          try simp only [List.setIfInBounds_toArray, List.set_cons_zero, List.set_cons_succ]
          refine wpAnyH_take (i := 12) (v := undef) rfl (by kernel_rfl) (by kernel_rfl) (by kernel_rfl) (fun _ _ _ h => h) (Or.inr ⟨by kernel_rfl, rfl⟩) hS ?_
          change wpAnyH _ _ _ _ _ _ _ (Act.put _ (some 25) _) _
          simp only [Act.put]
          try simp only [List.setIfInBounds_toArray, List.set_cons_zero, List.set_cons_succ]
          refine wpAnyH_take (i := 13) (v := undef) rfl (by kernel_rfl) (by kernel_rfl) (by kernel_rfl) (fun _ _ _ h => h) (Or.inr ⟨by kernel_rfl, rfl⟩) hS ?_
          change wpAnyH _ _ _ _ _ _ _ (Act.put _ (some 26) _) _
          simp only [Act.put]
          try simp only [List.setIfInBounds_toArray, List.set_cons_zero, List.set_cons_succ]
          refine wpAnyH_take (i := 14) (v := undef) rfl (by kernel_rfl) (by kernel_rfl) (by kernel_rfl) (fun _ _ _ h => h) (Or.inr ⟨by kernel_rfl, rfl⟩) hS ?_
          change wpAnyH _ _ _ _ _ _ _ (Act.put _ (some 27) _) _
          simp only [Act.put]
          try simp only [List.setIfInBounds_toArray, List.set_cons_zero, List.set_cons_succ]
          refine wpAnyH_take (i := 15) (v := undef) rfl (by kernel_rfl) (by kernel_rfl) (by kernel_rfl) (fun _ _ _ h => h) (Or.inr ⟨by kernel_rfl, rfl⟩) hS ?_
          change wpAnyH _ _ _ _ _ _ _ (Act.put _ (some 28) _) _
          simp only [Act.put]
          try simp only [List.setIfInBounds_toArray, List.set_cons_zero, List.set_cons_succ]
          refine wpAnyH_take (i := 16) (v := undef) rfl (by kernel_rfl) (by kernel_rfl) (by kernel_rfl) (fun _ _ _ h => h) (Or.inr ⟨by kernel_rfl, rfl⟩) hS ?_
          change wpAnyH _ _ _ _ _ _ _ (Act.put _ (some 29) _) _
          simp only [Act.put]
          try simp only [List.setIfInBounds_toArray, List.set_cons_zero, List.set_cons_succ]
          refine wpAnyH_take (i := 17) (v := .bool false) rfl (by kernel_rfl) (by kernel_rfl) (by kernel_rfl) (fun _ _ _ h => h) (Or.inl ⟨by kernel_rfl, fun u hSw => (by go_simp)⟩) hS ?_
          change wpAnyH _ _ _ _ _ _ _ (Act.put _ (some 30) _) _
          simp only [Act.put]
          try simp only [List.setIfInBounds_toArray, List.set_cons_zero, List.set_cons_succ]
          refine wpAnyH_take (i := 18) (v := .bool false) rfl (by kernel_rfl) (by kernel_rfl) (by kernel_rfl) (fun _ _ _ h => h) (Or.inl ⟨by kernel_rfl, fun u hSw => (by go_simp)⟩) hS ?_
          change wpAnyH _ _ _ _ _ _ _ (Act.put _ (some 31) _) _
          simp only [Act.put]
          try simp only [List.setIfInBounds_toArray, List.set_cons_zero, List.set_cons_succ]
          refine wpAnyH_done (by kernel_rfl) ?_ _
          clear hS
          have HE := Lib.hid hB
          have HK := Lib.hid K0
          clear hB K0 K4
          go_wp2_with fail
          go_roundw
          case rel => exact ⟨k + 1, Hlt.out, by go_num, HS, HK.out, HE.out⟩
          case measure => have := Hlt.out; simp [intOf] <;> omega
    · obtain rfl : k = n := by omega
      have HV : Hid (rightQ qs = true) := Lib.hid (rightQ_iff.2 (by
        have q := HA.out
        rwa [List.take_of_length_le (by rw [HG.out.len]; exact Nat.le_refl _)] at q))
      have HE := Lib.hid hB
      clear hB K0
      go_wp2
      go_ret
      exact ⟨retB HV.out.symm, HE.out⟩

/-- the document's Get, of whatever queue -/
def rgetQ (l : List Rn) (i : Int) : Rn × Bool := match kf l i with | some r => (r, true) | none => (zeroR, false)
theorem fnd_kf (l : List Rn) (i : Int) : (∃ (k : Nat) (x : Rn), l[k]? = some x ∧ fnd l i = (k : Int) ∧ kf l i = some x) ∨ (fnd l i = -1 ∧ kf l i = none) := by
  cases h : l.findIdx? (fun r => r.1 == i) with
  | none =>
    refine .inr (fnd_none (fun j y _ hy => ?_))
    have := List.findIdx?_eq_none_iff.1 h y (List.mem_of_getElem? hy)
    simpa using this
  | some k =>
    obtain ⟨hk, he, hn⟩ := List.findIdx?_eq_some_iff_getElem.1 h
    have hx := List.getElem?_eq_getElem hk
    refine .inl ⟨k, _, hx, fnd_some hx (by simpa using he) (fun j z hj hz => ?_)⟩
    obtain ⟨hjl, rfl⟩ := List.getElem?_eq_some_iff.1 hz
    simpa using hn j hj

set_option maxRecDepth 100000 in
set_option maxHeartbeats 4000000 in
theorem rget_any (A : Option Addr) (n c : Nat) (qs : List Rn) (i : Int) (w : World) (hG : QR w A n c qs) : Calls Try.prog 18 #[.agg #[.slice A n c], .int .i64 i] w (Said (.tuple #[.agg (agR (rgetQ qs i).1), .bool (rgetQ qs i).2]) w) := by
  obtain ⟨K0, K, GB⟩ := blks2 w 26 40 #[.slice A n c] #[.int .i64 0, .int .i64 0, .int .u64 0, .int .u64 0, .int .u64 0]
  have HG := Lib.hid hG
  have HF := Lib.hid (fun (u : World) (hu : Below w.heap.size w u) => rfind_any A n c qs i u (HG.out.below hu))
  have z0 := K0.cell 0
  clear hG
  unfold rgetQ agR
  rcases fnd_kf qs i with ⟨k, ⟨a, b, h, l, x⟩, hx, h1, h2⟩ | ⟨h1, h2⟩
  · rw [h1] at HF
    rw [h2]
    simp only
    have hkn : k < n := by have := (List.getElem?_eq_some_iff.1 hx).1; rw [HG.out.len] at this; exact this
    have i1 : (0 : Int) ≤ (k : Int) := by omega
    have i2 : (k : Int) < (n : Int) := by omega
    have HX := Lib.hid hx
    clear h1 h2 hx hkn
    go_enter Try.func18, Try.ntmps18
    go_wp2_with fail
    refine (HF.out _ GB).mono ?_
    rintro e w1 ⟨rfl, h9⟩
    replace K0 := K0.below h9 K0.lt
    replace K := K.below h9 K.lt
    replace GB := GB.trans (h9.mono GB.size)
    clear h9 z0
    obtain ⟨ad, rfl, hb1, d0, d1, d2, d3, d4⟩ := rn_at (HG.out.below GB).row HX.out
    have z0 := K0.cell 0
    have q0 := K.cell 0
    have q1 := K.cell 1
    have q2 := K.cell 2
    have q3 := K.cell 3
    have q4 := K.cell 4
    have f0 := K.frozen 0
    have f1 := K.frozen 1
    have f2 := K.frozen 2
    have f3 := K.frozen 3
    have f4 := K.frozen 4
    have HP := Lib.hid (put5 (x := .int .i64 a) (y := .int .i64 b) (z := .int .u64 (h : Int)) (p := .int .u64 (l : Int)) (q := .int .u64 (x : Int)) K GB (by omega))
    clear K0 K GB hb1
    go_wp2_with fail
    exact bodyPost_ret (v := .tuple #[.agg #[.int .i64 a, .int .i64 b, .int .u64 (h : Int), .int .u64 (l : Int), .int .u64 (x : Int)], .bool true]) (results_cell_row_tmp Try.results18 _ _ _ _ _ _ rfl HP.out.1 Try.underlying40 rfl (by kernel_rfl)) rfl ⟨rfl, HP.out.2⟩
  · rw [h1] at HF
    rw [h2]
    unfold zeroR
    simp only
    clear h1 h2
    go_enter Try.func18, Try.ntmps18
    go_wp2_with fail
    refine (HF.out _ GB).mono ?_
    rintro e w1 ⟨rfl, h9⟩
    replace K := K.below h9 K.lt
    replace GB := GB.trans (h9.mono GB.size)
    clear h9 z0
    have q0 := K.cell 0
    have q1 := K.cell 1
    have q2 := K.cell 2
    have q3 := K.cell 3
    have q4 := K.cell 4
    have f0 := K.frozen 0
    have f1 := K.frozen 1
    have f2 := K.frozen 2
    have f3 := K.frozen 3
    have f4 := K.frozen 4
    have HP := Lib.hid (put5 (x := .int .i64 0) (y := .int .i64 0) (z := .int .u64 0) (p := .int .u64 0) (q := .int .u64 0) K GB (by omega))
    clear K0 K GB
    go_wp2_with fail
    exact bodyPost_ret (v := .tuple #[.agg #[.int .i64 0, .int .i64 0, .int .u64 0, .int .u64 0, .int .u64 0], .bool false]) (results_cell_row_tmp Try.results18 _ _ _ _ _ _ rfl HP.out.1 Try.underlying40 rfl (by kernel_rfl)) rfl ⟨rfl, HP.out.2⟩

end Go.Proofs.Ytfgabmelmopgdaa
namespace Go.Proofs.Ytfgabmelmopgdaa
open Go.RowKit

set_option maxRecDepth 100000 in
set_option maxHeartbeats 8000000 in
theorem requal_any (A : Option Addr) (n c : Nat) (l : List Rn) (A' : Option Addr) (n' c' : Nat) (l' : List Rn) (w : World) (hG : Reads w w.heap.size 5 A n (flat rv l)) (hG' : Reads w w.heap.size 5 A' n' (flat rv l')) (hn : n ≤ 1000) :
    Calls Try.prog 34 #[.slice A n c, .slice A' n' c'] w (Said (.bool (decide (l = l'))) w) := by
  have hl := rns_len hG
  have hl' := rns_len hG'
  have HR := Lib.hid hG
  have HR' := Lib.hid hG'
  clear hG hG'
  by_cases hnn : n = n'
  · subst hnn
    have HL := Lib.hid hl
    have HL' := Lib.hid hl'
    clear hl hl'
    go_enter Try.func34, Try.ntmps34
    go_wp2_with fail
    go_loopw [13] (fun iv wr => ∃ k : Nat, k ≤ n ∧ iv = .int .i64 (k : Int) ∧ Hid (l.take k = l'.take k) ∧ Below w.heap.size w wr) (fun iv _ => n - (intOf iv).toNat)
    case atStart => exact ⟨0, by omega, rfl, Lib.hid rfl, Below.refl _ _⟩
    case round =>
      obtain ⟨k, hk, rfl, HA, hB⟩ := hrel
      by_cases hlt : k < n
      · skip
        obtain ⟨⟨x1, x2, x3, x4, x5⟩, hm⟩ := elem_at (l := l) (k := k) (by rw [HL.out]; exact hlt)
        obtain ⟨⟨y1, y2, y3, y4, y5⟩, hm'⟩ := elem_at (l := l') (k := k) (by rw [HL'.out]; exact hlt)
        obtain ⟨ad, rfl, hb1, c0, c1, c2, c3, c4⟩ := rn_at (HR.out.below hB) hm
        obtain ⟨ad', rfl, hb2, d0, d1, d2, d3, d4⟩ := rn_at (HR'.out.below hB) hm'
        have i1 : (0 : Int) ≤ (k : Int) := by omega
        have i2 : (k : Int) < (n : Int) := by omega
        have HM := Lib.hid hm
        have HM' := Lib.hid hm'
        clear hm hm' hb1 hb2
        by_cases h1 : x1 = y1
        · subst h1
          by_cases h2 : x2 = y2
          · subst h2
            by_cases h3 : x3 = y3
            · subst h3
              by_cases h4 : x4 = y4
              · subst h4
                by_cases h5 : x5 = y5
                · subst h5
                  have HS := Lib.hid (take_eq HM.out HM'.out HA.out)
                  go_wp2_with fail
                  go_quiet (fail)
                  go_wp2
                  go_roundw
                  case rel => exact ⟨k + 1, by omega, by go_num, HS, below_drewN hB _⟩
                  case measure => simp [intOf]; omega
                · have HV := Lib.hid (decide_eq_false (ne_at HM.out HM'.out (fun e => h5 (by simp only [Prod.mk.injEq] at e; exact e.2.2.2.2))))
                  have g2 : ((x5 : Int) == (y5 : Int)) = false := by simp; omega
                  clear h5
                  go_wp2_with fail
                  go_quiet (fail)
                  go_wp2
                  go_ret
                  exact ⟨retB HV.out.symm, below_drewN hB _⟩
              · have HV := Lib.hid (decide_eq_false (ne_at HM.out HM'.out (fun e => h4 (by simp only [Prod.mk.injEq] at e; exact e.2.2.2.1))))
                have g2 : ((x4 : Int) == (y4 : Int)) = false := by simp; omega
                clear h4
                go_wp2_with fail
                go_quiet (fail)
                go_wp2
                go_ret
                exact ⟨retB HV.out.symm, below_drewN hB _⟩
            · have HV := Lib.hid (decide_eq_false (ne_at HM.out HM'.out (fun e => h3 (by simp only [Prod.mk.injEq] at e; exact e.2.2.1))))
              have g2 : ((x3 : Int) == (y3 : Int)) = false := by simp; omega
              clear h3
              go_wp2_with fail
              go_quiet (fail)
              go_wp2
              go_ret
              exact ⟨retB HV.out.symm, below_drewN hB _⟩
          · have HV := Lib.hid (decide_eq_false (ne_at HM.out HM'.out (fun e => h2 (by simp only [Prod.mk.injEq] at e; exact e.2.1))))
            have g2 : (x2 == y2) = false := by simp; omega
            clear h2
            go_wp2_with fail
            go_quiet (fail)
            go_wp2
            go_ret
            exact ⟨retB HV.out.symm, below_drewN hB _⟩
        · have HV := Lib.hid (decide_eq_false (ne_at HM.out HM'.out (fun e => h1 (by simp only [Prod.mk.injEq] at e; exact e.1))))
          have g2 : (x1 == y1) = false := by simp; omega
          clear h1
          go_wp2_with fail
          go_quiet (fail)
          go_wp2
          go_ret
          exact ⟨retB HV.out.symm, below_drewN hB _⟩
      · obtain rfl : n = k := by omega
        have HV : Hid (decide (l = l') = true) := Lib.hid (decide_eq_true (by
          have q := HA.out
          rwa [List.take_of_length_le (by rw [HL.out]; exact Nat.le_refl _), List.take_of_length_le (by rw [HL'.out]; exact Nat.le_refl _)] at q))
        go_wp2
        go_ret
        exact ⟨retB HV.out.symm, hB⟩
  · have HV : Hid (decide (l = l') = false) := Lib.hid (decide_eq_false (fun e => hnn (by rw [← hl, ← hl', e])))
    have g1 : ((n : Int) == (n' : Int)) = false := by simp; omega
    clear hnn hl hl'
    go_enter Try.func34, Try.ntmps34
    go_wp2
    go_ret
    exact ⟨retB HV.out.symm, Below.refl _ _⟩

set_option maxRecDepth 100000 in
set_option maxHeartbeats 2000000 in
theorem vsame_any (A : Option Addr) (n c : Nat) (l : List Rn) (A' : Option Addr) (n' c' : Nat) (l' : List Rn) (w : World) (hG : QR w A n c l) (hG' : QR w A' n' c' l') : Calls Try.prog 13 #[.agg #[.slice A n c], .agg #[.slice A' n' c']] w (Said (.bool (decide (l = l'))) w) := by
  obtain ⟨K0, K1, GB⟩ := blks2 w 26 26 #[.slice A n c] #[.slice A' n' c']
  have HE := Lib.hid (fun (u : World) (h : Below w.heap.size w u) => requal_any A n c l A' n' c' l' u (hG.below h).row (hG'.below h).row hG.small)
  have z0 := K0.cell 0
  have z1 := K1.cell 0
  clear K0 K1 hG hG'
  go_enter Try.func13, Try.ntmps13
  go_wp2_with fail
  refine (HE.out _ GB).mono ?_
  rintro e w1 ⟨rfl, h9⟩
  replace GB := GB.trans (h9.mono GB.size)
  clear h9 z0 z1
  go_wp2
  go_ret
  exact ⟨rfl, GB⟩

set_option maxRecDepth 100000 in
set_option maxHeartbeats 8000000 in
theorem rsame_any (A : Option Addr) (n c : Nat) (l : List Rn) (A' : Option Addr) (n' c' : Nat) (l' : List Rn) (w : World) (hG : QR w A n c l) (hG' : QR w A' n' c' l') : Calls Try.prog 14 #[.agg #[.slice A n c], .agg #[.slice A' n' c']] w (Said (.bool (decide (l = l'))) w) := by
  obtain ⟨K0, K1, GB⟩ := blks2 w 26 26 #[.slice A n c] #[.slice A' n' c']
  have hl := hG.len
  have hl' := hG'.len
  have hn := hG.small
  have HR := Lib.hid hG.row
  have HR' := Lib.hid hG'.row
  have HB := Lib.hid (And.intro K0 (And.intro K1 GB))
  have z0 := K0.cell 0
  have z1 := K1.cell 0
  clear hG hG' K0 K1 GB
  by_cases hnn : n = n'
  · subst hnn
    have HL := Lib.hid hl
    have HL' := Lib.hid hl'
    clear hl hl'
    go_enter Try.func14, Try.ntmps14
    go_wp2_with fail
    clear z0 z1
    go_loopw [16] (fun iv wr => ∃ k : Nat, k ≤ n ∧ iv = .int .i64 (k : Int) ∧ Hid (l.take k = l'.take k) ∧ Blk wr w.heap.size 26 #[.slice A n c] ∧ Blk wr (w.heap.size + 1) 26 #[.slice A' n c'] ∧ Below w.heap.size w wr) (fun iv _ => n - (intOf iv).toNat)
    case atStart => exact ⟨0, by omega, rfl, Lib.hid rfl, HB.out.1, HB.out.2.1, HB.out.2.2⟩
    case round =>
      obtain ⟨k, hk, rfl, HA, K0, K1, hB⟩ := hrel
      have z0 := K0.cell 0
      have z1 := K1.cell 0
      by_cases hlt : k < n
      · skip
        obtain ⟨⟨x1, x2, x3, x4, x5⟩, hm⟩ := elem_at (l := l) (k := k) (by rw [HL.out]; exact hlt)
        obtain ⟨⟨y1, y2, y3, y4, y5⟩, hm'⟩ := elem_at (l := l') (k := k) (by rw [HL'.out]; exact hlt)
        obtain ⟨ad, rfl, hb1, c0, c1, c2, c3, c4⟩ := rn_at (HR.out.below hB) hm
        obtain ⟨ad', rfl, hb2, d0, d1, d2, d3, d4⟩ := rn_at (HR'.out.below hB) hm'
        have i1 : (0 : Int) ≤ (k : Int) := by omega
        have i2 : (k : Int) < (n : Int) := by omega
        have HM := Lib.hid hm
        have HM' := Lib.hid hm'
        clear hm hm' hb1 hb2
        by_cases h1 : x1 = y1
        · subst h1
          by_cases h2 : x2 = y2
          · subst h2
            by_cases h3 : x3 = y3
            · subst h3
              by_cases h4 : x4 = y4
              · subst h4
                by_cases h5 : x5 = y5
                · subst h5
                  have HS := Lib.hid (take_eq HM.out HM'.out HA.out)
                  go_wp2_with fail
                  go_quiet (fail)
                  have hB2 := below_drewN hB nq
                  have K02 : Blk (wr.drewN nq) _ _ _ := K0
                  have K12 : Blk (wr.drewN nq) _ _ _ := K1
                  clear z0 z1
                  go_wp2
                  go_roundw
                  case rel => exact ⟨k + 1, by omega, by go_num, HS, K02, K12, hB2⟩
                  case measure => simp [intOf]; omega
                · have HV := Lib.hid (decide_eq_false (ne_at HM.out HM'.out (fun e => h5 (by simp only [Prod.mk.injEq] at e; exact e.2.2.2.2))))
                  have g2 : ((x5 : Int) == (y5 : Int)) = false := by simp; omega
                  clear h5
                  go_wp2_with fail
                  go_quiet (fail)
                  go_wp2
                  go_ret
                  exact ⟨retB HV.out.symm, below_drewN hB _⟩
              · have HV := Lib.hid (decide_eq_false (ne_at HM.out HM'.out (fun e => h4 (by simp only [Prod.mk.injEq] at e; exact e.2.2.2.1))))
                have g2 : ((x4 : Int) == (y4 : Int)) = false := by simp; omega
                clear h4
                go_wp2_with fail
                go_quiet (fail)
                go_wp2
                go_ret
                exact ⟨retB HV.out.symm, below_drewN hB _⟩
            · have HV := Lib.hid (decide_eq_false (ne_at HM.out HM'.out (fun e => h3 (by simp only [Prod.mk.injEq] at e; exact e.2.2.1))))
              have g2 : ((x3 : Int) == (y3 : Int)) = false := by simp; omega
              clear h3
              go_wp2_with fail
              go_quiet (fail)
              go_wp2
              go_ret
              exact ⟨retB HV.out.symm, below_drewN hB _⟩
          · have HV := Lib.hid (decide_eq_false (ne_at HM.out HM'.out (fun e => h2 (by simp only [Prod.mk.injEq] at e; exact e.2.1))))
            have g2 : (x2 == y2) = false := by simp; omega
            clear h2
            go_wp2_with fail
            go_quiet (fail)
            go_wp2
            go_ret
            exact ⟨retB HV.out.symm, below_drewN hB _⟩
        · have HV := Lib.hid (decide_eq_false (ne_at HM.out HM'.out (fun e => h1 (by simp only [Prod.mk.injEq] at e; exact e.1))))
          have g2 : (x1 == y1) = false := by simp; omega
          clear h1
          go_wp2_with fail
          go_quiet (fail)
          go_wp2
          go_ret
          exact ⟨retB HV.out.symm, below_drewN hB _⟩
      · obtain rfl : n = k := by omega
        clear z0 z1
        have HV : Hid (decide (l = l') = true) := Lib.hid (decide_eq_true (by
          have q := HA.out
          rwa [List.take_of_length_le (by rw [HL.out]; exact Nat.le_refl _), List.take_of_length_le (by rw [HL'.out]; exact Nat.le_refl _)] at q))
        go_wp2
        go_ret
        exact ⟨retB HV.out.symm, hB⟩
  · have HV : Hid (decide (l = l') = false) := Lib.hid (decide_eq_false (fun e => hnn (by rw [← hl, ← hl', e])))
    have g1 : ((n : Int) == (n' : Int)) = false := by simp; omega
    clear hnn hl hl'
    go_enter Try.func14, Try.ntmps14
    go_wp2
    go_ret
    exact ⟨retB HV.out.symm, HB.out.2.2⟩

/-- the first greatest Time, of whatever queue: a step -/
def bigger (o : Nat × Nat × Nat) (k : Nat) (r : Rn) : Nat × Nat × Nat := if k = 0 then r.2.2 else if fN o * fW r.2.2 < fN r.2.2 * fW o then r.2.2 else o
def rtop (l : List Rn) : Nat → Nat × Nat × Nat
  | 0 => (0, 0, 0)
  | k + 1 => bigger (rtop l k) k (l.getD k zeroR)
theorem rtop_in (l : List Rn) (hU : UQ l) : ∀ k, k ≤ l.length → (rtop l k).1 < 2 ^ 64 ∧ (rtop l k).2.1 < 2 ^ 64 ∧ (rtop l k).2.2 < 2 ^ 64
  | 0, _ => by unfold rtop; exact ⟨by decide, by decide, by decide⟩
  | k + 1, hk => by
    have ih := rtop_in l hU k (by omega)
    obtain ⟨x, hx⟩ := elem_at (l := l) (k := k) hk
    have hu := hU x (List.mem_of_getElem? hx)
    have e : l.getD k zeroR = x := by rw [List.getD_eq_getElem?_getD, hx]; rfl
    unfold rtop bigger
    rw [e]
    split
    · exact hu
    · split
      · exact hu
      · exact ih

end Go.Proofs.Ytfgabmelmopgdaa
namespace Go.Proofs.Ytfgabmelmopgdaa
open Go.RowKit


set_option maxRecDepth 100000 in
set_option maxHeartbeats 8000000 in
theorem rtop_any (A : Option Addr) (n c : Nat) (qs : List Rn) (w : World) (hG : QR w A n c qs) : Calls Try.prog 16 #[.agg #[.slice A n c]] w (Said (.tuple #[.agg (fr (rtop qs n).1 (rtop qs n).2.1 (rtop qs n).2.2), .bool (decide (0 < n))]) w) := by
  obtain ⟨K0, K2, K4, GB⟩ := blks3 w 26 36 36 #[.slice A n c] #[.int .u64 0, .int .u64 0, .int .u64 0] #[.int .u64 0, .int .u64 0, .int .u64 0]
  have HG := Lib.hid hG
  have HN : Hid (n ≤ 1000) := Lib.hid hG.small
  have z0 := K0.cell 0
  have HB := Lib.hid (And.intro K0 (And.intro K2 (And.intro K4 GB)))
  have HT : Hid (∀ o1 o2 o3, rtop qs n = (o1, o2, o3) → fr (rtop qs n).1 (rtop qs n).2.1 (rtop qs n).2.2 = #[.int .u64 (o1 : Int), .int .u64 (o2 : Int), .int .u64 (o3 : Int)]) := Lib.hid (fun o1 o2 o3 h => by rw [h]; rfl)
  obtain ⟨RES, hRES⟩ : ∃ R, fr (rtop qs n).1 (rtop qs n).2.1 (rtop qs n).2.2 = R := ⟨_, rfl⟩
  rw [hRES] at HT ⊢
  obtain ⟨pb, hpb⟩ : ∃ p, decide (0 < n) = p := ⟨_, rfl⟩
  rw [hpb]
  have HPB := Lib.hid hpb
  clear hG GB K0 K2 K4 hRES hpb
  go_enter Try.func16, Try.ntmps16
  go_wp2_with fail
  clear z0
  go_loopw [10] (fun iv wr => ∃ (k o1 o2 o3 : Nat), k ≤ n ∧ iv = .int .i64 (k : Int) ∧ Hid (rtop qs k = (o1, o2, o3)) ∧ Blk wr w.heap.size 26 #[.slice A n c] ∧ Blk wr (w.heap.size + 1) 36 #[.int .u64 0, .int .u64 0, .int .u64 0] ∧ Blk wr (w.heap.size + 1 + 1) 36 #[.int .u64 (o1 : Int), .int .u64 (o2 : Int), .int .u64 (o3 : Int)] ∧ Below w.heap.size w wr) (fun iv _ => n - (intOf iv).toNat)
  case atStart => exact ⟨0, 0, 0, 0, by omega, rfl, Lib.hid rfl, HB.out.1, HB.out.2.1, HB.out.2.2.1, HB.out.2.2.2⟩
  case round =>
    obtain ⟨k, o1, o2, o3, hk, rfl, HA, K0, K2, K4, hB⟩ := hrel
    by_cases hlt : k < n
    · obtain ⟨⟨a, b, h, l, x⟩, hx⟩ := elem_at (l := qs) (k := k) (by rw [HG.out.len]; exact hlt)
      obtain ⟨ad, rfl, hb1, d0, d1, d2, d3, d4⟩ := rn_at (HG.out.below hB).row hx
      have hsz := hB.size
      have i1 : (0 : Int) ≤ (k : Int) := by omega
      have i2 : (k : Int) < (n : Int) := by omega
      have hn := HN.out
      have hk1000 : k < 1000 := by omega
      have huu := HG.out.ur _ (List.mem_of_getElem? hx)
      have hoo := rtop_in qs HG.out.ur k (by rw [HG.out.len]; omega)
      rw [HA.out] at hoo
      have hstep : rtop qs (k + 1) = bigger (o1, o2, o3) k (a, b, h, l, x) := by
        show bigger (rtop qs k) k (qs.getD k zeroR) = _
        rw [HA.out, List.getD_eq_getElem?_getD, hx]
        rfl
      have HCm := Lib.hid (fun (u : World) => (rcompare_any h l x o1 o2 o3 u huu.1 huu.2.1 huu.2.2 hoo.1 hoo.2.1 hoo.2.2 : Calls _ _ #[.agg #[.int .u64 (h : Int), .int .u64 (l : Int), .int .u64 (x : Int)], .agg #[.int .u64 (o1 : Int), .int .u64 (o2 : Int), .int .u64 (o3 : Int)]] _ _))
      have K6 := Blk.new wr 40 #[.int .i64 a, .int .i64 b, .int .u64 (h : Int), .int .u64 (l : Int), .int .u64 (x : Int)]
      have h46 := K4.lt
      replace K0 := K0.alloc (.cells #[.int .i64 a, .int .i64 b, .int .u64 (h : Int), .int .u64 (l : Int), .int .u64 (x : Int)] 40)
      replace K2 := K2.alloc (.cells #[.int .i64 a, .int .i64 b, .int .u64 (h : Int), .int .u64 (l : Int), .int .u64 (x : Int)] 40)
      replace K4 := K4.alloc (.cells #[.int .i64 a, .int .i64 b, .int .u64 (h : Int), .int .u64 (l : Int), .int .u64 (x : Int)] 40)
      replace hB := hB.alloc hsz (.cells #[.int .i64 a, .int .i64 b, .int .u64 (h : Int), .int .u64 (l : Int), .int .u64 (x : Int)] 40)
      have Hlt := Lib.hid hlt
      clear hx hb1 huu hoo hlt
      go_upto_region 5 with fail
      obtain ⟨Y, hY⟩ : ∃ Y, wr.alloc (.cells #[.int .i64 a, .int .i64 b, .int .u64 (h : Int), .int .u64 (l : Int), .int .u64 (x : Int)] 40) = Y := ⟨_, rfl⟩
      obtain ⟨g6, hg6⟩ : ∃ j, wr.heap.size = j := ⟨_, rfl⟩
      rw [hY] at K0 K2 K4 K6 hB ⊢
      rw [hg6] at K6 hsz h46 ⊢
      clear hY hg6 d0 d1 d2 d3 d4
      by_cases h0 : k = 0
      · have c0 : ((k : Int) == 0) = true := by simp [h0]
        have HS : Hid (rtop qs (k + 1) = (h, l, x)) := Lib.hid (by rw [hstep]; unfold bigger; rw [if_pos h0])
        clear h0 hstep
        have q0 := K4.cell 0
        have q1 := K4.cell 1
        have q2 := K4.cell 2
        have f0 := K4.frozen 0
        have f1 := K4.frozen 1
        have f2 := K4.frozen 2
        have r2 := K6.cell 2
        have r3 := K6.cell 3
        have r4 := K6.cell 4
        have HP := Lib.hid (put3 (x := .int .u64 (h : Int)) (y := .int .u64 (l : Int)) (z := .int .u64 (x : Int)) K4 hB (by omega))
        have HK := Lib.hid (And.intro ((((K0.far (p := ⟨w.heap.size + 1 + 1, 0, none⟩) (by simp; omega) (.int .u64 (h : Int))).far (p := ⟨w.heap.size + 1 + 1, 1, none⟩) (by simp; omega) (.int .u64 (l : Int))).far (p := ⟨w.heap.size + 1 + 1, 2, none⟩) (by simp; omega) (.int .u64 (x : Int)))) ((((K2.far (p := ⟨w.heap.size + 1 + 1, 0, none⟩) (by simp) (.int .u64 (h : Int))).far (p := ⟨w.heap.size + 1 + 1, 1, none⟩) (by simp) (.int .u64 (l : Int))).far (p := ⟨w.heap.size + 1 + 1, 2, none⟩) (by simp) (.int .u64 (x : Int)))))
        clear K0 K2 K4 K6 hB
        go_wp2_with fail
        go_roundw
        case rel => exact ⟨k + 1, h, l, x, Hlt.out, by go_num, HS, HK.out.1, HK.out.2, HP.out.1, HP.out.2⟩
        case measure => have := Hlt.out; simp [intOf] <;> omega
      · have c0 : ((k : Int) == 0) = false := by simp [h0]
        by_cases hb : (o1 * 2 ^ 64 + o2) * x < (h * 2 ^ 64 + l) * o3
        · have HS : Hid (rtop qs (k + 1) = (h, l, x)) := Lib.hid (by rw [hstep]; unfold bigger fN fW; rw [if_neg h0, if_pos hb])
          rw [show cmpI ((h * 2 ^ 64 + l) * o3) ((o1 * 2 ^ 64 + o2) * x) = 1 by unfold cmpI; rw [if_neg (by omega), if_pos hb]] at HCm
          clear h0 hb hstep
          have q0 := K4.cell 0
          have q1 := K4.cell 1
          have q2 := K4.cell 2
          have r2 := K6.cell 2
          have r3 := K6.cell 3
          have r4 := K6.cell 4
          go_wp2_with fail
          refine (HCm.out _).mono ?_
          rintro e9 w1 ⟨rfl, h9⟩
          replace K0 := K0.below h9 K0.lt
          replace K2 := K2.below h9 K2.lt
          replace K4 := K4.below h9 K4.lt
          replace K6 := K6.below h9 K6.lt
          replace hB := hB.trans (h9.mono hB.size)
          clear h9 q0 q1 q2 r2 r3 r4
          have q0 := K4.cell 0
          have q1 := K4.cell 1
          have q2 := K4.cell 2
          have f0 := K4.frozen 0
          have f1 := K4.frozen 1
          have f2 := K4.frozen 2
          have r2 := K6.cell 2
          have r3 := K6.cell 3
          have r4 := K6.cell 4
          have HP := Lib.hid (put3 (x := .int .u64 (h : Int)) (y := .int .u64 (l : Int)) (z := .int .u64 (x : Int)) K4 hB (by omega))
          have HK := Lib.hid (And.intro ((((K0.far (p := ⟨w.heap.size + 1 + 1, 0, none⟩) (by simp; omega) (.int .u64 (h : Int))).far (p := ⟨w.heap.size + 1 + 1, 1, none⟩) (by simp; omega) (.int .u64 (l : Int))).far (p := ⟨w.heap.size + 1 + 1, 2, none⟩) (by simp; omega) (.int .u64 (x : Int)))) ((((K2.far (p := ⟨w.heap.size + 1 + 1, 0, none⟩) (by simp) (.int .u64 (h : Int))).far (p := ⟨w.heap.size + 1 + 1, 1, none⟩) (by simp) (.int .u64 (l : Int))).far (p := ⟨w.heap.size + 1 + 1, 2, none⟩) (by simp) (.int .u64 (x : Int)))))
          clear K0 K2 K4 K6 hB
          go_wp2_with fail
          go_roundw
          case rel => exact ⟨k + 1, h, l, x, Hlt.out, by go_num, HS, HK.out.1, HK.out.2, HP.out.1, HP.out.2⟩
          case measure => have := Hlt.out; simp [intOf] <;> omega
        · have HS : Hid (rtop qs (k + 1) = (o1, o2, o3)) := Lib.hid (by rw [hstep]; unfold bigger fN fW; rw [if_neg h0, if_neg hb])
          obtain ⟨q3, hq3, hq4⟩ : ∃ q, cmpI ((h * 2 ^ 64 + l) * o3) ((o1 * 2 ^ 64 + o2) * x) = q ∧ decide (0 < q) = false := ⟨_, rfl, by unfold cmpI; rw [if_neg hb]; split <;> rfl⟩
          rw [hq3] at HCm
          clear h0 hb hstep hq3
          have q0 := K4.cell 0
          have q1 := K4.cell 1
          have q2 := K4.cell 2
          have r2 := K6.cell 2
          have r3 := K6.cell 3
          have r4 := K6.cell 4
          go_wp2_with fail
          refine (HCm.out _).mono ?_
          rintro e9 w1 ⟨rfl, h9⟩
          replace K0 := K0.below h9 K0.lt
          replace K2 := K2.below h9 K2.lt
          replace K4 := K4.below h9 K4.lt
          replace K6 := K6.below h9 K6.lt
          replace hB := hB.trans (h9.mono hB.size)
          clear h9 q0 q1 q2 r2 r3 r4
          have HK := Lib.hid (And.intro K0 (And.intro K2 (And.intro K4 hB)))
          clear K0 K2 K4 K6 hB
          go_wp2_with fail
          go_roundw
          case rel => exact ⟨k + 1, o1, o2, o3, Hlt.out, by go_num, HS, HK.out.1, HK.out.2.1, HK.out.2.2.1, HK.out.2.2.2⟩
          case measure => have := Hlt.out; simp [intOf] <;> omega
    · obtain rfl : k = n := by omega
      obtain rfl := HT.out _ _ _ HA.out
      by_cases h0 : 0 < k
      · obtain rfl : true = pb := by rw [← HPB.out]; exact (decide_eq_true h0).symm
        have H0n : Hid (0 < k) := Lib.hid h0
        clear h0 hlt hk
        go_upto_region 8 with fail
        replace K0 : Blk wr.drew _ _ _ := K0
        replace K2 : Blk wr.drew _ _ _ := K2
        replace K4 : Blk wr.drew _ _ _ := K4
        replace hB := hB.drew
        refine wp_region_held_drew (S := fun u => Below w.heap.size w u ∧ Blk u w.heap.size 26 #[.slice A k c] ∧ Blk u (w.heap.size + 1 + 1) 36 #[.int .u64 (o1 : Int), .int .u64 (o2 : Int), .int .u64 (o3 : Int)]) (by kernel_rfl) ⟨hB, K0, K4⟩ (fun hS => ?_)
        generalize wr.drew = V at K0 K2 K4 hB hS ⊢
        refine wpAnyH_take (i := 0) (v := .agg #[.int .u64 (o1 : Int), .int .u64 (o2 : Int), .int .u64 (o3 : Int)]) rfl (by kernel_rfl) (by kernel_rfl) (by kernel_rfl) (fun _ _ _ h => h) (Or.inl ⟨by kernel_rfl, fun u hSw => (by have q0 := hSw.2.2.cell 0; have q1 := hSw.2.2.cell 1; have q2 := hSw.2.2.cell 2; go_simp)⟩) hS ?_
        change wpAnyH _ _ _ _ _ _ _ (Act.put _ (some 27) _) _
        simp only [Act.put]
        try simp only [List.setIfInBounds_toArray, List.set_cons_zero, List.set_cons_succ]
        refine wpAnyH_take (i := 1) (v := .pointer (some ⟨w.heap.size, 0, none⟩)) rfl (by kernel_rfl) (by kernel_rfl) (by kernel_rfl) (fun _ _ _ h => h) (Or.inl ⟨by kernel_rfl, fun u hSw => (by go_simp)⟩) hS ?_
        change wpAnyH _ _ _ _ _ _ _ (Act.put _ (some 28) _) _
        simp only [Act.put]
        try simp only [List.setIfInBounds_toArray, List.set_cons_zero, List.set_cons_succ]
        refine wpAnyH_take (i := 2) (v := .slice A k c) rfl (by kernel_rfl) (by kernel_rfl) (by kernel_rfl) (fun _ _ _ h => h) (Or.inl ⟨by kernel_rfl, fun u hSw => (by have q0 := hSw.2.1.cell 0; go_simp)⟩) hS ?_
        change wpAnyH _ _ _ _ _ _ _ (Act.put _ (some 29) _) _
        simp only [Act.put]
        try simp only [List.setIfInBounds_toArray, List.set_cons_zero, List.set_cons_succ]
        refine wpAnyH_take (i := 3) (v := .int .i64 (k : Int)) rfl (by kernel_rfl) (by kernel_rfl) (by kernel_rfl) (fun _ _ _ h => h) (Or.inl ⟨by kernel_rfl, fun u hSw => (by go_simp)⟩) hS ?_
        change wpAnyH _ _ _ _ _ _ _ (Act.put _ (some 30) _) _
        simp only [Act.put]
        try simp only [List.setIfInBounds_toArray, List.set_cons_zero, List.set_cons_succ]
        refine wpAnyH_take (i := 4) (v := .bool true) rfl (by kernel_rfl) (by kernel_rfl) (by kernel_rfl) (fun _ _ _ h => h) (Or.inl ⟨by kernel_rfl, fun u hSw => (by go_simp; exact H0n.out)⟩) hS ?_
        change wpAnyH _ _ _ _ _ _ _ (Act.put _ (some 31) _) _
        simp only [Act.put]
        try simp only [List.setIfInBounds_toArray, List.set_cons_zero, List.set_cons_succ]
        refine wpAnyH_ready (rs := [5]) (by kernel_rfl) (by simp) ?_
        refine AllReadyH.cons rfl (fun K hK => ?_) AllReadyH.nil
        have d0 := K2.cell 0
        have d1 := K2.cell 1
        have d2 := K2.cell 2
        have f0 := K2.frozen 0
        have f1 := K2.frozen 1
        have f2 := K2.frozen 2
        have HP := Lib.hid (put3 (x := .int .u64 (o1 : Int)) (y := .int .u64 (o2 : Int)) (z := .int .u64 (o3 : Int)) K2 hB (by omega))
        have K0f := (((K0.far (p := ⟨w.heap.size + 1, 0, none⟩) (by simp) (.int .u64 (o1 : Int))).far (p := ⟨w.heap.size + 1, 1, none⟩) (by simp) (.int .u64 (o2 : Int))).far (p := ⟨w.heap.size + 1, 2, none⟩) (by simp) (.int .u64 (o3 : Int)))
        have K4f := (((K4.far (p := ⟨w.heap.size + 1, 0, none⟩) (by simp) (.int .u64 (o1 : Int))).far (p := ⟨w.heap.size + 1, 1, none⟩) (by simp) (.int .u64 (o2 : Int))).far (p := ⟨w.heap.size + 1, 2, none⟩) (by simp) (.int .u64 (o3 : Int)))
        go_simp
        refine hK.out _ _ ⟨HP.out.2, K0f, K4f⟩ (fun hS => ?_)
        clear hK K d0 d1 d2 f0 f1 f2
        refine wpAnyH_take (i := 6) (v := .bool true) rfl (by kernel_rfl) (by kernel_rfl) (by kernel_rfl) (fun _ _ _ h => h) (Or.inl ⟨by kernel_rfl, fun u hSw => (by go_simp)⟩) hS ?_
        change wpAnyH _ _ _ _ _ _ _ (Act.put _ (some 3) _) _
        simp only [Act.put]
        try simp only [List.setIfInBounds_toArray, List.set_cons_zero, List.set_cons_succ]
        refine wpAnyH_done (by kernel_rfl) ?_ _
        clear hS
        go_wp2_with fail
        exact bodyPost_ret (v := .tuple #[.agg #[.int .u64 (o1 : Int), .int .u64 (o2 : Int), .int .u64 (o3 : Int)], .bool true]) (results_cell_row_tmp Try.results16 _ _ _ _ _ _ rfl HP.out.1 Try.underlying36 rfl (by kernel_rfl)) rfl ⟨rfl, HP.out.2⟩
      · obtain rfl : false = pb := by rw [← HPB.out]; exact (decide_eq_false h0).symm
        have H0n : Hid (k = 0) := Lib.hid (by omega)
        clear h0 hlt hk
        go_upto_region 8 with fail
        replace K0 : Blk wr.drew _ _ _ := K0
        replace K2 : Blk wr.drew _ _ _ := K2
        replace K4 : Blk wr.drew _ _ _ := K4
        replace hB := hB.drew
        refine wp_region_held_drew (S := fun u => Below w.heap.size w u ∧ Blk u w.heap.size 26 #[.slice A k c] ∧ Blk u (w.heap.size + 1 + 1) 36 #[.int .u64 (o1 : Int), .int .u64 (o2 : Int), .int .u64 (o3 : Int)]) (by kernel_rfl) ⟨hB, K0, K4⟩ (fun hS => ?_)
        generalize wr.drew = V at K0 K2 K4 hB hS ⊢
        refine wpAnyH_take (i := 0) (v := .agg #[.int .u64 (o1 : Int), .int .u64 (o2 : Int), .int .u64 (o3 : Int)]) rfl (by kernel_rfl) (by kernel_rfl) (by kernel_rfl) (fun _ _ _ h => h) (Or.inl ⟨by kernel_rfl, fun u hSw => (by have q0 := hSw.2.2.cell 0; have q1 := hSw.2.2.cell 1; have q2 := hSw.2.2.cell 2; go_simp)⟩) hS ?_
        change wpAnyH _ _ _ _ _ _ _ (Act.put _ (some 27) _) _
        simp only [Act.put]
        try simp only [List.setIfInBounds_toArray, List.set_cons_zero, List.set_cons_succ]
        refine wpAnyH_take (i := 1) (v := .pointer (some ⟨w.heap.size, 0, none⟩)) rfl (by kernel_rfl) (by kernel_rfl) (by kernel_rfl) (fun _ _ _ h => h) (Or.inl ⟨by kernel_rfl, fun u hSw => (by go_simp)⟩) hS ?_
        change wpAnyH _ _ _ _ _ _ _ (Act.put _ (some 28) _) _
        simp only [Act.put]
        try simp only [List.setIfInBounds_toArray, List.set_cons_zero, List.set_cons_succ]
        refine wpAnyH_take (i := 2) (v := .slice A k c) rfl (by kernel_rfl) (by kernel_rfl) (by kernel_rfl) (fun _ _ _ h => h) (Or.inl ⟨by kernel_rfl, fun u hSw => (by have q0 := hSw.2.1.cell 0; go_simp)⟩) hS ?_
        change wpAnyH _ _ _ _ _ _ _ (Act.put _ (some 29) _) _
        simp only [Act.put]
        try simp only [List.setIfInBounds_toArray, List.set_cons_zero, List.set_cons_succ]
        refine wpAnyH_take (i := 3) (v := .int .i64 (k : Int)) rfl (by kernel_rfl) (by kernel_rfl) (by kernel_rfl) (fun _ _ _ h => h) (Or.inl ⟨by kernel_rfl, fun u hSw => (by go_simp)⟩) hS ?_
        change wpAnyH _ _ _ _ _ _ _ (Act.put _ (some 30) _) _
        simp only [Act.put]
        try simp only [List.setIfInBounds_toArray, List.set_cons_zero, List.set_cons_succ]
        refine wpAnyH_take (i := 4) (v := .bool false) rfl (by kernel_rfl) (by kernel_rfl) (by kernel_rfl) (fun _ _ _ h => h) (Or.inl ⟨by kernel_rfl, fun u hSw => (by go_simp; exact H0n.out)⟩) hS ?_
        change wpAnyH _ _ _ _ _ _ _ (Act.put _ (some 31) _) _
        simp only [Act.put]
        try simp only [List.setIfInBounds_toArray, List.set_cons_zero, List.set_cons_succ]
        refine wpAnyH_ready (rs := [5]) (by kernel_rfl) (by simp) ?_
        refine AllReadyH.cons rfl (fun K hK => ?_) AllReadyH.nil
        have d0 := K2.cell 0
        have d1 := K2.cell 1
        have d2 := K2.cell 2
        have f0 := K2.frozen 0
        have f1 := K2.frozen 1
        have f2 := K2.frozen 2
        have HP := Lib.hid (put3 (x := .int .u64 (o1 : Int)) (y := .int .u64 (o2 : Int)) (z := .int .u64 (o3 : Int)) K2 hB (by omega))
        have K0f := (((K0.far (p := ⟨w.heap.size + 1, 0, none⟩) (by simp) (.int .u64 (o1 : Int))).far (p := ⟨w.heap.size + 1, 1, none⟩) (by simp) (.int .u64 (o2 : Int))).far (p := ⟨w.heap.size + 1, 2, none⟩) (by simp) (.int .u64 (o3 : Int)))
        have K4f := (((K4.far (p := ⟨w.heap.size + 1, 0, none⟩) (by simp) (.int .u64 (o1 : Int))).far (p := ⟨w.heap.size + 1, 1, none⟩) (by simp) (.int .u64 (o2 : Int))).far (p := ⟨w.heap.size + 1, 2, none⟩) (by simp) (.int .u64 (o3 : Int)))
        go_simp
        refine hK.out _ _ ⟨HP.out.2, K0f, K4f⟩ (fun hS => ?_)
        clear hK K d0 d1 d2 f0 f1 f2
        refine wpAnyH_take (i := 6) (v := .bool false) rfl (by kernel_rfl) (by kernel_rfl) (by kernel_rfl) (fun _ _ _ h => h) (Or.inl ⟨by kernel_rfl, fun u hSw => (by go_simp)⟩) hS ?_
        change wpAnyH _ _ _ _ _ _ _ (Act.put _ (some 3) _) _
        simp only [Act.put]
        try simp only [List.setIfInBounds_toArray, List.set_cons_zero, List.set_cons_succ]
        refine wpAnyH_done (by kernel_rfl) ?_ _
        clear hS
        go_wp2_with fail
        exact bodyPost_ret (v := .tuple #[.agg #[.int .u64 (o1 : Int), .int .u64 (o2 : Int), .int .u64 (o3 : Int)], .bool false]) (results_cell_row_tmp Try.results16 _ _ _ _ _ _ rfl HP.out.1 Try.underlying36 rfl (by kernel_rfl)) rfl ⟨rfl, HP.out.2⟩

end Go.Proofs.Ytfgabmelmopgdaa
