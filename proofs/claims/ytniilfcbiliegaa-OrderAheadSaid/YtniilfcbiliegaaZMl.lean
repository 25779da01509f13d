/-
  The landed areWaits and Check. No statement is proved here.
-/
import Derived.Test.YtniilfcbiliegaaZMk
import Derived.Deep.RegionHeld3
namespace Go.Proofs.Ytniilfcbiliegaa
open Go.RowKit Go.Maps

/-- the order numbers of waits -/
def ordL (ws : List Wt) : List Int := ws.map fun w => (w.2.1 : Int)
theorem ordL_snoc {ws : List Wt} {k : Nat} {i : Int} {o : Nat} {f : Bool} (h : ws[k]? = some (i, o, f)) : ordL (ws.take (k + 1)) = ordL (ws.take k) ++ [(o : Int)] := by
  unfold ordL
  rw [List.take_add_one, h, List.map_append]
  rfl
theorem ordL_mem {ws : List Wt} {o : Nat} : (o : Int) ∈ ordL ws ↔ o ∈ ws.map fun w => w.2.1 := by
  unfold ordL
  rw [List.mem_map, List.mem_map]
  constructor
  · rintro ⟨w, hw, e⟩; exact ⟨w, hw, by omega⟩
  · rintro ⟨w, hw, e⟩; exact ⟨w, hw, by omega⟩
theorem wOk_yes {qs : List Rn} {ws : List Wt} {k : Nat} {i : Int} {o : Nat} {f : Bool} {r : Rn} (hw : ws[k]? = some (i, o, f)) (hr : qs[k]? = some r) (h1 : i = r.1) (h2 : 1 ≤ o) (h3 : o ≤ 4611686018427387904) (h4 : (o : Int) ∉ ordL (ws.take k)) : wOk qs ws k = true := by
  rw [wOk_at hw hr]
  simp only [Bool.and_eq_true, decide_eq_true_eq]
  exact ⟨⟨⟨h1, h2⟩, h3⟩, fun h => h4 (ordL_mem.2 h)⟩
theorem wOk_no {qs : List Rn} {ws : List Wt} {k : Nat} {i : Int} {o : Nat} {f : Bool} {r : Rn} (hw : ws[k]? = some (i, o, f)) (hr : qs[k]? = some r) (h : ¬ i = r.1 ∨ ¬ 1 ≤ o ∨ ¬ o ≤ 4611686018427387904 ∨ (o : Int) ∈ ordL (ws.take k)) : wOk qs ws k = false := by
  rw [wOk_at hw hr]
  simp only [Bool.and_eq_false_iff, decide_eq_false_iff_not]
  rcases h with h | h | h | h
  · exact .inl (.inl (.inl h))
  · exact .inl (.inl (.inr h))
  · exact .inl (.inr h)
  · exact .inr (fun h2 => h2 (ordL_mem.1 h))

set_option maxRecDepth 100000 in
set_option maxHeartbeats 16000000 in
theorem awaits_any (A' : Option Addr) (n' c' : Nat) (ws : List Wt) (A : Option Addr) (n c : Nat) (qs : List Rn) (w : World) (hW : WT w A' n' c' ws) (hG : QR w A n c qs) :
    Calls Try.prog 43 #[.slice A' n' c', .agg #[.slice A n c]] w (Said (.bool (waitsB qs ws)) w) := by
  have hmm := @run_makeMap Try.prog
  have HG := Lib.hid hG
  have HW := Lib.hid hW
  have HN : Hid (n ≤ 1000) := Lib.hid hG.small
  have HL := Lib.hid hG.len
  have HL' := Lib.hid hW.len
  obtain ⟨K0, GB⟩ := box1 w 26 #[.slice A n c]
  clear hG hW
  by_cases hnn : n' = n
  · subst hnn
    have hz : (w.alloc (.cells #[.slice A n' c] 26)).heap.size = w.heap.size + 1 := by simp
    have M := SM.made (k := 41) (q := .u64) (w.alloc (.cells #[.slice A n' c] 26))
    rw [hz] at M
    have M0 : SM 41 .u64 ((w.alloc (.cells #[.slice A n' c] 26)).alloc (.map #[] 0)) (w.heap.size + 1) (ordL (ws.take 0)) := M
    have KA := K0.alloc (.map #[] 0)
    have GA := GB.alloc GB.size (.map #[] 0)
    have z0 := K0.cell 0
    clear M K0 GB
    go_enter Try.func43, Try.ntmps43
    go_wp2_with fail
    clear hmm z0 hz
    generalize World.alloc (World.alloc _ _) _ = X at M0 KA GA ⊢
    obtain ⟨n, hn⟩ : ∃ n, n' = n := ⟨_, rfl⟩
    subst hn
    go_loopw [17] (fun iv wr => ∃ k : Nat, k ≤ n' ∧ iv = .int .i64 (k : Int) ∧ Hid (∀ j, j < k → wOk qs ws j = true) ∧ Hid (SM 41 .u64 wr (w.heap.size + 1) (ordL (ws.take k))) ∧ Hid (Blk wr w.heap.size 26 #[.slice A n' c]) ∧ Below w.heap.size w wr) (fun iv _ => n' - (intOf iv).toNat)
    case atStart => exact ⟨0, by omega, rfl, Lib.hid (fun j hj => by omega), Lib.hid M0, Lib.hid KA, GA⟩
    case round =>
      clear M0 KA GA
      obtain ⟨k, hk, rfl, HA, HM, HK, hB⟩ := hrel
      by_cases hlt : k < n'
      · obtain ⟨⟨ri, a, h, l, x⟩, hx⟩ := elem_at (l := qs) (k := k) (by rw [HL.out]; exact hlt)
        obtain ⟨⟨i, o, f⟩, hy⟩ := elem_at (l := ws) (k := k) (by rw [HL'.out]; exact hlt)
        have HX := Lib.hid hx
        have HY := Lib.hid hy
        have HKL : Hid (k < ws.length) := Lib.hid (by rw [HL'.out]; exact hlt)
        obtain ⟨ad', rfl, hb2, d0, d1, d2⟩ := (HW.out.below hB).at_ hy
        have K1 := Blk.new wr 67 #[.int .i64 i, .int .u64 (o : Int), .bool f]
        have B1 := hB.alloc hB.size (.cells #[.int .i64 i, .int .u64 (o : Int), .bool f] 67)
        have KQ := HK.out.alloc (.cells #[.int .i64 i, .int .u64 (o : Int), .bool f] 67)
        have M1 := HM.out.alloc (.cells #[.int .i64 i, .int .u64 (o : Int), .bool f] 67)
        obtain ⟨ad, rfl, hb1, e0, e1, e2, e3, e4⟩ := rn_at ((HG.out.below B1).row) hx
        have HAB : Hid (((ad.add (k * 5)).block) < w.heap.size) := Lib.hid (by
          obtain ⟨ad3, q3, hb3, _⟩ := rn_at HG.out.row hx
          injection q3 with q3
          rw [show (ad.add (k * 5)).block = ad.block from by unfold Addr.add; split <;> rfl, q3]
          exact hb3)
        have i1 : (0 : Int) ≤ (k : Int) := by omega
        have i2 : (k : Int) < (n' : Int) := by omega
        have hn := HN.out
        have ho : o < 2 ^ 64 := HW.out.u64 _ (List.mem_of_getElem? hy)
        have HB1 := Lib.hid B1
        have z0 := K1.cell 0
        have z1 := K1.cell 1
        have y0 := KQ.cell 0
        clear hx hy hb1 hb2 e1 e2 e3 e4
        by_cases c1 : i = ri
        · subst c1
          by_cases c2 : o < 1
          · have c2d : decide ((o : Int) < 1) = true := decide_eq_true (by omega)
            have HV : Hid (waitsB qs ws = false) := Lib.hid (waits_no HKL.out (wOk_no HY.out HX.out (.inr (.inl (by omega)))))
            clear K1 B1 KQ M1 ho
            go_wp2_with fail
            go_quiet (fail)
            go_wp2_with fail
            go_ret
            exact ⟨retB HV.out.symm, below_drewN HB1.out _⟩
          · have c2d : decide ((o : Int) < 1) = false := decide_eq_false (by omega)
            by_cases c3 : 4611686018427387904 < o
            · have c3d : decide ((4611686018427387904 : Int) < (o : Int)) = true := decide_eq_true (by omega)
              have HV : Hid (waitsB qs ws = false) := Lib.hid (waits_no HKL.out (wOk_no HY.out HX.out (.inr (.inr (.inl (by omega))))))
              clear K1 B1 KQ M1 ho
              go_wp2_with fail
              go_quiet (fail)
              go_wp2_with fail
              go_ret
              exact ⟨retB HV.out.symm, below_drewN HB1.out _⟩
            · have c3d : decide ((4611686018427387904 : Int) < (o : Int)) = false := decide_eq_false (by omega)
              have HLS : Hid ((ordL (ws.take k)).length < 10000) := Lib.hid (by unfold ordL; rw [List.length_map, List.length_take]; omega)
              have HZ : Hid (w.heap.size + 1 < wr.heap.size) := Lib.hid HM.out.lt
              by_cases c4 : (o : Int) ∈ ordL (ws.take k)
              · have HIn := Lib.hid c4
                have HV : Hid (waitsB qs ws = false) := Lib.hid (waits_no HKL.out (wOk_no HY.out HX.out (.inr (.inr (.inr c4)))))
                clear c4
                go_upto_region 7 with fail
                refine wp_region_held_drew (S := fun u => Blk u wr.heap.size 67 #[.int .i64 i, .int .u64 (o : Int), .bool f] ∧ Blk u w.heap.size 26 #[.slice (some ad) n' c] ∧ u.cell? (ad.add (k * 5)) = some (.int .i64 i)) (by kernel_rfl) ⟨K1, KQ, e0⟩ (fun hS => ?_)
                have HSM := Lib.hid (show SM 41 .u64 (wr.alloc (.cells #[.int .i64 i, .int .u64 (o : Int), .bool f] 67)).drew (w.heap.size + 1) (ordL (ws.take k)) from M1.below (Below.refl _ _).drew)
                have HBV := Lib.hid B1.drew
                clear K1 KQ e0 M1 B1 z0 z1 y0
                generalize World.drew _ = V at HSM HBV hS ⊢
                refine wpAnyH_take (i := 0) (v := .pointer (some ⟨wr.heap.size, 0, none⟩)) rfl (by kernel_rfl) (by kernel_rfl) (by kernel_rfl) (fun _ _ _ h => h) (Or.inl ⟨by kernel_rfl, fun u hSw => (by go_simp)⟩) hS ?_
                change wpAnyH _ _ _ _ _ _ _ (Act.put _ (some 22) _) _
                simp only [Act.put]
                try simp only [List.setIfInBounds_toArray, List.set_cons_zero, List.set_cons_succ]
                refine wpAnyH_take (i := 1) (v := .int .i64 i) rfl (by kernel_rfl) (by kernel_rfl) (by kernel_rfl) (fun _ _ _ h => h) (Or.inl ⟨by kernel_rfl, fun u hSw => (by have q0 := hSw.1.cell 0; go_simp)⟩) hS ?_
                change wpAnyH _ _ _ _ _ _ _ (Act.put _ (some 23) _) _
                simp only [Act.put]
                try simp only [List.setIfInBounds_toArray, List.set_cons_zero, List.set_cons_succ]
                refine wpAnyH_take (i := 2) (v := .pointer (some ⟨w.heap.size, 0, none⟩)) rfl (by kernel_rfl) (by kernel_rfl) (by kernel_rfl) (fun _ _ _ h => h) (Or.inl ⟨by kernel_rfl, fun u hSw => (by go_simp)⟩) hS ?_
                change wpAnyH _ _ _ _ _ _ _ (Act.put _ (some 24) _) _
                simp only [Act.put]
                try simp only [List.setIfInBounds_toArray, List.set_cons_zero, List.set_cons_succ]
                refine wpAnyH_take (i := 3) (v := .slice (some ad) n' c) rfl (by kernel_rfl) (by kernel_rfl) (by kernel_rfl) (fun _ _ _ h => h) (Or.inl ⟨by kernel_rfl, fun u hSw => (by have q0 := hSw.2.1.cell 0; go_simp)⟩) hS ?_
                change wpAnyH _ _ _ _ _ _ _ (Act.put _ (some 25) _) _
                simp only [Act.put]
                try simp only [List.setIfInBounds_toArray, List.set_cons_zero, List.set_cons_succ]
                refine wpAnyH_take (i := 4) (v := .int .i64 (k : Int)) rfl (by kernel_rfl) (by kernel_rfl) (by kernel_rfl) (fun _ _ _ h => h) (Or.inl ⟨by kernel_rfl, fun u hSw => (by go_simp)⟩) hS ?_
                change wpAnyH _ _ _ _ _ _ _ (Act.put _ (some 26) _) _
                simp only [Act.put]
                try simp only [List.setIfInBounds_toArray, List.set_cons_zero, List.set_cons_succ]
                refine wpAnyH_take (i := 5) (v := .pointer (some (ad.add (k * 5)))) rfl (by kernel_rfl) (by kernel_rfl) (by kernel_rfl) (fun _ _ _ h => h) (Or.inl ⟨by kernel_rfl, fun u hSw => (by go_simp)⟩) hS ?_
                change wpAnyH _ _ _ _ _ _ _ (Act.put _ (some 27) _) _
                simp only [Act.put]
                try simp only [List.setIfInBounds_toArray, List.set_cons_zero, List.set_cons_succ]
                refine wpAnyH_take (i := 6) (v := .pointer (some (ad.add (k * 5)))) rfl (by kernel_rfl) (by kernel_rfl) (by kernel_rfl) (fun _ _ _ h => h) (Or.inl ⟨by kernel_rfl, fun u hSw => (by go_simp)⟩) hS ?_
                change wpAnyH _ _ _ _ _ _ _ (Act.put _ (some 28) _) _
                simp only [Act.put]
                try simp only [List.setIfInBounds_toArray, List.set_cons_zero, List.set_cons_succ]
                refine wpAnyH_take (i := 7) (v := .int .i64 i) rfl (by kernel_rfl) (by kernel_rfl) (by kernel_rfl) (fun _ _ _ h => h) (Or.inl ⟨by kernel_rfl, fun u hSw => (by have q0 := hSw.2.2; go_simp)⟩) hS ?_
                change wpAnyH _ _ _ _ _ _ _ (Act.put _ (some 29) _) _
                simp only [Act.put]
                try simp only [List.setIfInBounds_toArray, List.set_cons_zero, List.set_cons_succ]
                refine wpAnyH_take (i := 8) (v := .bool false) rfl (by kernel_rfl) (by kernel_rfl) (by kernel_rfl) (fun _ _ _ h => h) (Or.inl ⟨by kernel_rfl, fun u hSw => (by go_simp)⟩) hS ?_
                change wpAnyH _ _ _ _ _ _ _ (Act.put _ (some 30) _) _
                simp only [Act.put]
                try simp only [List.setIfInBounds_toArray, List.set_cons_zero, List.set_cons_succ]
                refine wpAnyH_take (i := 9) (v := .bool false) rfl (by kernel_rfl) (by kernel_rfl) (by kernel_rfl) (fun _ _ _ h => h) (Or.inl ⟨by kernel_rfl, fun u hSw => (by go_simp)⟩) hS ?_
                change wpAnyH _ _ _ _ _ _ _ (Act.put _ (some 31) _) _
                simp only [Act.put]
                try simp only [List.setIfInBounds_toArray, List.set_cons_zero, List.set_cons_succ]
                refine wpAnyH_take (i := 10) (v := .pointer (some ⟨wr.heap.size, 1, none⟩)) rfl (by kernel_rfl) (by kernel_rfl) (by kernel_rfl) (fun _ _ _ h => h) (Or.inl ⟨by kernel_rfl, fun u hSw => (by go_simp)⟩) hS ?_
                change wpAnyH _ _ _ _ _ _ _ (Act.put _ (some 32) _) _
                simp only [Act.put]
                try simp only [List.setIfInBounds_toArray, List.set_cons_zero, List.set_cons_succ]
                refine wpAnyH_take (i := 11) (v := .int .u64 (o : Int)) rfl (by kernel_rfl) (by kernel_rfl) (by kernel_rfl) (fun _ _ _ h => h) (Or.inl ⟨by kernel_rfl, fun u hSw => (by have q0 := hSw.1.cell 1; go_simp)⟩) hS ?_
                change wpAnyH _ _ _ _ _ _ _ (Act.put _ (some 33) _) _
                simp only [Act.put]
                try simp only [List.setIfInBounds_toArray, List.set_cons_zero, List.set_cons_succ]
                refine wpAnyH_take (i := 12) (v := .bool false) rfl (by kernel_rfl) (by kernel_rfl) (by kernel_rfl) (fun _ _ _ h => h) (Or.inl ⟨by kernel_rfl, fun u hSw => (by go_simp)⟩) hS ?_
                change wpAnyH _ _ _ _ _ _ _ (Act.put _ (some 34) _) _
                simp only [Act.put]
                try simp only [List.setIfInBounds_toArray, List.set_cons_zero, List.set_cons_succ]
                refine wpAnyH_take (i := 13) (v := .bool false) rfl (by kernel_rfl) (by kernel_rfl) (by kernel_rfl) (fun _ _ _ h => h) (Or.inl ⟨by kernel_rfl, fun u hSw => (by go_simp)⟩) hS ?_
                change wpAnyH _ _ _ _ _ _ _ (Act.put _ (some 35) _) _
                simp only [Act.put]
                try simp only [List.setIfInBounds_toArray, List.set_cons_zero, List.set_cons_succ]
                refine wpAnyH_take (i := 14) (v := .bool false) rfl (by kernel_rfl) (by kernel_rfl) (by kernel_rfl) (fun _ _ _ h => h) (Or.inl ⟨by kernel_rfl, fun u hSw => (by go_simp)⟩) hS ?_
                change wpAnyH _ _ _ _ _ _ _ (Act.put _ (some 36) _) _
                simp only [Act.put]
                try simp only [List.setIfInBounds_toArray, List.set_cons_zero, List.set_cons_succ]
                refine wpAnyH_take (i := 15) (v := .pointer (some ⟨wr.heap.size, 1, none⟩)) rfl (by kernel_rfl) (by kernel_rfl) (by kernel_rfl) (fun _ _ _ h => h) (Or.inl ⟨by kernel_rfl, fun u hSw => (by go_simp)⟩) hS ?_
                change wpAnyH _ _ _ _ _ _ _ (Act.put _ (some 37) _) _
                simp only [Act.put]
                try simp only [List.setIfInBounds_toArray, List.set_cons_zero, List.set_cons_succ]
                refine wpAnyH_take (i := 16) (v := .int .u64 (o : Int)) rfl (by kernel_rfl) (by kernel_rfl) (by kernel_rfl) (fun _ _ _ h => h) (Or.inl ⟨by kernel_rfl, fun u hSw => (by have q0 := hSw.1.cell 1; go_simp)⟩) hS ?_
                change wpAnyH _ _ _ _ _ _ _ (Act.put _ (some 38) _) _
                simp only [Act.put]
                try simp only [List.setIfInBounds_toArray, List.set_cons_zero, List.set_cons_succ]
                refine wpAnyH_take (i := 17) (v := .bool false) rfl (by kernel_rfl) (by kernel_rfl) (by kernel_rfl) (fun _ _ _ h => h) (Or.inl ⟨by kernel_rfl, fun u hSw => (by go_simp)⟩) hS ?_
                change wpAnyH _ _ _ _ _ _ _ (Act.put _ (some 39) _) _
                simp only [Act.put]
                try simp only [List.setIfInBounds_toArray, List.set_cons_zero, List.set_cons_succ]
                refine wpAnyH_take (i := 18) (v := .bool false) rfl (by kernel_rfl) (by kernel_rfl) (by kernel_rfl) (fun _ _ _ h => h) (Or.inl ⟨by kernel_rfl, fun u hSw => (by go_simp)⟩) hS ?_
                change wpAnyH _ _ _ _ _ _ _ (Act.put _ (some 40) _) _
                simp only [Act.put]
                try simp only [List.setIfInBounds_toArray, List.set_cons_zero, List.set_cons_succ]
                refine wpAnyH_take (i := 19) (v := .bool false) rfl (by kernel_rfl) (by kernel_rfl) (by kernel_rfl) (fun _ _ _ h => h) (Or.inl ⟨by kernel_rfl, fun u hSw => (by go_simp)⟩) hS ?_
                change wpAnyH _ _ _ _ _ _ _ (Act.put _ (some 41) _) _
                simp only [Act.put]
                try simp only [List.setIfInBounds_toArray, List.set_cons_zero, List.set_cons_succ]
                refine wpAnyH_take (i := 20) (v := .map (some (w.heap.size + 1))) rfl (by kernel_rfl) (by kernel_rfl) (by kernel_rfl) (fun _ _ _ h => h) (Or.inl ⟨by kernel_rfl, fun u hSw => (by go_simp)⟩) hS ?_
                change wpAnyH _ _ _ _ _ _ _ (Act.put _ (some 42) _) _
                simp only [Act.put]
                try simp only [List.setIfInBounds_toArray, List.set_cons_zero, List.set_cons_succ]
                refine wpAnyH_take (i := 21) (v := .pointer (some ⟨wr.heap.size, 1, none⟩)) rfl (by kernel_rfl) (by kernel_rfl) (by kernel_rfl) (fun _ _ _ h => h) (Or.inl ⟨by kernel_rfl, fun u hSw => (by go_simp)⟩) hS ?_
                change wpAnyH _ _ _ _ _ _ _ (Act.put _ (some 43) _) _
                simp only [Act.put]
                try simp only [List.setIfInBounds_toArray, List.set_cons_zero, List.set_cons_succ]
                refine wpAnyH_take (i := 22) (v := .int .u64 (o : Int)) rfl (by kernel_rfl) (by kernel_rfl) (by kernel_rfl) (fun _ _ _ h => h) (Or.inl ⟨by kernel_rfl, fun u hSw => (by have q0 := hSw.1.cell 1; go_simp)⟩) hS ?_
                change wpAnyH _ _ _ _ _ _ _ (Act.put _ (some 44) _) _
                simp only [Act.put]
                try simp only [List.setIfInBounds_toArray, List.set_cons_zero, List.set_cons_succ]
                refine wpAnyH_ready (rs := [23]) (by kernel_rfl) (by simp) ?_
                refine AllReadyH.cons rfl (fun K hK => ?_) AllReadyH.nil
                go_simp
                refine ((meetu_any _ _ (o : Int) _ (HSM.out.below (Below.refl _ _)) (by omega) (by omega) HLS.out).mono fun e w' h => met_no h HIn.out).mono ?_
                rintro e5 w5 ⟨rfl, g5⟩
                have HB5 := Lib.hid (HBV.out.grown g5 HBV.out.size (fun g hg => by injection hg with hg; omega))
                have hS5 : Blk w5 wr.heap.size 67 #[.int .i64 i, .int .u64 (o : Int), .bool f] ∧ Blk w5 w.heap.size 26 #[.slice (some ad) n' c] ∧ w5.cell? (ad.add (k * 5)) = some (.int .i64 i) :=
                  ⟨hS.1.grown g5 (fun e => by injection e with e; have := HZ.out; omega), hS.2.1.grown g5 (fun e => by injection e with e; omega), g5.cell hS.2.2 (fun e => by injection e with e; have := HAB.out; omega)⟩
                have HK5 := Lib.hid hS5.2.1
                clear g5 hS
                refine hK.out _ _ hS5 (fun hS => ?_)
                clear hK K
                refine wpAnyH_take (i := 24) (v := .bool true) rfl (by kernel_rfl) (by kernel_rfl) (by kernel_rfl) (fun _ _ _ h => h) (Or.inl ⟨by kernel_rfl, fun u hSw => (by go_simp)⟩) hS ?_
                change wpAnyH _ _ _ _ _ _ _ (Act.put _ (some 46) _) _
                simp only [Act.put]
                try simp only [List.setIfInBounds_toArray, List.set_cons_zero, List.set_cons_succ]
                refine wpAnyH_take (i := 25) (v := .bool true) rfl (by kernel_rfl) (by kernel_rfl) (by kernel_rfl) (fun _ _ _ h => h) (Or.inl ⟨by kernel_rfl, fun u hSw => (by go_simp)⟩) hS ?_
                change wpAnyH _ _ _ _ _ _ _ (Act.put _ (some 47) _) _
                simp only [Act.put]
                try simp only [List.setIfInBounds_toArray, List.set_cons_zero, List.set_cons_succ]
                refine wpAnyH_done (by kernel_rfl) ?_ _
                clear hS
                go_wp2_with fail
                go_ret
                exact ⟨retB HV.out.symm, HB5.out⟩
              · have HIn := Lib.hid c4
                have HOS := Lib.hid (ordL_snoc HY.out)
                have HA2 : Hid (∀ j, j < k + 1 → wOk qs ws j = true) := Lib.hid (fun j hj => by
                  by_cases e : j = k
                  · subst e; exact wOk_yes HY.out HX.out rfl (by omega) (by omega) c4
                  · exact HA.out j (by omega))
                clear c4
                go_upto_region 7 with fail
                refine wp_region_held_drew (S := fun u => Blk u wr.heap.size 67 #[.int .i64 i, .int .u64 (o : Int), .bool f] ∧ Blk u w.heap.size 26 #[.slice (some ad) n' c] ∧ u.cell? (ad.add (k * 5)) = some (.int .i64 i)) (by kernel_rfl) ⟨K1, KQ, e0⟩ (fun hS => ?_)
                have HSM := Lib.hid (show SM 41 .u64 (wr.alloc (.cells #[.int .i64 i, .int .u64 (o : Int), .bool f] 67)).drew (w.heap.size + 1) (ordL (ws.take k)) from M1.below (Below.refl _ _).drew)
                have HBV := Lib.hid B1.drew
                clear K1 KQ e0 M1 B1 z0 z1 y0
                generalize World.drew _ = V at HSM HBV hS ⊢
                refine wpAnyH_take (i := 0) (v := .pointer (some ⟨wr.heap.size, 0, none⟩)) rfl (by kernel_rfl) (by kernel_rfl) (by kernel_rfl) (fun _ _ _ h => h) (Or.inl ⟨by kernel_rfl, fun u hSw => (by go_simp)⟩) hS ?_
                change wpAnyH _ _ _ _ _ _ _ (Act.put _ (some 22) _) _
                simp only [Act.put]
                try simp only [List.setIfInBounds_toArray, List.set_cons_zero, List.set_cons_succ]
                refine wpAnyH_take (i := 1) (v := .int .i64 i) rfl (by kernel_rfl) (by kernel_rfl) (by kernel_rfl) (fun _ _ _ h => h) (Or.inl ⟨by kernel_rfl, fun u hSw => (by have q0 := hSw.1.cell 0; go_simp)⟩) hS ?_
                change wpAnyH _ _ _ _ _ _ _ (Act.put _ (some 23) _) _
                simp only [Act.put]
                try simp only [List.setIfInBounds_toArray, List.set_cons_zero, List.set_cons_succ]
                refine wpAnyH_take (i := 2) (v := .pointer (some ⟨w.heap.size, 0, none⟩)) rfl (by kernel_rfl) (by kernel_rfl) (by kernel_rfl) (fun _ _ _ h => h) (Or.inl ⟨by kernel_rfl, fun u hSw => (by go_simp)⟩) hS ?_
                change wpAnyH _ _ _ _ _ _ _ (Act.put _ (some 24) _) _
                simp only [Act.put]
                try simp only [List.setIfInBounds_toArray, List.set_cons_zero, List.set_cons_succ]
                refine wpAnyH_take (i := 3) (v := .slice (some ad) n' c) rfl (by kernel_rfl) (by kernel_rfl) (by kernel_rfl) (fun _ _ _ h => h) (Or.inl ⟨by kernel_rfl, fun u hSw => (by have q0 := hSw.2.1.cell 0; go_simp)⟩) hS ?_
                change wpAnyH _ _ _ _ _ _ _ (Act.put _ (some 25) _) _
                simp only [Act.put]
                try simp only [List.setIfInBounds_toArray, List.set_cons_zero, List.set_cons_succ]
                refine wpAnyH_take (i := 4) (v := .int .i64 (k : Int)) rfl (by kernel_rfl) (by kernel_rfl) (by kernel_rfl) (fun _ _ _ h => h) (Or.inl ⟨by kernel_rfl, fun u hSw => (by go_simp)⟩) hS ?_
                change wpAnyH _ _ _ _ _ _ _ (Act.put _ (some 26) _) _
                simp only [Act.put]
                try simp only [List.setIfInBounds_toArray, List.set_cons_zero, List.set_cons_succ]
                refine wpAnyH_take (i := 5) (v := .pointer (some (ad.add (k * 5)))) rfl (by kernel_rfl) (by kernel_rfl) (by kernel_rfl) (fun _ _ _ h => h) (Or.inl ⟨by kernel_rfl, fun u hSw => (by go_simp)⟩) hS ?_
                change wpAnyH _ _ _ _ _ _ _ (Act.put _ (some 27) _) _
                simp only [Act.put]
                try simp only [List.setIfInBounds_toArray, List.set_cons_zero, List.set_cons_succ]
                refine wpAnyH_take (i := 6) (v := .pointer (some (ad.add (k * 5)))) rfl (by kernel_rfl) (by kernel_rfl) (by kernel_rfl) (fun _ _ _ h => h) (Or.inl ⟨by kernel_rfl, fun u hSw => (by go_simp)⟩) hS ?_
                change wpAnyH _ _ _ _ _ _ _ (Act.put _ (some 28) _) _
                simp only [Act.put]
                try simp only [List.setIfInBounds_toArray, List.set_cons_zero, List.set_cons_succ]
                refine wpAnyH_take (i := 7) (v := .int .i64 i) rfl (by kernel_rfl) (by kernel_rfl) (by kernel_rfl) (fun _ _ _ h => h) (Or.inl ⟨by kernel_rfl, fun u hSw => (by have q0 := hSw.2.2; go_simp)⟩) hS ?_
                change wpAnyH _ _ _ _ _ _ _ (Act.put _ (some 29) _) _
                simp only [Act.put]
                try simp only [List.setIfInBounds_toArray, List.set_cons_zero, List.set_cons_succ]
                refine wpAnyH_take (i := 8) (v := .bool false) rfl (by kernel_rfl) (by kernel_rfl) (by kernel_rfl) (fun _ _ _ h => h) (Or.inl ⟨by kernel_rfl, fun u hSw => (by go_simp)⟩) hS ?_
                change wpAnyH _ _ _ _ _ _ _ (Act.put _ (some 30) _) _
                simp only [Act.put]
                try simp only [List.setIfInBounds_toArray, List.set_cons_zero, List.set_cons_succ]
                refine wpAnyH_take (i := 9) (v := .bool false) rfl (by kernel_rfl) (by kernel_rfl) (by kernel_rfl) (fun _ _ _ h => h) (Or.inl ⟨by kernel_rfl, fun u hSw => (by go_simp)⟩) hS ?_
                change wpAnyH _ _ _ _ _ _ _ (Act.put _ (some 31) _) _
                simp only [Act.put]
                try simp only [List.setIfInBounds_toArray, List.set_cons_zero, List.set_cons_succ]
                refine wpAnyH_take (i := 10) (v := .pointer (some ⟨wr.heap.size, 1, none⟩)) rfl (by kernel_rfl) (by kernel_rfl) (by kernel_rfl) (fun _ _ _ h => h) (Or.inl ⟨by kernel_rfl, fun u hSw => (by go_simp)⟩) hS ?_
                change wpAnyH _ _ _ _ _ _ _ (Act.put _ (some 32) _) _
                simp only [Act.put]
                try simp only [List.setIfInBounds_toArray, List.set_cons_zero, List.set_cons_succ]
                refine wpAnyH_take (i := 11) (v := .int .u64 (o : Int)) rfl (by kernel_rfl) (by kernel_rfl) (by kernel_rfl) (fun _ _ _ h => h) (Or.inl ⟨by kernel_rfl, fun u hSw => (by have q0 := hSw.1.cell 1; go_simp)⟩) hS ?_
                change wpAnyH _ _ _ _ _ _ _ (Act.put _ (some 33) _) _
                simp only [Act.put]
                try simp only [List.setIfInBounds_toArray, List.set_cons_zero, List.set_cons_succ]
                refine wpAnyH_take (i := 12) (v := .bool false) rfl (by kernel_rfl) (by kernel_rfl) (by kernel_rfl) (fun _ _ _ h => h) (Or.inl ⟨by kernel_rfl, fun u hSw => (by go_simp)⟩) hS ?_
                change wpAnyH _ _ _ _ _ _ _ (Act.put _ (some 34) _) _
                simp only [Act.put]
                try simp only [List.setIfInBounds_toArray, List.set_cons_zero, List.set_cons_succ]
                refine wpAnyH_take (i := 13) (v := .bool false) rfl (by kernel_rfl) (by kernel_rfl) (by kernel_rfl) (fun _ _ _ h => h) (Or.inl ⟨by kernel_rfl, fun u hSw => (by go_simp)⟩) hS ?_
                change wpAnyH _ _ _ _ _ _ _ (Act.put _ (some 35) _) _
                simp only [Act.put]
                try simp only [List.setIfInBounds_toArray, List.set_cons_zero, List.set_cons_succ]
                refine wpAnyH_take (i := 14) (v := .bool false) rfl (by kernel_rfl) (by kernel_rfl) (by kernel_rfl) (fun _ _ _ h => h) (Or.inl ⟨by kernel_rfl, fun u hSw => (by go_simp)⟩) hS ?_
                change wpAnyH _ _ _ _ _ _ _ (Act.put _ (some 36) _) _
                simp only [Act.put]
                try simp only [List.setIfInBounds_toArray, List.set_cons_zero, List.set_cons_succ]
                refine wpAnyH_take (i := 15) (v := .pointer (some ⟨wr.heap.size, 1, none⟩)) rfl (by kernel_rfl) (by kernel_rfl) (by kernel_rfl) (fun _ _ _ h => h) (Or.inl ⟨by kernel_rfl, fun u hSw => (by go_simp)⟩) hS ?_
                change wpAnyH _ _ _ _ _ _ _ (Act.put _ (some 37) _) _
                simp only [Act.put]
                try simp only [List.setIfInBounds_toArray, List.set_cons_zero, List.set_cons_succ]
                refine wpAnyH_take (i := 16) (v := .int .u64 (o : Int)) rfl (by kernel_rfl) (by kernel_rfl) (by kernel_rfl) (fun _ _ _ h => h) (Or.inl ⟨by kernel_rfl, fun u hSw => (by have q0 := hSw.1.cell 1; go_simp)⟩) hS ?_
                change wpAnyH _ _ _ _ _ _ _ (Act.put _ (some 38) _) _
                simp only [Act.put]
                try simp only [List.setIfInBounds_toArray, List.set_cons_zero, List.set_cons_succ]
                refine wpAnyH_take (i := 17) (v := .bool false) rfl (by kernel_rfl) (by kernel_rfl) (by kernel_rfl) (fun _ _ _ h => h) (Or.inl ⟨by kernel_rfl, fun u hSw => (by go_simp)⟩) hS ?_
                change wpAnyH _ _ _ _ _ _ _ (Act.put _ (some 39) _) _
                simp only [Act.put]
                try simp only [List.setIfInBounds_toArray, List.set_cons_zero, List.set_cons_succ]
                refine wpAnyH_take (i := 18) (v := .bool false) rfl (by kernel_rfl) (by kernel_rfl) (by kernel_rfl) (fun _ _ _ h => h) (Or.inl ⟨by kernel_rfl, fun u hSw => (by go_simp)⟩) hS ?_
                change wpAnyH _ _ _ _ _ _ _ (Act.put _ (some 40) _) _
                simp only [Act.put]
                try simp only [List.setIfInBounds_toArray, List.set_cons_zero, List.set_cons_succ]
                refine wpAnyH_take (i := 19) (v := .bool false) rfl (by kernel_rfl) (by kernel_rfl) (by kernel_rfl) (fun _ _ _ h => h) (Or.inl ⟨by kernel_rfl, fun u hSw => (by go_simp)⟩) hS ?_
                change wpAnyH _ _ _ _ _ _ _ (Act.put _ (some 41) _) _
                simp only [Act.put]
                try simp only [List.setIfInBounds_toArray, List.set_cons_zero, List.set_cons_succ]
                refine wpAnyH_take (i := 20) (v := .map (some (w.heap.size + 1))) rfl (by kernel_rfl) (by kernel_rfl) (by kernel_rfl) (fun _ _ _ h => h) (Or.inl ⟨by kernel_rfl, fun u hSw => (by go_simp)⟩) hS ?_
                change wpAnyH _ _ _ _ _ _ _ (Act.put _ (some 42) _) _
                simp only [Act.put]
                try simp only [List.setIfInBounds_toArray, List.set_cons_zero, List.set_cons_succ]
                refine wpAnyH_take (i := 21) (v := .pointer (some ⟨wr.heap.size, 1, none⟩)) rfl (by kernel_rfl) (by kernel_rfl) (by kernel_rfl) (fun _ _ _ h => h) (Or.inl ⟨by kernel_rfl, fun u hSw => (by go_simp)⟩) hS ?_
                change wpAnyH _ _ _ _ _ _ _ (Act.put _ (some 43) _) _
                simp only [Act.put]
                try simp only [List.setIfInBounds_toArray, List.set_cons_zero, List.set_cons_succ]
                refine wpAnyH_take (i := 22) (v := .int .u64 (o : Int)) rfl (by kernel_rfl) (by kernel_rfl) (by kernel_rfl) (fun _ _ _ h => h) (Or.inl ⟨by kernel_rfl, fun u hSw => (by have q0 := hSw.1.cell 1; go_simp)⟩) hS ?_
                change wpAnyH _ _ _ _ _ _ _ (Act.put _ (some 44) _) _
                simp only [Act.put]
                try simp only [List.setIfInBounds_toArray, List.set_cons_zero, List.set_cons_succ]
                refine wpAnyH_ready (rs := [23]) (by kernel_rfl) (by simp) ?_
                refine AllReadyH.cons rfl (fun K hK => ?_) AllReadyH.nil
                go_simp
                refine ((meetu_any _ _ (o : Int) _ (HSM.out.below (Below.refl _ _)) (by omega) (by omega) HLS.out).mono fun e w' h => met_yes h HIn.out).mono ?_
                rintro e5 w5 ⟨rfl, g5, m5⟩
                have HB5 := Lib.hid (HBV.out.grown g5 HBV.out.size (fun g hg => by injection hg with hg; omega))
                have HM5 : Hid (SM 41 .u64 w5 (w.heap.size + 1) (ordL (ws.take (k + 1)))) := Lib.hid (by rw [HOS.out]; exact m5)
                have hS5 : Blk w5 wr.heap.size 67 #[.int .i64 i, .int .u64 (o : Int), .bool f] ∧ Blk w5 w.heap.size 26 #[.slice (some ad) n' c] ∧ w5.cell? (ad.add (k * 5)) = some (.int .i64 i) :=
                  ⟨hS.1.grown g5 (fun e => by injection e with e; have := HZ.out; omega), hS.2.1.grown g5 (fun e => by injection e with e; omega), g5.cell hS.2.2 (fun e => by injection e with e; have := HAB.out; omega)⟩
                have HK5 := Lib.hid hS5.2.1
                clear g5 hS m5
                refine hK.out _ _ hS5 (fun hS => ?_)
                clear hK K
                refine wpAnyH_take (i := 24) (v := .bool false) rfl (by kernel_rfl) (by kernel_rfl) (by kernel_rfl) (fun _ _ _ h => h) (Or.inl ⟨by kernel_rfl, fun u hSw => (by go_simp)⟩) hS ?_
                change wpAnyH _ _ _ _ _ _ _ (Act.put _ (some 46) _) _
                simp only [Act.put]
                try simp only [List.setIfInBounds_toArray, List.set_cons_zero, List.set_cons_succ]
                refine wpAnyH_take (i := 25) (v := .bool false) rfl (by kernel_rfl) (by kernel_rfl) (by kernel_rfl) (fun _ _ _ h => h) (Or.inl ⟨by kernel_rfl, fun u hSw => (by go_simp)⟩) hS ?_
                change wpAnyH _ _ _ _ _ _ _ (Act.put _ (some 47) _) _
                simp only [Act.put]
                try simp only [List.setIfInBounds_toArray, List.set_cons_zero, List.set_cons_succ]
                refine wpAnyH_done (by kernel_rfl) ?_ _
                clear hS
                go_wp2_with fail
                go_roundw
                case rel => exact ⟨k + 1, by omega, by go_num, HA2, HM5, HK5, HB5.out⟩
                case measure => simp [intOf] <;> omega
        · have c1d : (i != ri) = true := by simpa using c1
          have HV : Hid (waitsB qs ws = false) := Lib.hid (waits_no HKL.out (wOk_no HY.out HX.out (.inl c1)))
          clear K1 B1 KQ M1 ho c1
          go_wp2_with fail
          go_quiet (fail)
          go_wp2_with fail
          go_ret
          exact ⟨retB HV.out.symm, below_drewN HB1.out _⟩
      · obtain rfl : k = n' := by omega
        have HV : Hid (waitsB qs ws = true) := Lib.hid (waits_yes (by rw [HL.out, HL'.out]) fun q hq => HA.out q (by rw [HL'.out] at hq; exact hq))
        go_wp2
        go_ret
        exact ⟨retB HV.out.symm, hB⟩
  · have HV : Hid (waitsB qs ws = false) := Lib.hid (waits_len (by rw [HL.out, HL'.out]; exact hnn))
    have c1 : ((n' : Int) != (n : Int)) = true := by simp; omega
    have c2 : (n' != n) = true := by simpa using hnn
    have z0 := K0.cell 0
    have HB := Lib.hid GB
    clear K0 GB hmm hnn
    go_enter Try.func43, Try.ntmps43
    go_wp2_with fail
    go_ret
    exact ⟨retB HV.out.symm, HB.out⟩

end Go.Proofs.Ytniilfcbiliegaa
