/-
  The landed frac: the first beyond which none is. No statement is proved here.
-/
import Derived.Test.YtfgabmelmopgdaaEn
namespace Go.Proofs.Ytfgabmelmopgdaa
open Go.RowKit

set_option maxRecDepth 100000 in
set_option maxHeartbeats 4000000 in
theorem first_top (ad : Addr) (n c : Nat) (l : List (Nat × Nat × Nat)) (w : World) (hl : l.length = n) (hn0 : 0 < n) (hn : n ≤ maxLen) (hs : Small l) (ha : allB l = true) (hr : Frow w w.heap.size (some ad) l) (k0 : Nat) (ht : Top (aF l) (bF l) n k0) :
    Calls Try.prog 102 #[.slice (some ad) n c, .func (.func 56) #[] #[]] w (Said (.int .i64 (k0 : Int)) w) := by
  unfold maxLen at hn
  have HR := Lib.hid hr
  have HL := Lib.hid hl
  have HS := Lib.hid hs
  have HA := Lib.hid ha
  have HT := Lib.hid ht
  have HN0 := Lib.hid hn0
  clear hr hl hs ha ht hn0
  go_enter Try.func102, Try.ntmps102
  go_wp2_with fail
  go_loopw [5, 10] (fun f i wr => ∃ k m : Nat, k ≤ n ∧ m < n ∧ f = .int .i64 (m : Int) ∧ i = .int .i64 (k : Int) ∧ Hid (Up (aF l) (bF l) k m) ∧ Below w.heap.size w wr) (fun _ i _ => n - (intOf i).toNat)
  case atStart => exact ⟨0, 0, by omega, HN0.out, rfl, rfl, Lib.hid (.inl ⟨rfl, rfl⟩), Below.refl _ _⟩
  case round =>
    obtain ⟨k, m, hk, hm, rfl, rfl, HU0, hB⟩ := hrel
    by_cases hlt : k < n
    · obtain ⟨p, q, x, hm1⟩ := each_at (l := l) (k := k) (by rw [HL.out]; exact hlt)
      obtain ⟨p', q', x', hm2⟩ := each_at (l := l) (k := m) (by rw [HL.out]; exact hm)
      obtain ⟨ad2, e, hb, d0, d1, d2⟩ := (HR.out.below hB (Nat.le_refl _)) k p q x hm1
      obtain rfl := Option.some.inj e
      have HM2 := Lib.hid hm2
      have s1 := HS.out k p q x hm1
      have s2 := HS.out m p' q' x' hm2
      have r1 := right_parts (all_each HA.out hm1)
      have r2 := right_parts (all_each HA.out hm2)
      have hv := fun u => vabove_any p q x p' q' x' u s1.1 s1.2.1 r1.2.1 s2.1 s2.2.1 r2.2.1 (by omega) (by omega)
      have t1 := ab_at hm1
      have t2 := ab_at hm2
      have hpos : ∀ j, j < k → 0 < bF l j := fun j hj => bF_pos HA.out j (by rw [HL.out]; omega)
      rw [← t1.1, ← t2.1] at hv
      rw [← t1.2, ← t2.2] at hv
      by_cases hg : aF l m * bF l k < aF l k * bF l m
      · rw [decide_eq_true hg] at hv
        rw [t1.2, t2.2] at hv
        have HV := Lib.hid hv
        have HU := Lib.hid (HU0.out.yes hpos hg)
        have hsz := hB.size
        have m1 : (0 : Int) ≤ (m : Int) := by omega
        have m2 : (m : Int) < (n : Int) := by omega
        clear hg hv t1 t2 r1 r2 s1 s2 hm1 hm2 hpos HU0 e
        go_upto_region 5 with fail
        have FA := Blk.new wr 88 #[.int .u64 (p : Int), .int .u64 (q : Int), .int .u64 (x : Int)]
        have FR := HR.out.below (hB.alloc hsz (.cells #[.int .u64 (p : Int), .int .u64 (q : Int), .int .u64 (x : Int)] 88)) (Nat.le_refl _)
        have GB := hB.alloc hsz (.cells #[.int .u64 (p : Int), .int .u64 (q : Int), .int .u64 (x : Int)] 88)
        clear d0 d1 d2 hB
        generalize wr.alloc (.cells #[.int .u64 (p : Int), .int .u64 (q : Int), .int .u64 (x : Int)] 88) = V0 at FA FR GB ⊢
        replace FA : Blk V0.drew _ _ _ := FA
        replace FR : Frow V0.drew _ _ _ := FR
        replace GB := GB.drew
        refine wp_region_held_drew (S := fun W => Blk W wr.heap.size 88 #[.int .u64 (p : Int), .int .u64 (q : Int), .int .u64 (x : Int)] ∧ Frow W w.heap.size (some ad) l) (by kernel_rfl) ⟨FA, FR⟩ (fun hS => ?_)
        generalize V0.drew = V at FA FR GB hS ⊢
        refine wpAnyH_take (i := 0) (v := .func (.func 56) #[] #[]) rfl (by kernel_rfl) (by kernel_rfl) (by kernel_rfl) (fun _ _ _ h => h) (Or.inl ⟨by rfl, fun u hSw => (by go_simp)⟩) hS ?_
        refine wpAnyH_take (i := 1) (v := .agg #[.int .u64 (p : Int), .int .u64 (q : Int), .int .u64 (x : Int)]) rfl (by kernel_rfl) (by kernel_rfl) (by kernel_rfl) (fun _ _ _ h => h) (Or.inl ⟨by rfl, fun u hSw => (by have c0 : u.cell? ⟨wr.heap.size, 0, none⟩ = some (.int .u64 (p : Int)) := hSw.1.cell 0; have c1 : u.cell? ⟨wr.heap.size, 1, none⟩ = some (.int .u64 (q : Int)) := hSw.1.cell 1; have c2 : u.cell? ⟨wr.heap.size, 2, none⟩ = some (.int .u64 (x : Int)) := hSw.1.cell 2; go_simp)⟩) hS ?_
        refine wpAnyH_take (i := 2) (v := .slice (some ad) n c) rfl (by kernel_rfl) (by kernel_rfl) (by kernel_rfl) (fun _ _ _ h => h) (Or.inl ⟨by rfl, fun u hSw => (by go_simp)⟩) hS ?_
        refine wpAnyH_take (i := 3) (v := .int .i64 (m : Int)) rfl (by kernel_rfl) (by kernel_rfl) (by kernel_rfl) (fun _ _ _ h => h) (Or.inl ⟨by rfl, fun u hSw => (by go_simp)⟩) hS ?_
        refine wpAnyH_take (i := 4) (v := .pointer (some (ad.add (m * 3)))) rfl (by kernel_rfl) (by kernel_rfl) (by kernel_rfl) (fun _ _ _ h => h) (Or.inl ⟨by rfl, fun u hSw => (by go_simp)⟩) hS ?_
        refine wpAnyH_take (i := 5) (v := .agg #[.int .u64 (p' : Int), .int .u64 (q' : Int), .int .u64 (x' : Int)]) rfl (by kernel_rfl) (by kernel_rfl) (by kernel_rfl) (fun _ _ _ h => h) (Or.inl ⟨by rfl, fun u hSw => (by obtain ⟨ad2, e, _, c0, c1, c2⟩ := hSw.2 m p' q' x' HM2.out; obtain rfl := Option.some.inj e; go_simp)⟩) hS ?_
        refine wpAnyH_ready (rs := [6]) (by kernel_rfl) (by simp) ?_
        refine AllReadyH.cons rfl (fun K hK => ?_) AllReadyH.nil
        go_simp
        refine (HV.out _).mono ?_
        rintro e w1 ⟨rfl, h1⟩
        replace FA := FA.below h1 FA.lt
        replace FR := FR.below h1 (by have := GB.size; omega)
        replace GB := GB.trans (h1.mono GB.size)
        clear h1
        refine hK.out _ _ ⟨FA, FR⟩ (fun hS => ?_)
        clear hK K
        refine wpAnyH_done (by kernel_rfl) ?_ _
        clear hS FA FR
        go_wp2
        go_roundw
        case rel => exact ⟨k + 1, k, by omega, hlt, rfl, by go_num, HU, GB⟩
        case measure => simp [intOf]; omega
      · rw [decide_eq_false hg] at hv
        rw [t1.2, t2.2] at hv
        have HV := Lib.hid hv
        have HU := Lib.hid (HU0.out.no hg)
        have hsz := hB.size
        have m1 : (0 : Int) ≤ (m : Int) := by omega
        have m2 : (m : Int) < (n : Int) := by omega
        clear hg hv t1 t2 r1 r2 s1 s2 hm1 hm2 hpos HU0 e
        go_upto_region 5 with fail
        have FA := Blk.new wr 88 #[.int .u64 (p : Int), .int .u64 (q : Int), .int .u64 (x : Int)]
        have FR := HR.out.below (hB.alloc hsz (.cells #[.int .u64 (p : Int), .int .u64 (q : Int), .int .u64 (x : Int)] 88)) (Nat.le_refl _)
        have GB := hB.alloc hsz (.cells #[.int .u64 (p : Int), .int .u64 (q : Int), .int .u64 (x : Int)] 88)
        clear d0 d1 d2 hB
        generalize wr.alloc (.cells #[.int .u64 (p : Int), .int .u64 (q : Int), .int .u64 (x : Int)] 88) = V0 at FA FR GB ⊢
        replace FA : Blk V0.drew _ _ _ := FA
        replace FR : Frow V0.drew _ _ _ := FR
        replace GB := GB.drew
        refine wp_region_held_drew (S := fun W => Blk W wr.heap.size 88 #[.int .u64 (p : Int), .int .u64 (q : Int), .int .u64 (x : Int)] ∧ Frow W w.heap.size (some ad) l) (by kernel_rfl) ⟨FA, FR⟩ (fun hS => ?_)
        generalize V0.drew = V at FA FR GB hS ⊢
        refine wpAnyH_take (i := 0) (v := .func (.func 56) #[] #[]) rfl (by kernel_rfl) (by kernel_rfl) (by kernel_rfl) (fun _ _ _ h => h) (Or.inl ⟨by rfl, fun u hSw => (by go_simp)⟩) hS ?_
        refine wpAnyH_take (i := 1) (v := .agg #[.int .u64 (p : Int), .int .u64 (q : Int), .int .u64 (x : Int)]) rfl (by kernel_rfl) (by kernel_rfl) (by kernel_rfl) (fun _ _ _ h => h) (Or.inl ⟨by rfl, fun u hSw => (by have c0 : u.cell? ⟨wr.heap.size, 0, none⟩ = some (.int .u64 (p : Int)) := hSw.1.cell 0; have c1 : u.cell? ⟨wr.heap.size, 1, none⟩ = some (.int .u64 (q : Int)) := hSw.1.cell 1; have c2 : u.cell? ⟨wr.heap.size, 2, none⟩ = some (.int .u64 (x : Int)) := hSw.1.cell 2; go_simp)⟩) hS ?_
        refine wpAnyH_take (i := 2) (v := .slice (some ad) n c) rfl (by kernel_rfl) (by kernel_rfl) (by kernel_rfl) (fun _ _ _ h => h) (Or.inl ⟨by rfl, fun u hSw => (by go_simp)⟩) hS ?_
        refine wpAnyH_take (i := 3) (v := .int .i64 (m : Int)) rfl (by kernel_rfl) (by kernel_rfl) (by kernel_rfl) (fun _ _ _ h => h) (Or.inl ⟨by rfl, fun u hSw => (by go_simp)⟩) hS ?_
        refine wpAnyH_take (i := 4) (v := .pointer (some (ad.add (m * 3)))) rfl (by kernel_rfl) (by kernel_rfl) (by kernel_rfl) (fun _ _ _ h => h) (Or.inl ⟨by rfl, fun u hSw => (by go_simp)⟩) hS ?_
        refine wpAnyH_take (i := 5) (v := .agg #[.int .u64 (p' : Int), .int .u64 (q' : Int), .int .u64 (x' : Int)]) rfl (by kernel_rfl) (by kernel_rfl) (by kernel_rfl) (fun _ _ _ h => h) (Or.inl ⟨by rfl, fun u hSw => (by obtain ⟨ad2, e, _, c0, c1, c2⟩ := hSw.2 m p' q' x' HM2.out; obtain rfl := Option.some.inj e; go_simp)⟩) hS ?_
        refine wpAnyH_ready (rs := [6]) (by kernel_rfl) (by simp) ?_
        refine AllReadyH.cons rfl (fun K hK => ?_) AllReadyH.nil
        go_simp
        refine (HV.out _).mono ?_
        rintro e w1 ⟨rfl, h1⟩
        replace FA := FA.below h1 FA.lt
        replace FR := FR.below h1 (by have := GB.size; omega)
        replace GB := GB.trans (h1.mono GB.size)
        clear h1
        refine hK.out _ _ ⟨FA, FR⟩ (fun hS => ?_)
        clear hK K
        refine wpAnyH_done (by kernel_rfl) ?_ _
        clear hS FA FR
        go_wp2
        go_roundw
        case rel => exact ⟨k + 1, m, by omega, hm, rfl, by go_num, HU, GB⟩
        case measure => simp [intOf]; omega
    · obtain rfl : n = k := by omega
      have HE := Lib.hid (HU0.out.end_ HN0.out HT.out)
      go_wp2
      go_ret
      exact ⟨retI (by rw [HE.out]), hB⟩


end Go.Proofs.Ytfgabmelmopgdaa
