/-
  The landed domain: changed, once for each closure. No statement is proved here.
-/
import Derived.Test.YtknimnopopnbhaaEj
namespace Go.Proofs.Ytknimnopopnbhaa
open Go.RowKit

/-- what the closure makes of a copy -/
def DoOkCreate (q1 q2 : Value) (ds : List Dom) (us : List Vc) (ds' : List Dom) (us' : List Vc) (w : World) : Prop :=
  ∀ (b : Nat) (A : Option Addr) (n c : Nat) (B : Option Addr) (m d : Nat) (u : World), w.heap.size ≤ b → b ≤ u.heap.size → Below w.heap.size w u → G2 u b A n c ds B m d us → Calls Try.prog 45 #[.agg #[.slice A n c, .slice B m d], q1, q2] u (DoesG b ds' us' u)

set_option maxRecDepth 100000 in
set_option maxHeartbeats 4000000 in
theorem changedCreate_any (A : Option Addr) (n c : Nat) (ds : List Dom) (B : Option Addr) (m d : Nat) (us : List Vc) (ds' : List Dom) (us' : List Vc) (q1 q2 : Value) (w : World) (hG : GR w A n c ds B m d us) (hdo : DoOkCreate q1 q2 ds us ds' us' w) :
    Calls Try.prog 44 #[.agg #[.slice A n c, .slice B m d], .func (.func 45) #[] #[q1, q2]] w (DoesG w.heap.size ds' us' w) := by
  have HCa := Lib.hid (fun (u : World) (h : Below w.heap.size w u) => dclone_any A n c ds u (hG.below h).doms hG.n9)
  have HCb := Lib.hid (fun (u : World) (h : Below w.heap.size w u) => vclone_any B m d us u (hG.below h).vcs hG.m9)
  have HD := Lib.hid hdo
  obtain ⟨K0, K1, GB⟩ := blks2 w 25 25 #[.slice A n c, .slice B m d] #[.slice none 0 0, .slice none 0 0]
  have hz : w.heap.size + 1 + 1 ≤ ((w.alloc (.cells #[.slice A n c, .slice B m d] 25)).alloc (.cells #[.slice none 0 0, .slice none 0 0] 25)).heap.size := by simp
  clear hG hdo
  go_enter Try.func44, Try.ntmps44
  go_upto_region 1 with fail
  generalize (w.alloc (.cells #[.slice A n c, .slice B m d] 25)).alloc (.cells #[.slice none 0 0, .slice none 0 0] 25) = W2 at K0 K1 GB hz ⊢
  replace K0 : Blk W2.drew _ _ _ := K0
  replace K1 : Blk W2.drew _ _ _ := K1
  replace GB := GB.drew
  replace hz : w.heap.size + 1 + 1 ≤ W2.drew.heap.size := hz
  refine wp_region_held_drew (S := fun u => Below w.heap.size w u ∧ Blk u w.heap.size 25 #[.slice A n c, .slice B m d]) (by kernel_rfl) ⟨GB, K0⟩ (fun hS => ?_)
  generalize W2.drew = V at K0 K1 GB hz hS ⊢
  refine wpAnyH_take (i := 0) (v := .func (.func 45) #[] #[q1, q2]) rfl (by kernel_rfl) (by kernel_rfl) (by kernel_rfl) (fun _ _ _ h => h) (Or.inl ⟨by kernel_rfl, fun u hSw => (by go_simp)⟩) hS ?_
  change wpAnyH _ _ _ _ _ _ _ (Act.put _ (some 5) _) _
  simp only [Act.put]
  refine wpAnyH_take (i := 1) (v := .pointer (some ⟨w.heap.size, 0, none⟩)) rfl (by kernel_rfl) (by kernel_rfl) (by kernel_rfl) (fun _ _ _ h => h) (Or.inl ⟨by kernel_rfl, fun u hSw => (by go_simp)⟩) hS ?_
  change wpAnyH _ _ _ _ _ _ _ (Act.put _ (some 6) _) _
  simp only [Act.put]
  refine wpAnyH_take (i := 2) (v := .slice A n c) rfl (by kernel_rfl) (by kernel_rfl) (by kernel_rfl) (fun _ _ _ h => h) (Or.inl ⟨by kernel_rfl, fun u hSw => (by have q0 := hSw.2.cell 0; go_simp)⟩) hS ?_
  change wpAnyH _ _ _ _ _ _ _ (Act.put _ (some 7) _) _
  simp only [Act.put]
  refine wpAnyH_take (i := 4) (v := .pointer (some ⟨w.heap.size, 1, none⟩)) rfl (by kernel_rfl) (by kernel_rfl) (by kernel_rfl) (fun _ _ _ h => h) (Or.inl ⟨by kernel_rfl, fun u hSw => (by go_simp)⟩) hS ?_
  change wpAnyH _ _ _ _ _ _ _ (Act.put _ (some 9) _) _
  simp only [Act.put]
  refine wpAnyH_take (i := 5) (v := .slice B m d) rfl (by kernel_rfl) (by kernel_rfl) (by kernel_rfl) (fun _ _ _ h => h) (Or.inl ⟨by kernel_rfl, fun u hSw => (by have q0 := hSw.2.cell 1; go_simp)⟩) hS ?_
  change wpAnyH _ _ _ _ _ _ _ (Act.put _ (some 10) _) _
  simp only [Act.put]
  refine wpAnyH_ready (rs := [3]) (by kernel_rfl) (by simp) ?_
  refine AllReadyH.cons rfl (fun K hK => ?_) AllReadyH.nil
  go_simp
  refine (HCa.out _ GB).mono ?_
  rintro e1 w1 ⟨A1, Ac, rfl, oA, h9⟩
  replace K0 := K0.below h9 K0.lt
  replace K1 := K1.below h9 K1.lt
  replace GB := GB.trans (h9.mono GB.size)
  replace oA := own_down oA hz
  have ltA := fun k hk => (oA.lt k hk).2
  replace hz := Nat.le_trans hz h9.size
  clear h9
  refine hK.out _ _ ⟨GB, K0⟩ (fun hS => ?_)
  clear hK K
  refine wpAnyH_ready (rs := [6]) (by kernel_rfl) (by simp) ?_
  refine AllReadyH.cons rfl (fun K hK => ?_) AllReadyH.nil
  go_simp
  refine (HCb.out _ GB).mono ?_
  rintro e2 w2 ⟨B1, Bc, rfl, oB, h9⟩
  replace K0 := K0.below h9 K0.lt
  replace K1 := K1.below h9 K1.lt
  replace GB := GB.trans (h9.mono GB.size)
  have geB := fun k hk => (oB.lt k hk).1
  replace oB := own_down oB hz
  replace oA := own_below oA h9
  replace hz := Nat.le_trans hz h9.size
  have HGG : G2 w2 (w.heap.size + 1 + 1) A1 n Ac ds B1 m Bc us := ⟨oA, oB, fun k k' h1 h2 => by have := ltA k h1; have := geB k' h2; omega⟩
  clear oA oB ltA geB
  clear h9
  refine hK.out _ _ ⟨GB, K0⟩ (fun hS => ?_)
  clear hK K
  refine wpAnyH_take (i := 7) (v := .agg #[.slice A1 n Ac, .slice B1 m Bc]) rfl (by kernel_rfl) (by kernel_rfl) (by kernel_rfl) (fun _ _ _ h => h) (Or.inl ⟨by kernel_rfl, fun u hSw => (by go_simp)⟩) hS ?_
  change wpAnyH _ _ _ _ _ _ _ (Act.put _ (some 12) _) _
  simp only [Act.put]
  refine wpAnyH_ready (rs := [8]) (by kernel_rfl) (by simp) ?_
  refine AllReadyH.cons rfl (fun K hK => ?_) AllReadyH.nil
  go_simp
  refine (HD.out _ _ _ _ _ _ _ _ (by omega) hz GB HGG).mono ?_
  rintro e3 w3 ⟨A3, n3, c3, B3, m3, d3, rfl, hl1, hl2, oD, oV, h9⟩
  replace K0 := K0.below h9 (by omega)
  replace K1 := K1.below h9 (by omega)
  replace GB := GB.trans (h9.mono (show w.heap.size ≤ w.heap.size + 1 + 1 by omega))
  clear h9 HGG hz
  refine hK.out _ _ ⟨GB, K0⟩ (fun hS => ?_)
  clear hK K
  refine wpAnyH_ready (rs := [9]) (by kernel_rfl) (by simp) ?_
  refine AllReadyH.cons rfl (fun K hK => ?_) AllReadyH.nil
  have d0 := K1.cell 0
  have d1 := K1.cell 1
  have f0 := K1.frozen 0
  have f1 := K1.frozen 1
  have HP := put2 (x := .slice A3 n3 c3) (y := .slice B3 m3 d3) K1 GB (by omega)
  have oD' := own_set (own_set oD (g := w.heap.size + 1) (by omega) 0 (.slice A3 n3 c3)) (g := w.heap.size + 1) (by omega) 1 (.slice B3 m3 d3)
  have oV' := own_set (own_set oV (g := w.heap.size + 1) (by omega) 0 (.slice A3 n3 c3)) (g := w.heap.size + 1) (by omega) 1 (.slice B3 m3 d3)
  have K0' := (K0.far (p := ⟨w.heap.size + 1, 0, none⟩) (by simp) (.slice A3 n3 c3)).far (p := ⟨w.heap.size + 1, 1, none⟩) (by simp) (.slice B3 m3 d3)
  go_simp
  refine hK.out _ _ ⟨HP.2, K0'⟩ (fun hS => ?_)
  clear hK K d0 d1 f0 f1 K0 K1 GB oD oV
  refine wpAnyH_done (by kernel_rfl) ?_ _
  clear hS
  go_simp
  have HE := Lib.hid (And.intro HP (And.intro oD' (And.intro oV' (And.intro hl1 hl2))))
  clear HP oD' oV' K0' hl1 hl2
  go_wp2_with fail
  exact bodyPost_ret (v := .agg #[.slice A3 n3 c3, .slice B3 m3 d3]) (results_cell_row Try.results44 _ _ _ _ _ _ _ rfl HE.out.1.1 Try.underlying25 rfl (by kernel_rfl)) rfl ⟨A3, n3, c3, B3, m3, d3, rfl, HE.out.2.2.2.1, HE.out.2.2.2.2, own_down HE.out.2.1 (by omega), own_down HE.out.2.2.1 (by omega), HE.out.1.2⟩

/-- what the closure makes of a copy -/
def DoOkDestroy (q1 : Value) (ds : List Dom) (us : List Vc) (ds' : List Dom) (us' : List Vc) (w : World) : Prop :=
  ∀ (b : Nat) (A : Option Addr) (n c : Nat) (B : Option Addr) (m d : Nat) (u : World), w.heap.size ≤ b → b ≤ u.heap.size → Below w.heap.size w u → G2 u b A n c ds B m d us → Calls Try.prog 50 #[.agg #[.slice A n c, .slice B m d], q1] u (DoesG b ds' us' u)

set_option maxRecDepth 100000 in
set_option maxHeartbeats 4000000 in
theorem changedDestroy_any (A : Option Addr) (n c : Nat) (ds : List Dom) (B : Option Addr) (m d : Nat) (us : List Vc) (ds' : List Dom) (us' : List Vc) (q1 : Value) (w : World) (hG : GR w A n c ds B m d us) (hdo : DoOkDestroy q1 ds us ds' us' w) :
    Calls Try.prog 44 #[.agg #[.slice A n c, .slice B m d], .func (.func 50) #[] #[q1]] w (DoesG w.heap.size ds' us' w) := by
  have HCa := Lib.hid (fun (u : World) (h : Below w.heap.size w u) => dclone_any A n c ds u (hG.below h).doms hG.n9)
  have HCb := Lib.hid (fun (u : World) (h : Below w.heap.size w u) => vclone_any B m d us u (hG.below h).vcs hG.m9)
  have HD := Lib.hid hdo
  obtain ⟨K0, K1, GB⟩ := blks2 w 25 25 #[.slice A n c, .slice B m d] #[.slice none 0 0, .slice none 0 0]
  have hz : w.heap.size + 1 + 1 ≤ ((w.alloc (.cells #[.slice A n c, .slice B m d] 25)).alloc (.cells #[.slice none 0 0, .slice none 0 0] 25)).heap.size := by simp
  clear hG hdo
  go_enter Try.func44, Try.ntmps44
  go_upto_region 1 with fail
  generalize (w.alloc (.cells #[.slice A n c, .slice B m d] 25)).alloc (.cells #[.slice none 0 0, .slice none 0 0] 25) = W2 at K0 K1 GB hz ⊢
  replace K0 : Blk W2.drew _ _ _ := K0
  replace K1 : Blk W2.drew _ _ _ := K1
  replace GB := GB.drew
  replace hz : w.heap.size + 1 + 1 ≤ W2.drew.heap.size := hz
  refine wp_region_held_drew (S := fun u => Below w.heap.size w u ∧ Blk u w.heap.size 25 #[.slice A n c, .slice B m d]) (by kernel_rfl) ⟨GB, K0⟩ (fun hS => ?_)
  generalize W2.drew = V at K0 K1 GB hz hS ⊢
  refine wpAnyH_take (i := 0) (v := .func (.func 50) #[] #[q1]) rfl (by kernel_rfl) (by kernel_rfl) (by kernel_rfl) (fun _ _ _ h => h) (Or.inl ⟨by kernel_rfl, fun u hSw => (by go_simp)⟩) hS ?_
  change wpAnyH _ _ _ _ _ _ _ (Act.put _ (some 5) _) _
  simp only [Act.put]
  refine wpAnyH_take (i := 1) (v := .pointer (some ⟨w.heap.size, 0, none⟩)) rfl (by kernel_rfl) (by kernel_rfl) (by kernel_rfl) (fun _ _ _ h => h) (Or.inl ⟨by kernel_rfl, fun u hSw => (by go_simp)⟩) hS ?_
  change wpAnyH _ _ _ _ _ _ _ (Act.put _ (some 6) _) _
  simp only [Act.put]
  refine wpAnyH_take (i := 2) (v := .slice A n c) rfl (by kernel_rfl) (by kernel_rfl) (by kernel_rfl) (fun _ _ _ h => h) (Or.inl ⟨by kernel_rfl, fun u hSw => (by have q0 := hSw.2.cell 0; go_simp)⟩) hS ?_
  change wpAnyH _ _ _ _ _ _ _ (Act.put _ (some 7) _) _
  simp only [Act.put]
  refine wpAnyH_take (i := 4) (v := .pointer (some ⟨w.heap.size, 1, none⟩)) rfl (by kernel_rfl) (by kernel_rfl) (by kernel_rfl) (fun _ _ _ h => h) (Or.inl ⟨by kernel_rfl, fun u hSw => (by go_simp)⟩) hS ?_
  change wpAnyH _ _ _ _ _ _ _ (Act.put _ (some 9) _) _
  simp only [Act.put]
  refine wpAnyH_take (i := 5) (v := .slice B m d) rfl (by kernel_rfl) (by kernel_rfl) (by kernel_rfl) (fun _ _ _ h => h) (Or.inl ⟨by kernel_rfl, fun u hSw => (by have q0 := hSw.2.cell 1; go_simp)⟩) hS ?_
  change wpAnyH _ _ _ _ _ _ _ (Act.put _ (some 10) _) _
  simp only [Act.put]
  refine wpAnyH_ready (rs := [3]) (by kernel_rfl) (by simp) ?_
  refine AllReadyH.cons rfl (fun K hK => ?_) AllReadyH.nil
  go_simp
  refine (HCa.out _ GB).mono ?_
  rintro e1 w1 ⟨A1, Ac, rfl, oA, h9⟩
  replace K0 := K0.below h9 K0.lt
  replace K1 := K1.below h9 K1.lt
  replace GB := GB.trans (h9.mono GB.size)
  replace oA := own_down oA hz
  have ltA := fun k hk => (oA.lt k hk).2
  replace hz := Nat.le_trans hz h9.size
  clear h9
  refine hK.out _ _ ⟨GB, K0⟩ (fun hS => ?_)
  clear hK K
  refine wpAnyH_ready (rs := [6]) (by kernel_rfl) (by simp) ?_
  refine AllReadyH.cons rfl (fun K hK => ?_) AllReadyH.nil
  go_simp
  refine (HCb.out _ GB).mono ?_
  rintro e2 w2 ⟨B1, Bc, rfl, oB, h9⟩
  replace K0 := K0.below h9 K0.lt
  replace K1 := K1.below h9 K1.lt
  replace GB := GB.trans (h9.mono GB.size)
  have geB := fun k hk => (oB.lt k hk).1
  replace oB := own_down oB hz
  replace oA := own_below oA h9
  replace hz := Nat.le_trans hz h9.size
  have HGG : G2 w2 (w.heap.size + 1 + 1) A1 n Ac ds B1 m Bc us := ⟨oA, oB, fun k k' h1 h2 => by have := ltA k h1; have := geB k' h2; omega⟩
  clear oA oB ltA geB
  clear h9
  refine hK.out _ _ ⟨GB, K0⟩ (fun hS => ?_)
  clear hK K
  refine wpAnyH_take (i := 7) (v := .agg #[.slice A1 n Ac, .slice B1 m Bc]) rfl (by kernel_rfl) (by kernel_rfl) (by kernel_rfl) (fun _ _ _ h => h) (Or.inl ⟨by kernel_rfl, fun u hSw => (by go_simp)⟩) hS ?_
  change wpAnyH _ _ _ _ _ _ _ (Act.put _ (some 12) _) _
  simp only [Act.put]
  refine wpAnyH_ready (rs := [8]) (by kernel_rfl) (by simp) ?_
  refine AllReadyH.cons rfl (fun K hK => ?_) AllReadyH.nil
  go_simp
  refine (HD.out _ _ _ _ _ _ _ _ (by omega) hz GB HGG).mono ?_
  rintro e3 w3 ⟨A3, n3, c3, B3, m3, d3, rfl, hl1, hl2, oD, oV, h9⟩
  replace K0 := K0.below h9 (by omega)
  replace K1 := K1.below h9 (by omega)
  replace GB := GB.trans (h9.mono (show w.heap.size ≤ w.heap.size + 1 + 1 by omega))
  clear h9 HGG hz
  refine hK.out _ _ ⟨GB, K0⟩ (fun hS => ?_)
  clear hK K
  refine wpAnyH_ready (rs := [9]) (by kernel_rfl) (by simp) ?_
  refine AllReadyH.cons rfl (fun K hK => ?_) AllReadyH.nil
  have d0 := K1.cell 0
  have d1 := K1.cell 1
  have f0 := K1.frozen 0
  have f1 := K1.frozen 1
  have HP := put2 (x := .slice A3 n3 c3) (y := .slice B3 m3 d3) K1 GB (by omega)
  have oD' := own_set (own_set oD (g := w.heap.size + 1) (by omega) 0 (.slice A3 n3 c3)) (g := w.heap.size + 1) (by omega) 1 (.slice B3 m3 d3)
  have oV' := own_set (own_set oV (g := w.heap.size + 1) (by omega) 0 (.slice A3 n3 c3)) (g := w.heap.size + 1) (by omega) 1 (.slice B3 m3 d3)
  have K0' := (K0.far (p := ⟨w.heap.size + 1, 0, none⟩) (by simp) (.slice A3 n3 c3)).far (p := ⟨w.heap.size + 1, 1, none⟩) (by simp) (.slice B3 m3 d3)
  go_simp
  refine hK.out _ _ ⟨HP.2, K0'⟩ (fun hS => ?_)
  clear hK K d0 d1 f0 f1 K0 K1 GB oD oV
  refine wpAnyH_done (by kernel_rfl) ?_ _
  clear hS
  go_simp
  have HE := Lib.hid (And.intro HP (And.intro oD' (And.intro oV' (And.intro hl1 hl2))))
  clear HP oD' oV' K0' hl1 hl2
  go_wp2_with fail
  exact bodyPost_ret (v := .agg #[.slice A3 n3 c3, .slice B3 m3 d3]) (results_cell_row Try.results44 _ _ _ _ _ _ _ rfl HE.out.1.1 Try.underlying25 rfl (by kernel_rfl)) rfl ⟨A3, n3, c3, B3, m3, d3, rfl, HE.out.2.2.2.1, HE.out.2.2.2.2, own_down HE.out.2.1 (by omega), own_down HE.out.2.2.1 (by omega), HE.out.1.2⟩

/-- what the closure makes of a copy -/
def DoOkAdd (q1 q2 q3 q4 : Value) (ds : List Dom) (us : List Vc) (ds' : List Dom) (us' : List Vc) (w : World) : Prop :=
  ∀ (b : Nat) (A : Option Addr) (n c : Nat) (B : Option Addr) (m d : Nat) (u : World), w.heap.size ≤ b → b ≤ u.heap.size → Below w.heap.size w u → G2 u b A n c ds B m d us → Calls Try.prog 56 #[.agg #[.slice A n c, .slice B m d], q1, q2, q3, q4] u (DoesG b ds' us' u)

set_option maxRecDepth 100000 in
set_option maxHeartbeats 4000000 in
theorem changedAdd_any (A : Option Addr) (n c : Nat) (ds : List Dom) (B : Option Addr) (m d : Nat) (us : List Vc) (ds' : List Dom) (us' : List Vc) (q1 q2 q3 q4 : Value) (w : World) (hG : GR w A n c ds B m d us) (hdo : DoOkAdd q1 q2 q3 q4 ds us ds' us' w) :
    Calls Try.prog 44 #[.agg #[.slice A n c, .slice B m d], .func (.func 56) #[] #[q1, q2, q3, q4]] w (DoesG w.heap.size ds' us' w) := by
  have HCa := Lib.hid (fun (u : World) (h : Below w.heap.size w u) => dclone_any A n c ds u (hG.below h).doms hG.n9)
  have HCb := Lib.hid (fun (u : World) (h : Below w.heap.size w u) => vclone_any B m d us u (hG.below h).vcs hG.m9)
  have HD := Lib.hid hdo
  obtain ⟨K0, K1, GB⟩ := blks2 w 25 25 #[.slice A n c, .slice B m d] #[.slice none 0 0, .slice none 0 0]
  have hz : w.heap.size + 1 + 1 ≤ ((w.alloc (.cells #[.slice A n c, .slice B m d] 25)).alloc (.cells #[.slice none 0 0, .slice none 0 0] 25)).heap.size := by simp
  clear hG hdo
  go_enter Try.func44, Try.ntmps44
  go_upto_region 1 with fail
  generalize (w.alloc (.cells #[.slice A n c, .slice B m d] 25)).alloc (.cells #[.slice none 0 0, .slice none 0 0] 25) = W2 at K0 K1 GB hz ⊢
  replace K0 : Blk W2.drew _ _ _ := K0
  replace K1 : Blk W2.drew _ _ _ := K1
  replace GB := GB.drew
  replace hz : w.heap.size + 1 + 1 ≤ W2.drew.heap.size := hz
  refine wp_region_held_drew (S := fun u => Below w.heap.size w u ∧ Blk u w.heap.size 25 #[.slice A n c, .slice B m d]) (by kernel_rfl) ⟨GB, K0⟩ (fun hS => ?_)
  generalize W2.drew = V at K0 K1 GB hz hS ⊢
  refine wpAnyH_take (i := 0) (v := .func (.func 56) #[] #[q1, q2, q3, q4]) rfl (by kernel_rfl) (by kernel_rfl) (by kernel_rfl) (fun _ _ _ h => h) (Or.inl ⟨by kernel_rfl, fun u hSw => (by go_simp)⟩) hS ?_
  change wpAnyH _ _ _ _ _ _ _ (Act.put _ (some 5) _) _
  simp only [Act.put]
  refine wpAnyH_take (i := 1) (v := .pointer (some ⟨w.heap.size, 0, none⟩)) rfl (by kernel_rfl) (by kernel_rfl) (by kernel_rfl) (fun _ _ _ h => h) (Or.inl ⟨by kernel_rfl, fun u hSw => (by go_simp)⟩) hS ?_
  change wpAnyH _ _ _ _ _ _ _ (Act.put _ (some 6) _) _
  simp only [Act.put]
  refine wpAnyH_take (i := 2) (v := .slice A n c) rfl (by kernel_rfl) (by kernel_rfl) (by kernel_rfl) (fun _ _ _ h => h) (Or.inl ⟨by kernel_rfl, fun u hSw => (by have q0 := hSw.2.cell 0; go_simp)⟩) hS ?_
  change wpAnyH _ _ _ _ _ _ _ (Act.put _ (some 7) _) _
  simp only [Act.put]
  refine wpAnyH_take (i := 4) (v := .pointer (some ⟨w.heap.size, 1, none⟩)) rfl (by kernel_rfl) (by kernel_rfl) (by kernel_rfl) (fun _ _ _ h => h) (Or.inl ⟨by kernel_rfl, fun u hSw => (by go_simp)⟩) hS ?_
  change wpAnyH _ _ _ _ _ _ _ (Act.put _ (some 9) _) _
  simp only [Act.put]
  refine wpAnyH_take (i := 5) (v := .slice B m d) rfl (by kernel_rfl) (by kernel_rfl) (by kernel_rfl) (fun _ _ _ h => h) (Or.inl ⟨by kernel_rfl, fun u hSw => (by have q0 := hSw.2.cell 1; go_simp)⟩) hS ?_
  change wpAnyH _ _ _ _ _ _ _ (Act.put _ (some 10) _) _
  simp only [Act.put]
  refine wpAnyH_ready (rs := [3]) (by kernel_rfl) (by simp) ?_
  refine AllReadyH.cons rfl (fun K hK => ?_) AllReadyH.nil
  go_simp
  refine (HCa.out _ GB).mono ?_
  rintro e1 w1 ⟨A1, Ac, rfl, oA, h9⟩
  replace K0 := K0.below h9 K0.lt
  replace K1 := K1.below h9 K1.lt
  replace GB := GB.trans (h9.mono GB.size)
  replace oA := own_down oA hz
  have ltA := fun k hk => (oA.lt k hk).2
  replace hz := Nat.le_trans hz h9.size
  clear h9
  refine hK.out _ _ ⟨GB, K0⟩ (fun hS => ?_)
  clear hK K
  refine wpAnyH_ready (rs := [6]) (by kernel_rfl) (by simp) ?_
  refine AllReadyH.cons rfl (fun K hK => ?_) AllReadyH.nil
  go_simp
  refine (HCb.out _ GB).mono ?_
  rintro e2 w2 ⟨B1, Bc, rfl, oB, h9⟩
  replace K0 := K0.below h9 K0.lt
  replace K1 := K1.below h9 K1.lt
  replace GB := GB.trans (h9.mono GB.size)
  have geB := fun k hk => (oB.lt k hk).1
  replace oB := own_down oB hz
  replace oA := own_below oA h9
  replace hz := Nat.le_trans hz h9.size
  have HGG : G2 w2 (w.heap.size + 1 + 1) A1 n Ac ds B1 m Bc us := ⟨oA, oB, fun k k' h1 h2 => by have := ltA k h1; have := geB k' h2; omega⟩
  clear oA oB ltA geB
  clear h9
  refine hK.out _ _ ⟨GB, K0⟩ (fun hS => ?_)
  clear hK K
  refine wpAnyH_take (i := 7) (v := .agg #[.slice A1 n Ac, .slice B1 m Bc]) rfl (by kernel_rfl) (by kernel_rfl) (by kernel_rfl) (fun _ _ _ h => h) (Or.inl ⟨by kernel_rfl, fun u hSw => (by go_simp)⟩) hS ?_
  change wpAnyH _ _ _ _ _ _ _ (Act.put _ (some 12) _) _
  simp only [Act.put]
  refine wpAnyH_ready (rs := [8]) (by kernel_rfl) (by simp) ?_
  refine AllReadyH.cons rfl (fun K hK => ?_) AllReadyH.nil
  go_simp
  refine (HD.out _ _ _ _ _ _ _ _ (by omega) hz GB HGG).mono ?_
  rintro e3 w3 ⟨A3, n3, c3, B3, m3, d3, rfl, hl1, hl2, oD, oV, h9⟩
  replace K0 := K0.below h9 (by omega)
  replace K1 := K1.below h9 (by omega)
  replace GB := GB.trans (h9.mono (show w.heap.size ≤ w.heap.size + 1 + 1 by omega))
  clear h9 HGG hz
  refine hK.out _ _ ⟨GB, K0⟩ (fun hS => ?_)
  clear hK K
  refine wpAnyH_ready (rs := [9]) (by kernel_rfl) (by simp) ?_
  refine AllReadyH.cons rfl (fun K hK => ?_) AllReadyH.nil
  have d0 := K1.cell 0
  have d1 := K1.cell 1
  have f0 := K1.frozen 0
  have f1 := K1.frozen 1
  have HP := put2 (x := .slice A3 n3 c3) (y := .slice B3 m3 d3) K1 GB (by omega)
  have oD' := own_set (own_set oD (g := w.heap.size + 1) (by omega) 0 (.slice A3 n3 c3)) (g := w.heap.size + 1) (by omega) 1 (.slice B3 m3 d3)
  have oV' := own_set (own_set oV (g := w.heap.size + 1) (by omega) 0 (.slice A3 n3 c3)) (g := w.heap.size + 1) (by omega) 1 (.slice B3 m3 d3)
  have K0' := (K0.far (p := ⟨w.heap.size + 1, 0, none⟩) (by simp) (.slice A3 n3 c3)).far (p := ⟨w.heap.size + 1, 1, none⟩) (by simp) (.slice B3 m3 d3)
  go_simp
  refine hK.out _ _ ⟨HP.2, K0'⟩ (fun hS => ?_)
  clear hK K d0 d1 f0 f1 K0 K1 GB oD oV
  refine wpAnyH_done (by kernel_rfl) ?_ _
  clear hS
  go_simp
  have HE := Lib.hid (And.intro HP (And.intro oD' (And.intro oV' (And.intro hl1 hl2))))
  clear HP oD' oV' K0' hl1 hl2
  go_wp2_with fail
  exact bodyPost_ret (v := .agg #[.slice A3 n3 c3, .slice B3 m3 d3]) (results_cell_row Try.results44 _ _ _ _ _ _ _ rfl HE.out.1.1 Try.underlying25 rfl (by kernel_rfl)) rfl ⟨A3, n3, c3, B3, m3, d3, rfl, HE.out.2.2.2.1, HE.out.2.2.2.2, own_down HE.out.2.1 (by omega), own_down HE.out.2.2.1 (by omega), HE.out.1.2⟩

/-- what the closure makes of a copy -/
def DoOkDrop (q1 : Value) (ds : List Dom) (us : List Vc) (ds' : List Dom) (us' : List Vc) (w : World) : Prop :=
  ∀ (b : Nat) (A : Option Addr) (n c : Nat) (B : Option Addr) (m d : Nat) (u : World), w.heap.size ≤ b → b ≤ u.heap.size → Below w.heap.size w u → G2 u b A n c ds B m d us → Calls Try.prog 59 #[.agg #[.slice A n c, .slice B m d], q1] u (DoesG b ds' us' u)

set_option maxRecDepth 100000 in
set_option maxHeartbeats 4000000 in
theorem changedDrop_any (A : Option Addr) (n c : Nat) (ds : List Dom) (B : Option Addr) (m d : Nat) (us : List Vc) (ds' : List Dom) (us' : List Vc) (q1 : Value) (w : World) (hG : GR w A n c ds B m d us) (hdo : DoOkDrop q1 ds us ds' us' w) :
    Calls Try.prog 44 #[.agg #[.slice A n c, .slice B m d], .func (.func 59) #[] #[q1]] w (DoesG w.heap.size ds' us' w) := by
  have HCa := Lib.hid (fun (u : World) (h : Below w.heap.size w u) => dclone_any A n c ds u (hG.below h).doms hG.n9)
  have HCb := Lib.hid (fun (u : World) (h : Below w.heap.size w u) => vclone_any B m d us u (hG.below h).vcs hG.m9)
  have HD := Lib.hid hdo
  obtain ⟨K0, K1, GB⟩ := blks2 w 25 25 #[.slice A n c, .slice B m d] #[.slice none 0 0, .slice none 0 0]
  have hz : w.heap.size + 1 + 1 ≤ ((w.alloc (.cells #[.slice A n c, .slice B m d] 25)).alloc (.cells #[.slice none 0 0, .slice none 0 0] 25)).heap.size := by simp
  clear hG hdo
  go_enter Try.func44, Try.ntmps44
  go_upto_region 1 with fail
  generalize (w.alloc (.cells #[.slice A n c, .slice B m d] 25)).alloc (.cells #[.slice none 0 0, .slice none 0 0] 25) = W2 at K0 K1 GB hz ⊢
  replace K0 : Blk W2.drew _ _ _ := K0
  replace K1 : Blk W2.drew _ _ _ := K1
  replace GB := GB.drew
  replace hz : w.heap.size + 1 + 1 ≤ W2.drew.heap.size := hz
  refine wp_region_held_drew (S := fun u => Below w.heap.size w u ∧ Blk u w.heap.size 25 #[.slice A n c, .slice B m d]) (by kernel_rfl) ⟨GB, K0⟩ (fun hS => ?_)
  generalize W2.drew = V at K0 K1 GB hz hS ⊢
  refine wpAnyH_take (i := 0) (v := .func (.func 59) #[] #[q1]) rfl (by kernel_rfl) (by kernel_rfl) (by kernel_rfl) (fun _ _ _ h => h) (Or.inl ⟨by kernel_rfl, fun u hSw => (by go_simp)⟩) hS ?_
  change wpAnyH _ _ _ _ _ _ _ (Act.put _ (some 5) _) _
  simp only [Act.put]
  refine wpAnyH_take (i := 1) (v := .pointer (some ⟨w.heap.size, 0, none⟩)) rfl (by kernel_rfl) (by kernel_rfl) (by kernel_rfl) (fun _ _ _ h => h) (Or.inl ⟨by kernel_rfl, fun u hSw => (by go_simp)⟩) hS ?_
  change wpAnyH _ _ _ _ _ _ _ (Act.put _ (some 6) _) _
  simp only [Act.put]
  refine wpAnyH_take (i := 2) (v := .slice A n c) rfl (by kernel_rfl) (by kernel_rfl) (by kernel_rfl) (fun _ _ _ h => h) (Or.inl ⟨by kernel_rfl, fun u hSw => (by have q0 := hSw.2.cell 0; go_simp)⟩) hS ?_
  change wpAnyH _ _ _ _ _ _ _ (Act.put _ (some 7) _) _
  simp only [Act.put]
  refine wpAnyH_take (i := 4) (v := .pointer (some ⟨w.heap.size, 1, none⟩)) rfl (by kernel_rfl) (by kernel_rfl) (by kernel_rfl) (fun _ _ _ h => h) (Or.inl ⟨by kernel_rfl, fun u hSw => (by go_simp)⟩) hS ?_
  change wpAnyH _ _ _ _ _ _ _ (Act.put _ (some 9) _) _
  simp only [Act.put]
  refine wpAnyH_take (i := 5) (v := .slice B m d) rfl (by kernel_rfl) (by kernel_rfl) (by kernel_rfl) (fun _ _ _ h => h) (Or.inl ⟨by kernel_rfl, fun u hSw => (by have q0 := hSw.2.cell 1; go_simp)⟩) hS ?_
  change wpAnyH _ _ _ _ _ _ _ (Act.put _ (some 10) _) _
  simp only [Act.put]
  refine wpAnyH_ready (rs := [3]) (by kernel_rfl) (by simp) ?_
  refine AllReadyH.cons rfl (fun K hK => ?_) AllReadyH.nil
  go_simp
  refine (HCa.out _ GB).mono ?_
  rintro e1 w1 ⟨A1, Ac, rfl, oA, h9⟩
  replace K0 := K0.below h9 K0.lt
  replace K1 := K1.below h9 K1.lt
  replace GB := GB.trans (h9.mono GB.size)
  replace oA := own_down oA hz
  have ltA := fun k hk => (oA.lt k hk).2
  replace hz := Nat.le_trans hz h9.size
  clear h9
  refine hK.out _ _ ⟨GB, K0⟩ (fun hS => ?_)
  clear hK K
  refine wpAnyH_ready (rs := [6]) (by kernel_rfl) (by simp) ?_
  refine AllReadyH.cons rfl (fun K hK => ?_) AllReadyH.nil
  go_simp
  refine (HCb.out _ GB).mono ?_
  rintro e2 w2 ⟨B1, Bc, rfl, oB, h9⟩
  replace K0 := K0.below h9 K0.lt
  replace K1 := K1.below h9 K1.lt
  replace GB := GB.trans (h9.mono GB.size)
  have geB := fun k hk => (oB.lt k hk).1
  replace oB := own_down oB hz
  replace oA := own_below oA h9
  replace hz := Nat.le_trans hz h9.size
  have HGG : G2 w2 (w.heap.size + 1 + 1) A1 n Ac ds B1 m Bc us := ⟨oA, oB, fun k k' h1 h2 => by have := ltA k h1; have := geB k' h2; omega⟩
  clear oA oB ltA geB
  clear h9
  refine hK.out _ _ ⟨GB, K0⟩ (fun hS => ?_)
  clear hK K
  refine wpAnyH_take (i := 7) (v := .agg #[.slice A1 n Ac, .slice B1 m Bc]) rfl (by kernel_rfl) (by kernel_rfl) (by kernel_rfl) (fun _ _ _ h => h) (Or.inl ⟨by kernel_rfl, fun u hSw => (by go_simp)⟩) hS ?_
  change wpAnyH _ _ _ _ _ _ _ (Act.put _ (some 12) _) _
  simp only [Act.put]
  refine wpAnyH_ready (rs := [8]) (by kernel_rfl) (by simp) ?_
  refine AllReadyH.cons rfl (fun K hK => ?_) AllReadyH.nil
  go_simp
  refine (HD.out _ _ _ _ _ _ _ _ (by omega) hz GB HGG).mono ?_
  rintro e3 w3 ⟨A3, n3, c3, B3, m3, d3, rfl, hl1, hl2, oD, oV, h9⟩
  replace K0 := K0.below h9 (by omega)
  replace K1 := K1.below h9 (by omega)
  replace GB := GB.trans (h9.mono (show w.heap.size ≤ w.heap.size + 1 + 1 by omega))
  clear h9 HGG hz
  refine hK.out _ _ ⟨GB, K0⟩ (fun hS => ?_)
  clear hK K
  refine wpAnyH_ready (rs := [9]) (by kernel_rfl) (by simp) ?_
  refine AllReadyH.cons rfl (fun K hK => ?_) AllReadyH.nil
  have d0 := K1.cell 0
  have d1 := K1.cell 1
  have f0 := K1.frozen 0
  have f1 := K1.frozen 1
  have HP := put2 (x := .slice A3 n3 c3) (y := .slice B3 m3 d3) K1 GB (by omega)
  have oD' := own_set (own_set oD (g := w.heap.size + 1) (by omega) 0 (.slice A3 n3 c3)) (g := w.heap.size + 1) (by omega) 1 (.slice B3 m3 d3)
  have oV' := own_set (own_set oV (g := w.heap.size + 1) (by omega) 0 (.slice A3 n3 c3)) (g := w.heap.size + 1) (by omega) 1 (.slice B3 m3 d3)
  have K0' := (K0.far (p := ⟨w.heap.size + 1, 0, none⟩) (by simp) (.slice A3 n3 c3)).far (p := ⟨w.heap.size + 1, 1, none⟩) (by simp) (.slice B3 m3 d3)
  go_simp
  refine hK.out _ _ ⟨HP.2, K0'⟩ (fun hS => ?_)
  clear hK K d0 d1 f0 f1 K0 K1 GB oD oV
  refine wpAnyH_done (by kernel_rfl) ?_ _
  clear hS
  go_simp
  have HE := Lib.hid (And.intro HP (And.intro oD' (And.intro oV' (And.intro hl1 hl2))))
  clear HP oD' oV' K0' hl1 hl2
  go_wp2_with fail
  exact bodyPost_ret (v := .agg #[.slice A3 n3 c3, .slice B3 m3 d3]) (results_cell_row Try.results44 _ _ _ _ _ _ _ rfl HE.out.1.1 Try.underlying25 rfl (by kernel_rfl)) rfl ⟨A3, n3, c3, B3, m3, d3, rfl, HE.out.2.2.2.1, HE.out.2.2.2.2, own_down HE.out.2.1 (by omega), own_down HE.out.2.2.1 (by omega), HE.out.1.2⟩

/-- what the closure makes of a copy -/
def DoOkChange (q1 q2 : Value) (ds : List Dom) (us : List Vc) (ds' : List Dom) (us' : List Vc) (w : World) : Prop :=
  ∀ (b : Nat) (A : Option Addr) (n c : Nat) (B : Option Addr) (m d : Nat) (u : World), w.heap.size ≤ b → b ≤ u.heap.size → Below w.heap.size w u → G2 u b A n c ds B m d us → Calls Try.prog 47 #[.agg #[.slice A n c, .slice B m d], q1, q2] u (DoesG b ds' us' u)

set_option maxRecDepth 100000 in
set_option maxHeartbeats 4000000 in
theorem changedChange_any (A : Option Addr) (n c : Nat) (ds : List Dom) (B : Option Addr) (m d : Nat) (us : List Vc) (ds' : List Dom) (us' : List Vc) (q1 q2 : Value) (w : World) (hG : GR w A n c ds B m d us) (hdo : DoOkChange q1 q2 ds us ds' us' w) :
    Calls Try.prog 44 #[.agg #[.slice A n c, .slice B m d], .func (.func 47) #[] #[q1, q2]] w (DoesG w.heap.size ds' us' w) := by
  have HCa := Lib.hid (fun (u : World) (h : Below w.heap.size w u) => dclone_any A n c ds u (hG.below h).doms hG.n9)
  have HCb := Lib.hid (fun (u : World) (h : Below w.heap.size w u) => vclone_any B m d us u (hG.below h).vcs hG.m9)
  have HD := Lib.hid hdo
  obtain ⟨K0, K1, GB⟩ := blks2 w 25 25 #[.slice A n c, .slice B m d] #[.slice none 0 0, .slice none 0 0]
  have hz : w.heap.size + 1 + 1 ≤ ((w.alloc (.cells #[.slice A n c, .slice B m d] 25)).alloc (.cells #[.slice none 0 0, .slice none 0 0] 25)).heap.size := by simp
  clear hG hdo
  go_enter Try.func44, Try.ntmps44
  go_upto_region 1 with fail
  generalize (w.alloc (.cells #[.slice A n c, .slice B m d] 25)).alloc (.cells #[.slice none 0 0, .slice none 0 0] 25) = W2 at K0 K1 GB hz ⊢
  replace K0 : Blk W2.drew _ _ _ := K0
  replace K1 : Blk W2.drew _ _ _ := K1
  replace GB := GB.drew
  replace hz : w.heap.size + 1 + 1 ≤ W2.drew.heap.size := hz
  refine wp_region_held_drew (S := fun u => Below w.heap.size w u ∧ Blk u w.heap.size 25 #[.slice A n c, .slice B m d]) (by kernel_rfl) ⟨GB, K0⟩ (fun hS => ?_)
  generalize W2.drew = V at K0 K1 GB hz hS ⊢
  refine wpAnyH_take (i := 0) (v := .func (.func 47) #[] #[q1, q2]) rfl (by kernel_rfl) (by kernel_rfl) (by kernel_rfl) (fun _ _ _ h => h) (Or.inl ⟨by kernel_rfl, fun u hSw => (by go_simp)⟩) hS ?_
  change wpAnyH _ _ _ _ _ _ _ (Act.put _ (some 5) _) _
  simp only [Act.put]
  refine wpAnyH_take (i := 1) (v := .pointer (some ⟨w.heap.size, 0, none⟩)) rfl (by kernel_rfl) (by kernel_rfl) (by kernel_rfl) (fun _ _ _ h => h) (Or.inl ⟨by kernel_rfl, fun u hSw => (by go_simp)⟩) hS ?_
  change wpAnyH _ _ _ _ _ _ _ (Act.put _ (some 6) _) _
  simp only [Act.put]
  refine wpAnyH_take (i := 2) (v := .slice A n c) rfl (by kernel_rfl) (by kernel_rfl) (by kernel_rfl) (fun _ _ _ h => h) (Or.inl ⟨by kernel_rfl, fun u hSw => (by have q0 := hSw.2.cell 0; go_simp)⟩) hS ?_
  change wpAnyH _ _ _ _ _ _ _ (Act.put _ (some 7) _) _
  simp only [Act.put]
  refine wpAnyH_take (i := 4) (v := .pointer (some ⟨w.heap.size, 1, none⟩)) rfl (by kernel_rfl) (by kernel_rfl) (by kernel_rfl) (fun _ _ _ h => h) (Or.inl ⟨by kernel_rfl, fun u hSw => (by go_simp)⟩) hS ?_
  change wpAnyH _ _ _ _ _ _ _ (Act.put _ (some 9) _) _
  simp only [Act.put]
  refine wpAnyH_take (i := 5) (v := .slice B m d) rfl (by kernel_rfl) (by kernel_rfl) (by kernel_rfl) (fun _ _ _ h => h) (Or.inl ⟨by kernel_rfl, fun u hSw => (by have q0 := hSw.2.cell 1; go_simp)⟩) hS ?_
  change wpAnyH _ _ _ _ _ _ _ (Act.put _ (some 10) _) _
  simp only [Act.put]
  refine wpAnyH_ready (rs := [3]) (by kernel_rfl) (by simp) ?_
  refine AllReadyH.cons rfl (fun K hK => ?_) AllReadyH.nil
  go_simp
  refine (HCa.out _ GB).mono ?_
  rintro e1 w1 ⟨A1, Ac, rfl, oA, h9⟩
  replace K0 := K0.below h9 K0.lt
  replace K1 := K1.below h9 K1.lt
  replace GB := GB.trans (h9.mono GB.size)
  replace oA := own_down oA hz
  have ltA := fun k hk => (oA.lt k hk).2
  replace hz := Nat.le_trans hz h9.size
  clear h9
  refine hK.out _ _ ⟨GB, K0⟩ (fun hS => ?_)
  clear hK K
  refine wpAnyH_ready (rs := [6]) (by kernel_rfl) (by simp) ?_
  refine AllReadyH.cons rfl (fun K hK => ?_) AllReadyH.nil
  go_simp
  refine (HCb.out _ GB).mono ?_
  rintro e2 w2 ⟨B1, Bc, rfl, oB, h9⟩
  replace K0 := K0.below h9 K0.lt
  replace K1 := K1.below h9 K1.lt
  replace GB := GB.trans (h9.mono GB.size)
  have geB := fun k hk => (oB.lt k hk).1
  replace oB := own_down oB hz
  replace oA := own_below oA h9
  replace hz := Nat.le_trans hz h9.size
  have HGG : G2 w2 (w.heap.size + 1 + 1) A1 n Ac ds B1 m Bc us := ⟨oA, oB, fun k k' h1 h2 => by have := ltA k h1; have := geB k' h2; omega⟩
  clear oA oB ltA geB
  clear h9
  refine hK.out _ _ ⟨GB, K0⟩ (fun hS => ?_)
  clear hK K
  refine wpAnyH_take (i := 7) (v := .agg #[.slice A1 n Ac, .slice B1 m Bc]) rfl (by kernel_rfl) (by kernel_rfl) (by kernel_rfl) (fun _ _ _ h => h) (Or.inl ⟨by kernel_rfl, fun u hSw => (by go_simp)⟩) hS ?_
  change wpAnyH _ _ _ _ _ _ _ (Act.put _ (some 12) _) _
  simp only [Act.put]
  refine wpAnyH_ready (rs := [8]) (by kernel_rfl) (by simp) ?_
  refine AllReadyH.cons rfl (fun K hK => ?_) AllReadyH.nil
  go_simp
  refine (HD.out _ _ _ _ _ _ _ _ (by omega) hz GB HGG).mono ?_
  rintro e3 w3 ⟨A3, n3, c3, B3, m3, d3, rfl, hl1, hl2, oD, oV, h9⟩
  replace K0 := K0.below h9 (by omega)
  replace K1 := K1.below h9 (by omega)
  replace GB := GB.trans (h9.mono (show w.heap.size ≤ w.heap.size + 1 + 1 by omega))
  clear h9 HGG hz
  refine hK.out _ _ ⟨GB, K0⟩ (fun hS => ?_)
  clear hK K
  refine wpAnyH_ready (rs := [9]) (by kernel_rfl) (by simp) ?_
  refine AllReadyH.cons rfl (fun K hK => ?_) AllReadyH.nil
  have d0 := K1.cell 0
  have d1 := K1.cell 1
  have f0 := K1.frozen 0
  have f1 := K1.frozen 1
  have HP := put2 (x := .slice A3 n3 c3) (y := .slice B3 m3 d3) K1 GB (by omega)
  have oD' := own_set (own_set oD (g := w.heap.size + 1) (by omega) 0 (.slice A3 n3 c3)) (g := w.heap.size + 1) (by omega) 1 (.slice B3 m3 d3)
  have oV' := own_set (own_set oV (g := w.heap.size + 1) (by omega) 0 (.slice A3 n3 c3)) (g := w.heap.size + 1) (by omega) 1 (.slice B3 m3 d3)
  have K0' := (K0.far (p := ⟨w.heap.size + 1, 0, none⟩) (by simp) (.slice A3 n3 c3)).far (p := ⟨w.heap.size + 1, 1, none⟩) (by simp) (.slice B3 m3 d3)
  go_simp
  refine hK.out _ _ ⟨HP.2, K0'⟩ (fun hS => ?_)
  clear hK K d0 d1 f0 f1 K0 K1 GB oD oV
  refine wpAnyH_done (by kernel_rfl) ?_ _
  clear hS
  go_simp
  have HE := Lib.hid (And.intro HP (And.intro oD' (And.intro oV' (And.intro hl1 hl2))))
  clear HP oD' oV' K0' hl1 hl2
  go_wp2_with fail
  exact bodyPost_ret (v := .agg #[.slice A3 n3 c3, .slice B3 m3 d3]) (results_cell_row Try.results44 _ _ _ _ _ _ _ rfl HE.out.1.1 Try.underlying25 rfl (by kernel_rfl)) rfl ⟨A3, n3, c3, B3, m3, d3, rfl, HE.out.2.2.2.1, HE.out.2.2.2.2, own_down HE.out.2.1 (by omega), own_down HE.out.2.2.1 (by omega), HE.out.1.2⟩

/-- what the closure makes of a copy -/
def DoOkRemask (q1 q2 : Value) (ds : List Dom) (us : List Vc) (ds' : List Dom) (us' : List Vc) (w : World) : Prop :=
  ∀ (b : Nat) (A : Option Addr) (n c : Nat) (B : Option Addr) (m d : Nat) (u : World), w.heap.size ≤ b → b ≤ u.heap.size → Below w.heap.size w u → G2 u b A n c ds B m d us → Calls Try.prog 62 #[.agg #[.slice A n c, .slice B m d], q1, q2] u (DoesG b ds' us' u)

set_option maxRecDepth 100000 in
set_option maxHeartbeats 4000000 in
theorem changedRemask_any (A : Option Addr) (n c : Nat) (ds : List Dom) (B : Option Addr) (m d : Nat) (us : List Vc) (ds' : List Dom) (us' : List Vc) (q1 q2 : Value) (w : World) (hG : GR w A n c ds B m d us) (hdo : DoOkRemask q1 q2 ds us ds' us' w) :
    Calls Try.prog 44 #[.agg #[.slice A n c, .slice B m d], .func (.func 62) #[] #[q1, q2]] w (DoesG w.heap.size ds' us' w) := by
  have HCa := Lib.hid (fun (u : World) (h : Below w.heap.size w u) => dclone_any A n c ds u (hG.below h).doms hG.n9)
  have HCb := Lib.hid (fun (u : World) (h : Below w.heap.size w u) => vclone_any B m d us u (hG.below h).vcs hG.m9)
  have HD := Lib.hid hdo
  obtain ⟨K0, K1, GB⟩ := blks2 w 25 25 #[.slice A n c, .slice B m d] #[.slice none 0 0, .slice none 0 0]
  have hz : w.heap.size + 1 + 1 ≤ ((w.alloc (.cells #[.slice A n c, .slice B m d] 25)).alloc (.cells #[.slice none 0 0, .slice none 0 0] 25)).heap.size := by simp
  clear hG hdo
  go_enter Try.func44, Try.ntmps44
  go_upto_region 1 with fail
  generalize (w.alloc (.cells #[.slice A n c, .slice B m d] 25)).alloc (.cells #[.slice none 0 0, .slice none 0 0] 25) = W2 at K0 K1 GB hz ⊢
  replace K0 : Blk W2.drew _ _ _ := K0
  replace K1 : Blk W2.drew _ _ _ := K1
  replace GB := GB.drew
  replace hz : w.heap.size + 1 + 1 ≤ W2.drew.heap.size := hz
  refine wp_region_held_drew (S := fun u => Below w.heap.size w u ∧ Blk u w.heap.size 25 #[.slice A n c, .slice B m d]) (by kernel_rfl) ⟨GB, K0⟩ (fun hS => ?_)
  generalize W2.drew = V at K0 K1 GB hz hS ⊢
  refine wpAnyH_take (i := 0) (v := .func (.func 62) #[] #[q1, q2]) rfl (by kernel_rfl) (by kernel_rfl) (by kernel_rfl) (fun _ _ _ h => h) (Or.inl ⟨by kernel_rfl, fun u hSw => (by go_simp)⟩) hS ?_
  change wpAnyH _ _ _ _ _ _ _ (Act.put _ (some 5) _) _
  simp only [Act.put]
  refine wpAnyH_take (i := 1) (v := .pointer (some ⟨w.heap.size, 0, none⟩)) rfl (by kernel_rfl) (by kernel_rfl) (by kernel_rfl) (fun _ _ _ h => h) (Or.inl ⟨by kernel_rfl, fun u hSw => (by go_simp)⟩) hS ?_
  change wpAnyH _ _ _ _ _ _ _ (Act.put _ (some 6) _) _
  simp only [Act.put]
  refine wpAnyH_take (i := 2) (v := .slice A n c) rfl (by kernel_rfl) (by kernel_rfl) (by kernel_rfl) (fun _ _ _ h => h) (Or.inl ⟨by kernel_rfl, fun u hSw => (by have q0 := hSw.2.cell 0; go_simp)⟩) hS ?_
  change wpAnyH _ _ _ _ _ _ _ (Act.put _ (some 7) _) _
  simp only [Act.put]
  refine wpAnyH_take (i := 4) (v := .pointer (some ⟨w.heap.size, 1, none⟩)) rfl (by kernel_rfl) (by kernel_rfl) (by kernel_rfl) (fun _ _ _ h => h) (Or.inl ⟨by kernel_rfl, fun u hSw => (by go_simp)⟩) hS ?_
  change wpAnyH _ _ _ _ _ _ _ (Act.put _ (some 9) _) _
  simp only [Act.put]
  refine wpAnyH_take (i := 5) (v := .slice B m d) rfl (by kernel_rfl) (by kernel_rfl) (by kernel_rfl) (fun _ _ _ h => h) (Or.inl ⟨by kernel_rfl, fun u hSw => (by have q0 := hSw.2.cell 1; go_simp)⟩) hS ?_
  change wpAnyH _ _ _ _ _ _ _ (Act.put _ (some 10) _) _
  simp only [Act.put]
  refine wpAnyH_ready (rs := [3]) (by kernel_rfl) (by simp) ?_
  refine AllReadyH.cons rfl (fun K hK => ?_) AllReadyH.nil
  go_simp
  refine (HCa.out _ GB).mono ?_
  rintro e1 w1 ⟨A1, Ac, rfl, oA, h9⟩
  replace K0 := K0.below h9 K0.lt
  replace K1 := K1.below h9 K1.lt
  replace GB := GB.trans (h9.mono GB.size)
  replace oA := own_down oA hz
  have ltA := fun k hk => (oA.lt k hk).2
  replace hz := Nat.le_trans hz h9.size
  clear h9
  refine hK.out _ _ ⟨GB, K0⟩ (fun hS => ?_)
  clear hK K
  refine wpAnyH_ready (rs := [6]) (by kernel_rfl) (by simp) ?_
  refine AllReadyH.cons rfl (fun K hK => ?_) AllReadyH.nil
  go_simp
  refine (HCb.out _ GB).mono ?_
  rintro e2 w2 ⟨B1, Bc, rfl, oB, h9⟩
  replace K0 := K0.below h9 K0.lt
  replace K1 := K1.below h9 K1.lt
  replace GB := GB.trans (h9.mono GB.size)
  have geB := fun k hk => (oB.lt k hk).1
  replace oB := own_down oB hz
  replace oA := own_below oA h9
  replace hz := Nat.le_trans hz h9.size
  have HGG : G2 w2 (w.heap.size + 1 + 1) A1 n Ac ds B1 m Bc us := ⟨oA, oB, fun k k' h1 h2 => by have := ltA k h1; have := geB k' h2; omega⟩
  clear oA oB ltA geB
  clear h9
  refine hK.out _ _ ⟨GB, K0⟩ (fun hS => ?_)
  clear hK K
  refine wpAnyH_take (i := 7) (v := .agg #[.slice A1 n Ac, .slice B1 m Bc]) rfl (by kernel_rfl) (by kernel_rfl) (by kernel_rfl) (fun _ _ _ h => h) (Or.inl ⟨by kernel_rfl, fun u hSw => (by go_simp)⟩) hS ?_
  change wpAnyH _ _ _ _ _ _ _ (Act.put _ (some 12) _) _
  simp only [Act.put]
  refine wpAnyH_ready (rs := [8]) (by kernel_rfl) (by simp) ?_
  refine AllReadyH.cons rfl (fun K hK => ?_) AllReadyH.nil
  go_simp
  refine (HD.out _ _ _ _ _ _ _ _ (by omega) hz GB HGG).mono ?_
  rintro e3 w3 ⟨A3, n3, c3, B3, m3, d3, rfl, hl1, hl2, oD, oV, h9⟩
  replace K0 := K0.below h9 (by omega)
  replace K1 := K1.below h9 (by omega)
  replace GB := GB.trans (h9.mono (show w.heap.size ≤ w.heap.size + 1 + 1 by omega))
  clear h9 HGG hz
  refine hK.out _ _ ⟨GB, K0⟩ (fun hS => ?_)
  clear hK K
  refine wpAnyH_ready (rs := [9]) (by kernel_rfl) (by simp) ?_
  refine AllReadyH.cons rfl (fun K hK => ?_) AllReadyH.nil
  have d0 := K1.cell 0
  have d1 := K1.cell 1
  have f0 := K1.frozen 0
  have f1 := K1.frozen 1
  have HP := put2 (x := .slice A3 n3 c3) (y := .slice B3 m3 d3) K1 GB (by omega)
  have oD' := own_set (own_set oD (g := w.heap.size + 1) (by omega) 0 (.slice A3 n3 c3)) (g := w.heap.size + 1) (by omega) 1 (.slice B3 m3 d3)
  have oV' := own_set (own_set oV (g := w.heap.size + 1) (by omega) 0 (.slice A3 n3 c3)) (g := w.heap.size + 1) (by omega) 1 (.slice B3 m3 d3)
  have K0' := (K0.far (p := ⟨w.heap.size + 1, 0, none⟩) (by simp) (.slice A3 n3 c3)).far (p := ⟨w.heap.size + 1, 1, none⟩) (by simp) (.slice B3 m3 d3)
  go_simp
  refine hK.out _ _ ⟨HP.2, K0'⟩ (fun hS => ?_)
  clear hK K d0 d1 f0 f1 K0 K1 GB oD oV
  refine wpAnyH_done (by kernel_rfl) ?_ _
  clear hS
  go_simp
  have HE := Lib.hid (And.intro HP (And.intro oD' (And.intro oV' (And.intro hl1 hl2))))
  clear HP oD' oV' K0' hl1 hl2
  go_wp2_with fail
  exact bodyPost_ret (v := .agg #[.slice A3 n3 c3, .slice B3 m3 d3]) (results_cell_row Try.results44 _ _ _ _ _ _ _ rfl HE.out.1.1 Try.underlying25 rfl (by kernel_rfl)) rfl ⟨A3, n3, c3, B3, m3, d3, rfl, HE.out.2.2.2.1, HE.out.2.2.2.2, own_down HE.out.2.1 (by omega), own_down HE.out.2.2.1 (by omega), HE.out.1.2⟩

end Go.Proofs.Ytknimnopopnbhaa
