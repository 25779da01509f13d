/-
  The landed frac: Behind, Raise. No statement is proved here.
-/
import Derived.Test.YtfgabmelmopgdaaLd
namespace Go.Proofs.Ytfgabmelmopgdaa
open Go.RowKit

set_option maxRecDepth 100000 in
theorem over_less {M x y k : Nat} (hy : 0 < y) (h : k * y ≤ M) : overW (M - k * y) x y = overW M x y - k * x ∧ k * x ≤ overW M x y := by
  have e : (M - k * y) * x = M * x - y * (k * x) := by rw [Nat.sub_mul, Nat.mul_comm k y, Nat.mul_assoc]
  have h2 : y * (k * x) ≤ M * x := by
    have := Nat.mul_le_mul_right x h
    rwa [Nat.mul_comm k y, Nat.mul_assoc] at this
  have h3 : k * x ≤ M * x / y := (Nat.le_div_iff_mul_le hy).2 (by rw [Nat.mul_comm]; exact h2)
  unfold overW
  rw [e, Nat.sub_mul_div_of_le _ _ _ h2, Nat.sub_mul_mod h2]
  split <;> omega

set_option maxRecDepth 100000 in
set_option maxHeartbeats 4000000 in
theorem behind_ok : BehindOk := by
  intro N x M y k w hN hx hM hy hk
  obtain ⟨h, l, e, hh, hl⟩ := halves N hN
  obtain ⟨g, j, e', hg, hj⟩ := halves M hM
  unfold behindB
  rw [show fq N x = fr h l x by rw [e]; exact fq_of hl x, show rightN N x = rightB h x by rw [e]; exact rightN_of hl, show fq M y = fr g j y by rw [e']; exact fq_of hj y, show rightN M y = rightB g y by rw [e']; exact rightN_of hj]
  by_cases hr : (rightB h x && rightB g y) = true
  · rw [hr, Bool.true_and]
    have HC : Hid (∀ (u : World) (b : Nat), Blk u b 36 #[.int .u64 (h : Int), .int .u64 (l : Int), .int .u64 (x : Int), .int .u64 (g : Int), .int .u64 (j : Int), .int .u64 (y : Int)] → Calls Try.prog 49 #[.slice (some ⟨b, 0, none⟩) 2 2] u (Said (.int .i64 0) u)) := Lib.hid (fun u b hb => (show chk2 h x g y = 0 from if_pos hr) ▸ check2 h l x g j y u b _ hb)
    obtain ⟨r1, r2⟩ := Bool.and_eq_true_iff.1 hr
    have q1 := right_parts r1
    have q2 := right_parts r2
    have hkx : k * x < 2 ^ 80 := Nat.lt_of_le_of_lt (Nat.mul_le_mul (Nat.le_of_lt hk) q1.2.1) (by decide)
    obtain ⟨rh, rl, e1, e2, e3⟩ := words (N + k * x) (by omega)
    have HM := Lib.hid (fun u => vmore_any h l x k rh rl u hl q1.2.1 hk (by rw [← e]; exact e1) e2 e3)
    have hv := fun u => vabove_any g j y rh rl x u hg hj q2.2.1 e2 e3 q1.2.1 (by omega) (by omega)
    obtain ⟨bb, hbb⟩ : ∃ bb, decide (N * y + k * x * y < M * x) = bb := ⟨_, rfl⟩
    rw [show (rh * 2 ^ 64 + rl) * y = N * y + k * x * y by rw [show rh * 2 ^ 64 + rl = N + k * x from e1.symm, Nat.add_mul], ← e', hbb] at hv
    rw [hbb]
    have HV := Lib.hid hv
    obtain ⟨b1, b2, bb⟩ := blks2 w 36 36 (fr h l x) (fr g j y)
    have HB := Lib.hid (And.intro b1 (And.intro b2 bb))
    clear e e1 e2 e3 e' hbb hv hkx q1 q2 r1 r2 hr hh hl hx hg hj hy hN hM hk b1 b2 bb
    unfold fr at *
    go_enter Try.func26, Try.ntmps26
    go_upto_region 1 with fail
    have FA := HB.out.1
    have FT := HB.out.2.1
    have GB := HB.out.2.2
    clear HB
    generalize (w.alloc (.cells #[.int .u64 (h : Int), .int .u64 (l : Int), .int .u64 (x : Int)] 36)).alloc (.cells #[.int .u64 (g : Int), .int .u64 (j : Int), .int .u64 (y : Int)] 36) = V0 at FA FT GB ⊢
    replace FA : Blk V0.drew _ _ _ := FA
    replace FT : Blk V0.drew _ _ _ := FT
    replace GB := GB.drew
    refine wp_region_held_drew (S := fun W => Blk W w.heap.size 36 #[.int .u64 (h : Int), .int .u64 (l : Int), .int .u64 (x : Int)] ∧ Blk W (w.heap.size + 1) 36 #[.int .u64 (g : Int), .int .u64 (j : Int), .int .u64 (y : Int)]) (by kernel_rfl) ⟨FA, FT⟩ (fun hS => ?_)
    generalize V0.drew = V at FA FT GB hS ⊢
    refine wpAnyH_take (i := 0) (v := .agg #[.int .u64 (h : Int), .int .u64 (l : Int), .int .u64 (x : Int)]) rfl (by kernel_rfl) (by kernel_rfl) (by kernel_rfl) (fun _ _ _ h => h) (Or.inl ⟨by rfl, fun u hSw => (by have c0 : u.cell? ⟨w.heap.size, 0, none⟩ = some (.int .u64 (h : Int)) := (hSw.1).cell 0; have c1 : u.cell? ⟨w.heap.size, 1, none⟩ = some (.int .u64 (l : Int)) := (hSw.1).cell 1; have c2 : u.cell? ⟨w.heap.size, 2, none⟩ = some (.int .u64 (x : Int)) := (hSw.1).cell 2; go_simp)⟩) hS ?_
    refine wpAnyH_take (i := 1) (v := .agg #[.int .u64 (g : Int), .int .u64 (j : Int), .int .u64 (y : Int)]) rfl (by kernel_rfl) (by kernel_rfl) (by kernel_rfl) (fun _ _ _ h => h) (Or.inl ⟨by rfl, fun u hSw => (by have c0 : u.cell? ⟨w.heap.size + 1, 0, none⟩ = some (.int .u64 (g : Int)) := (hSw.2).cell 0; have c1 : u.cell? ⟨w.heap.size + 1, 1, none⟩ = some (.int .u64 (j : Int)) := (hSw.2).cell 1; have c2 : u.cell? ⟨w.heap.size + 1, 2, none⟩ = some (.int .u64 (y : Int)) := (hSw.2).cell 2; go_simp)⟩) hS ?_
    refine wpAnyH_ready (rs := [2]) (by kernel_rfl) (by simp) ?_
    refine AllReadyH.cons rfl (fun K hK => ?_) (AllReadyH.nil)
    go_simp
    have FL := Blk.new V 36 (#[.int .u64 (h : Int), .int .u64 (l : Int), .int .u64 (x : Int), .int .u64 (g : Int), .int .u64 (j : Int), .int .u64 (y : Int)])
    have lLA : w.heap.size < V.heap.size := FA.lt
    replace FA := FA.alloc (.cells (#[.int .u64 (h : Int), .int .u64 (l : Int), .int .u64 (x : Int), .int .u64 (g : Int), .int .u64 (j : Int), .int .u64 (y : Int)]) 36)
    have lLT : w.heap.size + 1 < V.heap.size := FT.lt
    replace FT := FT.alloc (.cells (#[.int .u64 (h : Int), .int .u64 (l : Int), .int .u64 (x : Int), .int .u64 (g : Int), .int .u64 (j : Int), .int .u64 (y : Int)]) 36)
    have LL := GB.size
    replace GB := GB.alloc GB.size (.cells (#[.int .u64 (h : Int), .int .u64 (l : Int), .int .u64 (x : Int), .int .u64 (g : Int), .int .u64 (j : Int), .int .u64 (y : Int)]) 36)
    refine hK.out _ _ ⟨FA, FT⟩ (fun hS => ?_)
    clear hK K
    generalize V.alloc (.cells (#[.int .u64 (h : Int), .int .u64 (l : Int), .int .u64 (x : Int), .int .u64 (g : Int), .int .u64 (j : Int), .int .u64 (y : Int)]) 36) = U1 at FL FA FT GB hS ⊢
    generalize V.heap.size = gL at FL lLA lLT LL ⊢
    refine wpAnyH_ready (rs := [3]) (by kernel_rfl) (by simp) ?_
    refine AllReadyH.cons rfl (fun K hK => ?_) (AllReadyH.nil)
    go_simp
    refine (HC.out _ _ FL).mono ?_
    rintro e w2 ⟨rfl, h2⟩
    replace FA := FA.below h2 FA.lt
    replace FT := FT.below h2 FT.lt
    replace FL := FL.below h2 FL.lt
    replace GB := GB.trans (h2.mono GB.size)
    clear h2
    refine hK.out _ _ ⟨FA, FT⟩ (fun hS => ?_)
    clear hK K
    refine wpAnyH_take (i := 4) (v := .bool true) rfl (by kernel_rfl) (by kernel_rfl) (by kernel_rfl) (fun _ _ _ h => h) (Or.inl ⟨by rfl, fun u hSw => (by go_simp)⟩) hS ?_
    refine wpAnyH_take (i := 5) (v := .bool true) rfl (by kernel_rfl) (by kernel_rfl) (by kernel_rfl) (fun _ _ _ h => h) (Or.inl ⟨by rfl, fun u hSw => (by go_simp)⟩) hS ?_
    refine wpAnyH_take (i := 6) (v := .agg #[.int .u64 (g : Int), .int .u64 (j : Int), .int .u64 (y : Int)]) rfl (by kernel_rfl) (by kernel_rfl) (by kernel_rfl) (fun _ _ _ h => h) (Or.inl ⟨by rfl, fun u hSw => (by have c0 : u.cell? ⟨w.heap.size + 1, 0, none⟩ = some (.int .u64 (g : Int)) := (hSw.2).cell 0; have c1 : u.cell? ⟨w.heap.size + 1, 1, none⟩ = some (.int .u64 (j : Int)) := (hSw.2).cell 1; have c2 : u.cell? ⟨w.heap.size + 1, 2, none⟩ = some (.int .u64 (y : Int)) := (hSw.2).cell 2; go_simp)⟩) hS ?_
    refine wpAnyH_take (i := 7) (v := .agg #[.int .u64 (h : Int), .int .u64 (l : Int), .int .u64 (x : Int)]) rfl (by kernel_rfl) (by kernel_rfl) (by kernel_rfl) (fun _ _ _ h => h) (Or.inl ⟨by rfl, fun u hSw => (by have c0 : u.cell? ⟨w.heap.size, 0, none⟩ = some (.int .u64 (h : Int)) := (hSw.1).cell 0; have c1 : u.cell? ⟨w.heap.size, 1, none⟩ = some (.int .u64 (l : Int)) := (hSw.1).cell 1; have c2 : u.cell? ⟨w.heap.size, 2, none⟩ = some (.int .u64 (x : Int)) := (hSw.1).cell 2; go_simp)⟩) hS ?_
    refine wpAnyH_take (i := 8) (v := .int .u64 (k : Int)) rfl (by kernel_rfl) (by kernel_rfl) (by kernel_rfl) (fun _ _ _ h => h) (Or.inl ⟨by rfl, fun u hSw => (by go_simp)⟩) hS ?_
    refine wpAnyH_ready (rs := [9]) (by kernel_rfl) (by simp) ?_
    refine AllReadyH.cons rfl (fun K hK => ?_) (AllReadyH.nil)
    go_simp
    refine (HM.out _).mono ?_
    rintro e w3 ⟨rfl, h3⟩
    replace FA := FA.below h3 FA.lt
    replace FT := FT.below h3 FT.lt
    replace FL := FL.below h3 FL.lt
    replace GB := GB.trans (h3.mono GB.size)
    clear h3
    refine hK.out _ _ ⟨FA, FT⟩ (fun hS => ?_)
    clear hK K
    refine wpAnyH_ready (rs := [10]) (by kernel_rfl) (by simp) ?_
    refine AllReadyH.cons rfl (fun K hK => ?_) (AllReadyH.nil)
    go_simp
    refine (HV.out _).mono ?_
    rintro e w4 ⟨rfl, h4⟩
    replace FA := FA.below h4 FA.lt
    replace FT := FT.below h4 FT.lt
    replace FL := FL.below h4 FL.lt
    replace GB := GB.trans (h4.mono GB.size)
    clear h4
    refine hK.out _ _ ⟨FA, FT⟩ (fun hS => ?_)
    clear hK K
    refine wpAnyH_take (i := 11) (v := .bool bb) rfl (by kernel_rfl) (by kernel_rfl) (by kernel_rfl) (fun _ _ _ h => h) (Or.inl ⟨by rfl, fun u hSw => (by go_simp)⟩) hS ?_
    refine wpAnyH_ready (rs := [12]) (by kernel_rfl) (by simp) ?_
    refine AllReadyH.cons rfl (fun K hK => ?_) (AllReadyH.nil)
    go_simp
    refine hK.out _ _ ⟨FA, FT⟩ (fun hS => ?_)
    clear hK K
    refine wpAnyH_done (by kernel_rfl) ?_ _
    go_wp2_with fail
    go_ret
    exact ⟨rfl, GB⟩
  · rw [show (rightB h x && rightB g y) = false by simpa using hr, Bool.false_and]
    have HC : Hid (∀ (u : World) (b : Nat), Blk u b 36 #[.int .u64 (h : Int), .int .u64 (l : Int), .int .u64 (x : Int), .int .u64 (g : Int), .int .u64 (j : Int), .int .u64 (y : Int)] → Calls Try.prog 49 #[.slice (some ⟨b, 0, none⟩) 2 2] u (Said (.int .i64 150) u)) := Lib.hid (fun u b hb => (show chk2 h x g y = 150 from if_neg hr) ▸ check2 h l x g j y u b _ hb)
    obtain ⟨b1, b2, bb⟩ := blks2 w 36 36 (fr h l x) (fr g j y)
    have HB := Lib.hid (And.intro b1 (And.intro b2 bb))
    clear e e' hr hh hl hx hg hj hy hN hM hk b1 b2 bb
    unfold fr at *
    go_enter Try.func26, Try.ntmps26
    go_upto_region 1 with fail
    have FA := HB.out.1
    have FT := HB.out.2.1
    have GB := HB.out.2.2
    clear HB
    generalize (w.alloc (.cells #[.int .u64 (h : Int), .int .u64 (l : Int), .int .u64 (x : Int)] 36)).alloc (.cells #[.int .u64 (g : Int), .int .u64 (j : Int), .int .u64 (y : Int)] 36) = V0 at FA FT GB ⊢
    replace FA : Blk V0.drew _ _ _ := FA
    replace FT : Blk V0.drew _ _ _ := FT
    replace GB := GB.drew
    refine wp_region_held_drew (S := fun W => Blk W w.heap.size 36 #[.int .u64 (h : Int), .int .u64 (l : Int), .int .u64 (x : Int)] ∧ Blk W (w.heap.size + 1) 36 #[.int .u64 (g : Int), .int .u64 (j : Int), .int .u64 (y : Int)]) (by kernel_rfl) ⟨FA, FT⟩ (fun hS => ?_)
    generalize V0.drew = V at FA FT GB hS ⊢
    refine wpAnyH_take (i := 0) (v := .agg #[.int .u64 (h : Int), .int .u64 (l : Int), .int .u64 (x : Int)]) rfl (by kernel_rfl) (by kernel_rfl) (by kernel_rfl) (fun _ _ _ h => h) (Or.inl ⟨by rfl, fun u hSw => (by have c0 : u.cell? ⟨w.heap.size, 0, none⟩ = some (.int .u64 (h : Int)) := (hSw.1).cell 0; have c1 : u.cell? ⟨w.heap.size, 1, none⟩ = some (.int .u64 (l : Int)) := (hSw.1).cell 1; have c2 : u.cell? ⟨w.heap.size, 2, none⟩ = some (.int .u64 (x : Int)) := (hSw.1).cell 2; go_simp)⟩) hS ?_
    refine wpAnyH_take (i := 1) (v := .agg #[.int .u64 (g : Int), .int .u64 (j : Int), .int .u64 (y : Int)]) rfl (by kernel_rfl) (by kernel_rfl) (by kernel_rfl) (fun _ _ _ h => h) (Or.inl ⟨by rfl, fun u hSw => (by have c0 : u.cell? ⟨w.heap.size + 1, 0, none⟩ = some (.int .u64 (g : Int)) := (hSw.2).cell 0; have c1 : u.cell? ⟨w.heap.size + 1, 1, none⟩ = some (.int .u64 (j : Int)) := (hSw.2).cell 1; have c2 : u.cell? ⟨w.heap.size + 1, 2, none⟩ = some (.int .u64 (y : Int)) := (hSw.2).cell 2; go_simp)⟩) hS ?_
    refine wpAnyH_ready (rs := [2]) (by kernel_rfl) (by simp) ?_
    refine AllReadyH.cons rfl (fun K hK => ?_) (AllReadyH.nil)
    go_simp
    have FL := Blk.new V 36 (#[.int .u64 (h : Int), .int .u64 (l : Int), .int .u64 (x : Int), .int .u64 (g : Int), .int .u64 (j : Int), .int .u64 (y : Int)])
    have lLA : w.heap.size < V.heap.size := FA.lt
    replace FA := FA.alloc (.cells (#[.int .u64 (h : Int), .int .u64 (l : Int), .int .u64 (x : Int), .int .u64 (g : Int), .int .u64 (j : Int), .int .u64 (y : Int)]) 36)
    have lLT : w.heap.size + 1 < V.heap.size := FT.lt
    replace FT := FT.alloc (.cells (#[.int .u64 (h : Int), .int .u64 (l : Int), .int .u64 (x : Int), .int .u64 (g : Int), .int .u64 (j : Int), .int .u64 (y : Int)]) 36)
    have LL := GB.size
    replace GB := GB.alloc GB.size (.cells (#[.int .u64 (h : Int), .int .u64 (l : Int), .int .u64 (x : Int), .int .u64 (g : Int), .int .u64 (j : Int), .int .u64 (y : Int)]) 36)
    refine hK.out _ _ ⟨FA, FT⟩ (fun hS => ?_)
    clear hK K
    generalize V.alloc (.cells (#[.int .u64 (h : Int), .int .u64 (l : Int), .int .u64 (x : Int), .int .u64 (g : Int), .int .u64 (j : Int), .int .u64 (y : Int)]) 36) = U1 at FL FA FT GB hS ⊢
    generalize V.heap.size = gL at FL lLA lLT LL ⊢
    refine wpAnyH_ready (rs := [3]) (by kernel_rfl) (by simp) ?_
    refine AllReadyH.cons rfl (fun K hK => ?_) (AllReadyH.nil)
    go_simp
    refine (HC.out _ _ FL).mono ?_
    rintro e w2 ⟨rfl, h2⟩
    replace FA := FA.below h2 FA.lt
    replace FT := FT.below h2 FT.lt
    replace FL := FL.below h2 FL.lt
    replace GB := GB.trans (h2.mono GB.size)
    clear h2
    refine hK.out _ _ ⟨FA, FT⟩ (fun hS => ?_)
    clear hK K
    refine wpAnyH_take (i := 4) (v := .bool false) rfl (by kernel_rfl) (by kernel_rfl) (by kernel_rfl) (fun _ _ _ h => h) (Or.inl ⟨by rfl, fun u hSw => (by go_simp)⟩) hS ?_
    refine wpAnyH_take (i := 5) (v := .bool false) rfl (by kernel_rfl) (by kernel_rfl) (by kernel_rfl) (fun _ _ _ h => h) (Or.inl ⟨by rfl, fun u hSw => (by go_simp)⟩) hS ?_
    refine wpAnyH_take (i := 6) (v := undef) rfl (by kernel_rfl) (by kernel_rfl) (by kernel_rfl) (fun _ _ _ h => h) (Or.inr ⟨by rfl, rfl⟩) hS ?_
    refine wpAnyH_take (i := 7) (v := undef) rfl (by kernel_rfl) (by kernel_rfl) (by kernel_rfl) (fun _ _ _ h => h) (Or.inr ⟨by rfl, rfl⟩) hS ?_
    refine wpAnyH_take (i := 8) (v := undef) rfl (by kernel_rfl) (by kernel_rfl) (by kernel_rfl) (fun _ _ _ h => h) (Or.inr ⟨by rfl, rfl⟩) hS ?_
    refine wpAnyH_take (i := 9) (v := undef) rfl (by kernel_rfl) (by kernel_rfl) (by kernel_rfl) (fun _ _ _ h => h) (Or.inr ⟨by rfl, rfl⟩) hS ?_
    refine wpAnyH_take (i := 10) (v := undef) rfl (by kernel_rfl) (by kernel_rfl) (by kernel_rfl) (fun _ _ _ h => h) (Or.inr ⟨by rfl, rfl⟩) hS ?_
    refine wpAnyH_take (i := 11) (v := .bool false) rfl (by kernel_rfl) (by kernel_rfl) (by kernel_rfl) (fun _ _ _ h => h) (Or.inl ⟨by rfl, fun u hSw => (by go_simp)⟩) hS ?_
    refine wpAnyH_ready (rs := [12]) (by kernel_rfl) (by simp) ?_
    refine AllReadyH.cons rfl (fun K hK => ?_) (AllReadyH.nil)
    go_simp
    refine hK.out _ _ ⟨FA, FT⟩ (fun hS => ?_)
    clear hK K
    refine wpAnyH_done (by kernel_rfl) ?_ _
    go_wp2_with fail
    go_ret
    exact ⟨rfl, GB⟩


end Go.Proofs.Ytfgabmelmopgdaa
