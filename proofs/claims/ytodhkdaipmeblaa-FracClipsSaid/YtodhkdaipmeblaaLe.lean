/-
  The landed frac: Behind, Raise. No statement is proved here.
-/
import Derived.Test.YtodhkdaipmeblaaLd
namespace Go.Proofs.Ytodhkdaipmeblaa
open Go.RowKit

theorem over_less {M x y k : Nat} (hy : 0 < y) (h : k * y ≤ M) : overW (M - k * y) x y = overW M x y - k * x ∧ k * x ≤ overW M x y := by
  have e : (M - k * y) * x = M * x - y * (k * x) := by rw [Nat.sub_mul, Nat.mul_comm k y, Nat.mul_assoc]
  have h2 : y * (k * x) ≤ M * x := by
    have := Nat.mul_le_mul_right x h
    rwa [Nat.mul_comm k y, Nat.mul_assoc] at this
  have h3 : k * x ≤ M * x / y := (Nat.le_div_iff_mul_le hy).2 (by rw [Nat.mul_comm]; exact h2)
  unfold overW
  rw [e, Nat.sub_mul_div_of_le _ _ _ h2, Nat.sub_mul_mod h2]
  split <;> omega

set_option maxRecDepth 100000 in
set_option maxHeartbeats 4000000 in
theorem behind_ok : BehindOk := by
  intro N x M y k w hN hx hM hy hk
  obtain ⟨h, l, e, hh, hl⟩ := halves N hN
  obtain ⟨g, j, e', hg, hj⟩ := halves M hM
  unfold behindB
  rw [show fq N x = fr h l x by rw [e]; exact fq_of hl x, show rightN N x = rightB h x by rw [e]; exact rightN_of hl, show fq M y = fr g j y by rw [e']; exact fq_of hj y, show rightN M y = rightB g y by rw [e']; exact rightN_of hj]
  by_cases hr : (rightB h x && rightB g y) = true
  · rw [hr, Bool.true_and]
    have HC : Hid (∀ (u : World) (b : Nat), Blk u b 26 #[.int .u64 (h : Int), .int .u64 (l : Int), .int .u64 (x : Int), .int .u64 (g : Int), .int .u64 (j : Int), .int .u64 (y : Int)] → Calls Try.prog 30 #[.slice (some ⟨b, 0, none⟩) 2 2] u (Said (.int .i64 0) u)) := Lib.hid (fun u b hb => (show chk2 h x g y = 0 from if_pos hr) ▸ check2 h l x g j y u b _ hb)
    obtain ⟨r1, r2⟩ := Bool.and_eq_true_iff.1 hr
    have q1 := right_parts r1
    have q2 := right_parts r2
    have hkx : k * x < 2 ^ 80 := Nat.lt_of_le_of_lt (Nat.mul_le_mul (Nat.le_of_lt hk) q1.2.1) (by decide)
    obtain ⟨rh, rl, e1, e2, e3⟩ := words (N + k * x) (by omega)
    have HM := Lib.hid (fun u => vmore_any h l x k rh rl u hl q1.2.1 hk (by rw [← e]; exact e1) e2 e3)
    have hv := fun u => vabove_any g j y rh rl x u hg hj q2.2.1 e2 e3 q1.2.1 (by omega) (by omega)
    obtain ⟨bb, hbb⟩ : ∃ bb, decide (N * y + k * x * y < M * x) = bb := ⟨_, rfl⟩
    rw [show (rh * 2 ^ 64 + rl) * y = N * y + k * x * y by rw [show rh * 2 ^ 64 + rl = N + k * x from e1.symm, Nat.add_mul], ← e', hbb] at hv
    rw [hbb]
    have HV := Lib.hid hv
    obtain ⟨b1, b2, bb⟩ := blks2 w 26 26 (fr h l x) (fr g j y)
    have HB := Lib.hid (And.intro b1 (And.intro b2 bb))
    clear e e1 e2 e3 e' hbb hv hkx q1 q2 r1 r2 hr hh hl hx hg hj hy hN hM hk b1 b2 bb
    unfold fr at *
    go_enter Try.func29, Try.ntmps29
    go_upto_region 1 with fail
    have FA := HB.out.1
    have FT := HB.out.2.1
    have GB := HB.out.2.2
    clear HB
    generalize (w.alloc (.cells #[.int .u64 (h : Int), .int .u64 (l : Int), .int .u64 (x : Int)] 26)).alloc (.cells #[.int .u64 (g : Int), .int .u64 (j : Int), .int .u64 (y : Int)] 26) = V0 at FA FT GB ⊢
    replace FA : Blk V0.drew _ _ _ := FA
    replace FT : Blk V0.drew _ _ _ := FT
    replace GB := GB.drew
    refine wp_region_held_drew (S := fun W => Blk W w.heap.size 26 #[.int .u64 (h : Int), .int .u64 (l : Int), .int .u64 (x : Int)] ∧ Blk W (w.heap.size + 1) 26 #[.int .u64 (g : Int), .int .u64 (j : Int), .int .u64 (y : Int)]) (by kernel_rfl) ⟨FA, FT⟩ (fun hS => ?_)
    generalize V0.drew = V at FA FT GB hS ⊢
    refine wpAnyH_take (i := 0) (v := .agg #[.int .u64 (h : Int), .int .u64 (l : Int), .int .u64 (x : Int)]) rfl (by kernel_rfl) (by kernel_rfl) (by kernel_rfl) (fun _ _ _ h => h) (Or.inl ⟨by rfl, fun u hSw => (by have c0 : u.cell? ⟨w.heap.size, 0, none⟩ = some (.int .u64 (h : Int)) := (hSw.1).cell 0; have c1 : u.cell? ⟨w.heap.size, 1, none⟩ = some (.int .u64 (l : Int)) := (hSw.1).cell 1; have c2 : u.cell? ⟨w.heap.size, 2, none⟩ = some (.int .u64 (x : Int)) := (hSw.1).cell 2; go_simp)⟩) hS ?_
    refine wpAnyH_take (i := 1) (v := .agg #[.int .u64 (g : Int), .int .u64 (j : Int), .int .u64 (y : Int)]) rfl (by kernel_rfl) (by kernel_rfl) (by kernel_rfl) (fun _ _ _ h => h) (Or.inl ⟨by rfl, fun u hSw => (by have c0 : u.cell? ⟨w.heap.size + 1, 0, none⟩ = some (.int .u64 (g : Int)) := (hSw.2).cell 0; have c1 : u.cell? ⟨w.heap.size + 1, 1, none⟩ = some (.int .u64 (j : Int)) := (hSw.2).cell 1; have c2 : u.cell? ⟨w.heap.size + 1, 2, none⟩ = some (.int .u64 (y : Int)) := (hSw.2).cell 2; go_simp)⟩) hS ?_
    refine wpAnyH_ready (rs := [2]) (by kernel_rfl) (by simp) ?_
    refine AllReadyH.cons rfl (fun K hK => ?_) (AllReadyH.nil)
    go_simp
    have FL := Blk.new V 26 (#[.int .u64 (h : Int), .int .u64 (l : Int), .int .u64 (x : Int), .int .u64 (g : Int), .int .u64 (j : Int), .int .u64 (y : Int)])
    have lLA : w.heap.size < V.heap.size := FA.lt
    replace FA := FA.alloc (.cells (#[.int .u64 (h : Int), .int .u64 (l : Int), .int .u64 (x : Int), .int .u64 (g : Int), .int .u64 (j : Int), .int .u64 (y : Int)]) 26)
    have lLT : w.heap.size + 1 < V.heap.size := FT.lt
    replace FT := FT.alloc (.cells (#[.int .u64 (h : Int), .int .u64 (l : Int), .int .u64 (x : Int), .int .u64 (g : Int), .int .u64 (j : Int), .int .u64 (y : Int)]) 26)
    have LL := GB.size
    replace GB := GB.alloc GB.size (.cells (#[.int .u64 (h : Int), .int .u64 (l : Int), .int .u64 (x : Int), .int .u64 (g : Int), .int .u64 (j : Int), .int .u64 (y : Int)]) 26)
    refine hK.out _ _ ⟨FA, FT⟩ (fun hS => ?_)
    clear hK K
    generalize V.alloc (.cells (#[.int .u64 (h : Int), .int .u64 (l : Int), .int .u64 (x : Int), .int .u64 (g : Int), .int .u64 (j : Int), .int .u64 (y : Int)]) 26) = U1 at FL FA FT GB hS ⊢
    generalize V.heap.size = gL at FL lLA lLT LL ⊢
    refine wpAnyH_ready (rs := [3]) (by kernel_rfl) (by simp) ?_
    refine AllReadyH.cons rfl (fun K hK => ?_) (AllReadyH.nil)
    go_simp
    refine (HC.out _ _ FL).mono ?_
    rintro e w2 ⟨rfl, h2⟩
    replace FA := FA.below h2 FA.lt
    replace FT := FT.below h2 FT.lt
    replace FL := FL.below h2 FL.lt
    replace GB := GB.trans (h2.mono GB.size)
    clear h2
    refine hK.out _ _ ⟨FA, FT⟩ (fun hS => ?_)
    clear hK K
    refine wpAnyH_take (i := 4) (v := .bool true) rfl (by kernel_rfl) (by kernel_rfl) (by kernel_rfl) (fun _ _ _ h => h) (Or.inl ⟨by rfl, fun u hSw => (by go_simp)⟩) hS ?_
    refine wpAnyH_take (i := 5) (v := .bool true) rfl (by kernel_rfl) (by kernel_rfl) (by kernel_rfl) (fun _ _ _ h => h) (Or.inl ⟨by rfl, fun u hSw => (by go_simp)⟩) hS ?_
    refine wpAnyH_take (i := 6) (v := .agg #[.int .u64 (g : Int), .int .u64 (j : Int), .int .u64 (y : Int)]) rfl (by kernel_rfl) (by kernel_rfl) (by kernel_rfl) (fun _ _ _ h => h) (Or.inl ⟨by rfl, fun u hSw => (by have c0 : u.cell? ⟨w.heap.size + 1, 0, none⟩ = some (.int .u64 (g : Int)) := (hSw.2).cell 0; have c1 : u.cell? ⟨w.heap.size + 1, 1, none⟩ = some (.int .u64 (j : Int)) := (hSw.2).cell 1; have c2 : u.cell? ⟨w.heap.size + 1, 2, none⟩ = some (.int .u64 (y : Int)) := (hSw.2).cell 2; go_simp)⟩) hS ?_
    refine wpAnyH_take (i := 7) (v := .agg #[.int .u64 (h : Int), .int .u64 (l : Int), .int .u64 (x : Int)]) rfl (by kernel_rfl) (by kernel_rfl) (by kernel_rfl) (fun _ _ _ h => h) (Or.inl ⟨by rfl, fun u hSw => (by have c0 : u.cell? ⟨w.heap.size, 0, none⟩ = some (.int .u64 (h : Int)) := (hSw.1).cell 0; have c1 : u.cell? ⟨w.heap.size, 1, none⟩ = some (.int .u64 (l : Int)) := (hSw.1).cell 1; have c2 : u.cell? ⟨w.heap.size, 2, none⟩ = some (.int .u64 (x : Int)) := (hSw.1).cell 2; go_simp)⟩) hS ?_
    refine wpAnyH_take (i := 8) (v := .int .u64 (k : Int)) rfl (by kernel_rfl) (by kernel_rfl) (by kernel_rfl) (fun _ _ _ h => h) (Or.inl ⟨by rfl, fun u hSw => (by go_simp)⟩) hS ?_
    refine wpAnyH_ready (rs := [9]) (by kernel_rfl) (by simp) ?_
    refine AllReadyH.cons rfl (fun K hK => ?_) (AllReadyH.nil)
    go_simp
    refine (HM.out _).mono ?_
    rintro e w3 ⟨rfl, h3⟩
    replace FA := FA.below h3 FA.lt
    replace FT := FT.below h3 FT.lt
    replace FL := FL.below h3 FL.lt
    replace GB := GB.trans (h3.mono GB.size)
    clear h3
    refine hK.out _ _ ⟨FA, FT⟩ (fun hS => ?_)
    clear hK K
    refine wpAnyH_ready (rs := [10]) (by kernel_rfl) (by simp) ?_
    refine AllReadyH.cons rfl (fun K hK => ?_) (AllReadyH.nil)
    go_simp
    refine (HV.out _).mono ?_
    rintro e w4 ⟨rfl, h4⟩
    replace FA := FA.below h4 FA.lt
    replace FT := FT.below h4 FT.lt
    replace FL := FL.below h4 FL.lt
    replace GB := GB.trans (h4.mono GB.size)
    clear h4
    refine hK.out _ _ ⟨FA, FT⟩ (fun hS => ?_)
    clear hK K
    refine wpAnyH_take (i := 11) (v := .bool bb) rfl (by kernel_rfl) (by kernel_rfl) (by kernel_rfl) (fun _ _ _ h => h) (Or.inl ⟨by rfl, fun u hSw => (by go_simp)⟩) hS ?_
    refine wpAnyH_ready (rs := [12]) (by kernel_rfl) (by simp) ?_
    refine AllReadyH.cons rfl (fun K hK => ?_) (AllReadyH.nil)
    go_simp
    refine hK.out _ _ ⟨FA, FT⟩ (fun hS => ?_)
    clear hK K
    refine wpAnyH_done (by kernel_rfl) ?_ _
    go_wp2_with fail
    go_ret
    exact ⟨rfl, GB⟩
  · rw [show (rightB h x && rightB g y) = false by simpa using hr, Bool.false_and]
    have HC : Hid (∀ (u : World) (b : Nat), Blk u b 26 #[.int .u64 (h : Int), .int .u64 (l : Int), .int .u64 (x : Int), .int .u64 (g : Int), .int .u64 (j : Int), .int .u64 (y : Int)] → Calls Try.prog 30 #[.slice (some ⟨b, 0, none⟩) 2 2] u (Said (.int .i64 150) u)) := Lib.hid (fun u b hb => (show chk2 h x g y = 150 from if_neg hr) ▸ check2 h l x g j y u b _ hb)
    obtain ⟨b1, b2, bb⟩ := blks2 w 26 26 (fr h l x) (fr g j y)
    have HB := Lib.hid (And.intro b1 (And.intro b2 bb))
    clear e e' hr hh hl hx hg hj hy hN hM hk b1 b2 bb
    unfold fr at *
    go_enter Try.func29, Try.ntmps29
    go_upto_region 1 with fail
    have FA := HB.out.1
    have FT := HB.out.2.1
    have GB := HB.out.2.2
    clear HB
    generalize (w.alloc (.cells #[.int .u64 (h : Int), .int .u64 (l : Int), .int .u64 (x : Int)] 26)).alloc (.cells #[.int .u64 (g : Int), .int .u64 (j : Int), .int .u64 (y : Int)] 26) = V0 at FA FT GB ⊢
    replace FA : Blk V0.drew _ _ _ := FA
    replace FT : Blk V0.drew _ _ _ := FT
    replace GB := GB.drew
    refine wp_region_held_drew (S := fun W => Blk W w.heap.size 26 #[.int .u64 (h : Int), .int .u64 (l : Int), .int .u64 (x : Int)] ∧ Blk W (w.heap.size + 1) 26 #[.int .u64 (g : Int), .int .u64 (j : Int), .int .u64 (y : Int)]) (by kernel_rfl) ⟨FA, FT⟩ (fun hS => ?_)
    generalize V0.drew = V at FA FT GB hS ⊢
    refine wpAnyH_take (i := 0) (v := .agg #[.int .u64 (h : Int), .int .u64 (l : Int), .int .u64 (x : Int)]) rfl (by kernel_rfl) (by kernel_rfl) (by kernel_rfl) (fun _ _ _ h => h) (Or.inl ⟨by rfl, fun u hSw => (by have c0 : u.cell? ⟨w.heap.size, 0, none⟩ = some (.int .u64 (h : Int)) := (hSw.1).cell 0; have c1 : u.cell? ⟨w.heap.size, 1, none⟩ = some (.int .u64 (l : Int)) := (hSw.1).cell 1; have c2 : u.cell? ⟨w.heap.size, 2, none⟩ = some (.int .u64 (x : Int)) := (hSw.1).cell 2; go_simp)⟩) hS ?_
    refine wpAnyH_take (i := 1) (v := .agg #[.int .u64 (g : Int), .int .u64 (j : Int), .int .u64 (y : Int)]) rfl (by kernel_rfl) (by kernel_rfl) (by kernel_rfl) (fun _ _ _ h => h) (Or.inl ⟨by rfl, fun u hSw => (by have c0 : u.cell? ⟨w.heap.size + 1, 0, none⟩ = some (.int .u64 (g : Int)) := (hSw.2).cell 0; have c1 : u.cell? ⟨w.heap.size + 1, 1, none⟩ = some (.int .u64 (j : Int)) := (hSw.2).cell 1; have c2 : u.cell? ⟨w.heap.size + 1, 2, none⟩ = some (.int .u64 (y : Int)) := (hSw.2).cell 2; go_simp)⟩) hS ?_
    refine wpAnyH_ready (rs := [2]) (by kernel_rfl) (by simp) ?_
    refine AllReadyH.cons rfl (fun K hK => ?_) (AllReadyH.nil)
    go_simp
    have FL := Blk.new V 26 (#[.int .u64 (h : Int), .int .u64 (l : Int), .int .u64 (x : Int), .int .u64 (g : Int), .int .u64 (j : Int), .int .u64 (y : Int)])
    have lLA : w.heap.size < V.heap.size := FA.lt
    replace FA := FA.alloc (.cells (#[.int .u64 (h : Int), .int .u64 (l : Int), .int .u64 (x : Int), .int .u64 (g : Int), .int .u64 (j : Int), .int .u64 (y : Int)]) 26)
    have lLT : w.heap.size + 1 < V.heap.size := FT.lt
    replace FT := FT.alloc (.cells (#[.int .u64 (h : Int), .int .u64 (l : Int), .int .u64 (x : Int), .int .u64 (g : Int), .int .u64 (j : Int), .int .u64 (y : Int)]) 26)
    have LL := GB.size
    replace GB := GB.alloc GB.size (.cells (#[.int .u64 (h : Int), .int .u64 (l : Int), .int .u64 (x : Int), .int .u64 (g : Int), .int .u64 (j : Int), .int .u64 (y : Int)]) 26)
    refine hK.out _ _ ⟨FA, FT⟩ (fun hS => ?_)
    clear hK K
    generalize V.alloc (.cells (#[.int .u64 (h : Int), .int .u64 (l : Int), .int .u64 (x : Int), .int .u64 (g : Int), .int .u64 (j : Int), .int .u64 (y : Int)]) 26) = U1 at FL FA FT GB hS ⊢
    generalize V.heap.size = gL at FL lLA lLT LL ⊢
    refine wpAnyH_ready (rs := [3]) (by kernel_rfl) (by simp) ?_
    refine AllReadyH.cons rfl (fun K hK => ?_) (AllReadyH.nil)
    go_simp
    refine (HC.out _ _ FL).mono ?_
    rintro e w2 ⟨rfl, h2⟩
    replace FA := FA.below h2 FA.lt
    replace FT := FT.below h2 FT.lt
    replace FL := FL.below h2 FL.lt
    replace GB := GB.trans (h2.mono GB.size)
    clear h2
    refine hK.out _ _ ⟨FA, FT⟩ (fun hS => ?_)
    clear hK K
    refine wpAnyH_take (i := 4) (v := .bool false) rfl (by kernel_rfl) (by kernel_rfl) (by kernel_rfl) (fun _ _ _ h => h) (Or.inl ⟨by rfl, fun u hSw => (by go_simp)⟩) hS ?_
    refine wpAnyH_take (i := 5) (v := .bool false) rfl (by kernel_rfl) (by kernel_rfl) (by kernel_rfl) (fun _ _ _ h => h) (Or.inl ⟨by rfl, fun u hSw => (by go_simp)⟩) hS ?_
    refine wpAnyH_take (i := 6) (v := undef) rfl (by kernel_rfl) (by kernel_rfl) (by kernel_rfl) (fun _ _ _ h => h) (Or.inr ⟨by rfl, rfl⟩) hS ?_
    refine wpAnyH_take (i := 7) (v := undef) rfl (by kernel_rfl) (by kernel_rfl) (by kernel_rfl) (fun _ _ _ h => h) (Or.inr ⟨by rfl, rfl⟩) hS ?_
    refine wpAnyH_take (i := 8) (v := undef) rfl (by kernel_rfl) (by kernel_rfl) (by kernel_rfl) (fun _ _ _ h => h) (Or.inr ⟨by rfl, rfl⟩) hS ?_
    refine wpAnyH_take (i := 9) (v := undef) rfl (by kernel_rfl) (by kernel_rfl) (by kernel_rfl) (fun _ _ _ h => h) (Or.inr ⟨by rfl, rfl⟩) hS ?_
    refine wpAnyH_take (i := 10) (v := undef) rfl (by kernel_rfl) (by kernel_rfl) (by kernel_rfl) (fun _ _ _ h => h) (Or.inr ⟨by rfl, rfl⟩) hS ?_
    refine wpAnyH_take (i := 11) (v := .bool false) rfl (by kernel_rfl) (by kernel_rfl) (by kernel_rfl) (fun _ _ _ h => h) (Or.inl ⟨by rfl, fun u hSw => (by go_simp)⟩) hS ?_
    refine wpAnyH_ready (rs := [12]) (by kernel_rfl) (by simp) ?_
    refine AllReadyH.cons rfl (fun K hK => ?_) (AllReadyH.nil)
    go_simp
    refine hK.out _ _ ⟨FA, FT⟩ (fun hS => ?_)
    clear hK K
    refine wpAnyH_done (by kernel_rfl) ?_ _
    go_wp2_with fail
    go_ret
    exact ⟨rfl, GB⟩

set_option maxRecDepth 100000 in
set_option maxHeartbeats 4000000 in
theorem raise_ok : RaiseOk := by
  intro N x M y k w hN hx hM hy hk
  have hd := fun u => behind_ok N x M y k u hN hx hM hy hk
  obtain ⟨h, l, e, hh, hl⟩ := halves N hN
  obtain ⟨g, j, e', hg, hj⟩ := halves M hM
  unfold raiseR
  rw [show fq N x = fr h l x by rw [e]; exact fq_of hl x, show rightN N x = rightB h x by rw [e]; exact rightN_of hl, show fq M y = fr g j y by rw [e']; exact fq_of hj y, show rightN M y = rightB g y by rw [e']; exact rightN_of hj]
  rw [show fq N x = fr h l x by rw [e]; exact fq_of hl x, show fq M y = fr g j y by rw [e']; exact fq_of hj y] at hd
  obtain ⟨b1, b2, b3, b4, bb⟩ := blks4 w 26 26 26 26 (fr h l x) (fr g j y) #[.int .u64 0, .int .u64 0, .int .u64 0] #[.int .u64 (h : Int), .int .u64 (l : Int), .int .u64 (x : Int), .int .u64 (g : Int), .int .u64 (j : Int), .int .u64 (y : Int)]
  have hc := check2 h l x g j y _ _ _ b4
  have HB := Lib.hid (And.intro b1 (And.intro b2 (And.intro b3 bb)))
  clear b1 b2 b3 b4 bb
  by_cases hr : (rightB h x && rightB g y) = true
  · rw [if_pos hr]
    rw [show chk2 h x g y = 0 from if_pos hr] at hc
    have HC := Lib.hid hc
    obtain ⟨r1, r2⟩ := Bool.and_eq_true_iff.1 hr
    have q1 := right_parts r1
    have q2 := right_parts r2
    by_cases hb : behindB N x M y k = true
    · rw [if_pos hb]
      rw [hb] at hd
      have HD := Lib.hid hd
      have hky : k * y ≤ M := by
        unfold behindB at hb
        simp only [Bool.and_eq_true, decide_eq_true_eq] at hb
        have h1 : k * x * y ≤ M * x := by omega
        rw [Nat.mul_right_comm] at h1
        exact Nat.le_of_mul_le_mul_right h1 (by omega)
      obtain ⟨o1, o2⟩ := over_less (x := x) (show 0 < y by omega) hky
      obtain ⟨zh, zl, e1, e2, e3⟩ := words (overW M x y) (by
        have hp := prod_small (a := M) (m := x) (by omega) q1.2.1
        have : M * x / y ≤ M * x := Nat.div_le_self _ _
        unfold overW
        split <;> omega)
      have HL := Lib.hid (fun u => lifted_any g j y x zh zl u hg hj q2.1 q2.2.1 q1.2.1 (by rw [← e']; exact e1) e2 e3)
      obtain ⟨mh, ml, f1, f2, f3⟩ := words (k * x) (Nat.lt_of_le_of_lt (Nat.mul_le_mul (Nat.le_of_lt hk) q1.2.1) (by decide))
      have HM := Lib.hid (fun u => mul_any k x mh ml hk (by omega) f3 f1 u)
      obtain ⟨rh, rl, i1, i2, i3⟩ := words (overW (M - k * y) x y) (by omega)
      have HS := Lib.hid (fun u => sub_fits zh zl mh ml rh rl e3 f3 i3 e2 (by omega) u)
      obtain ⟨sh, sl, sx, c, ev, hbd⟩ := bnd (overW (M - k * y) x y) x rh rl i1 i3
      rw [ev]
      have HE := Lib.hid hbd
      clear e e' e1 e2 e3 f1 f2 f3 i1 i2 i3 o1 o2 ev hbd hky q1 q2 r1 r2 hr hb hd hc hh hl hx hg hj hy hN hM hk
      unfold fr at *
      go_enter Try.func28, Try.ntmps28
      go_wp2_with fail
      refine HC.out.mono ?_
      rintro e w1 ⟨rfl, h1⟩
      have FA := HB.out.1.below h1 HB.out.1.lt
      have FT := HB.out.2.1.below h1 HB.out.2.1.lt
      have FO := HB.out.2.2.1.below h1 HB.out.2.2.1.lt
      have GB := HB.out.2.2.2.trans (h1.mono HB.out.2.2.2.size)
      clear HB h1
      have c0 := FA.cell 0
      have c1 := FA.cell 1
      have c2 := FA.cell 2
      have d0 := FT.cell 0
      have d1 := FT.cell 1
      have d2 := FT.cell 2
      go_wp2_with fail
      refine (HD.out _).mono ?_
      rintro e w2 ⟨rfl, h2⟩
      replace FA := FA.below h2 FA.lt
      replace FT := FT.below h2 FT.lt
      replace FO := FO.below h2 FO.lt
      replace GB := GB.trans (h2.mono GB.size)
      clear h2 c0 c1 c2 d0 d1 d2
      go_upto_region 6 with fail
      replace FA : Blk (World.drew _) _ _ _ := FA
      replace FT : Blk (World.drew _) _ _ _ := FT
      replace FO : Blk (World.drew _) _ _ _ := FO
      replace GB := GB.drew
      go_cut [9] (fun s9 wx => ∃ g9 : Nat, s9 = .pointer (some ⟨g9, 0, none⟩) ∧ w.heap.size + 1 + 1 < g9 ∧ Blk wx g9 24 #[.int .u64 (rh : Int), .int .u64 (rl : Int)] ∧ Blk wx w.heap.size 26 #[.int .u64 (h : Int), .int .u64 (l : Int), .int .u64 (x : Int)] ∧ Blk wx (w.heap.size + 1 + 1) 26 #[.int .u64 0, .int .u64 0, .int .u64 0] ∧ Below w.heap.size w wx)
      case first =>
        refine wp_region_held_drew (S := fun W => Blk W w.heap.size 26 #[.int .u64 (h : Int), .int .u64 (l : Int), .int .u64 (x : Int)] ∧ Blk W (w.heap.size + 1) 26 #[.int .u64 (g : Int), .int .u64 (j : Int), .int .u64 (y : Int)]) (by kernel_rfl) ⟨FA, FT⟩ (fun hS => ?_)
        generalize World.drew _ = V at FA FT FO GB hS ⊢
        refine wpAnyH_take (i := 0) (v := .agg #[.int .u64 (g : Int), .int .u64 (j : Int), .int .u64 (y : Int)]) rfl (by kernel_rfl) (by kernel_rfl) (by kernel_rfl) (fun _ _ _ h => h) (Or.inl ⟨by rfl, fun u hSw => (by have c0 : u.cell? ⟨w.heap.size + 1, 0, none⟩ = some (.int .u64 (g : Int)) := (hSw.2).cell 0; have c1 : u.cell? ⟨w.heap.size + 1, 1, none⟩ = some (.int .u64 (j : Int)) := (hSw.2).cell 1; have c2 : u.cell? ⟨w.heap.size + 1, 2, none⟩ = some (.int .u64 (y : Int)) := (hSw.2).cell 2; go_simp)⟩) hS ?_
        refine wpAnyH_take (i := 1) (v := .pointer (some ⟨w.heap.size, 2, none⟩)) rfl (by kernel_rfl) (by kernel_rfl) (by kernel_rfl) (fun _ _ _ h => h) (Or.inl ⟨by rfl, fun u hSw => (by go_simp)⟩) hS ?_
        refine wpAnyH_take (i := 2) (v := .int .u64 (x : Int)) rfl (by kernel_rfl) (by kernel_rfl) (by kernel_rfl) (fun _ _ _ h => h) (Or.inl ⟨by rfl, fun u hSw => (by have c : u.cell? ⟨w.heap.size, 2, none⟩ = some (.int .u64 (x : Int)) := (hSw.1).cell 2; go_simp)⟩) hS ?_
        refine wpAnyH_take (i := 4) (v := .int .u64 (k : Int)) rfl (by kernel_rfl) (by kernel_rfl) (by kernel_rfl) (fun _ _ _ h => h) (Or.inl ⟨by rfl, fun u hSw => (by go_simp)⟩) hS ?_
        refine wpAnyH_take (i := 5) (v := .pointer (some ⟨w.heap.size, 2, none⟩)) rfl (by kernel_rfl) (by kernel_rfl) (by kernel_rfl) (fun _ _ _ h => h) (Or.inl ⟨by rfl, fun u hSw => (by go_simp)⟩) hS ?_
        refine wpAnyH_take (i := 6) (v := .int .u64 (x : Int)) rfl (by kernel_rfl) (by kernel_rfl) (by kernel_rfl) (fun _ _ _ h => h) (Or.inl ⟨by rfl, fun u hSw => (by have c : u.cell? ⟨w.heap.size, 2, none⟩ = some (.int .u64 (x : Int)) := (hSw.1).cell 2; go_simp)⟩) hS ?_
        refine wpAnyH_ready (rs := [3, 12]) (by kernel_rfl) (by simp) ?_
        refine AllReadyH.cons rfl (fun K hK => ?_) (AllReadyH.cons rfl (fun K hK => ?_) (AllReadyH.nil))
        · skip
          go_simp
          refine (HL.out _).mono ?_
          rintro e w1 ⟨rfl, h1⟩
          replace FA := FA.below h1 FA.lt
          replace FT := FT.below h1 FT.lt
          replace FO := FO.below h1 FO.lt
          replace GB := GB.trans (h1.mono GB.size)
          clear h1
          refine hK.out _ _ ⟨FA, FT⟩ (fun hS => ?_)
          clear hK K
          refine wpAnyH_ready (rs := [7, 12]) (by kernel_rfl) (by simp) ?_
          refine AllReadyH.cons rfl (fun K hK => ?_) (AllReadyH.cons rfl (fun K hK => ?_) (AllReadyH.nil))
          · skip
            go_simp
            refine (HM.out _).mono ?_
            rintro e w2 ⟨rfl, h2⟩
            replace FA := FA.below h2 FA.lt
            replace FT := FT.below h2 FT.lt
            replace FO := FO.below h2 FO.lt
            replace GB := GB.trans (h2.mono GB.size)
            clear h2
            refine hK.out _ _ ⟨FA, FT⟩ (fun hS => ?_)
            clear hK K
            refine wpAnyH_ready (rs := [8, 12]) (by kernel_rfl) (by simp) ?_
            refine AllReadyH.cons rfl (fun K hK => ?_) (AllReadyH.cons rfl (fun K hK => ?_) (AllReadyH.nil))
            · skip
              go_simp
              refine (HS.out _).mono ?_
              rintro e w3 ⟨rfl, h3⟩
              replace FA := FA.below h3 FA.lt
              replace FT := FT.below h3 FT.lt
              replace FO := FO.below h3 FO.lt
              replace GB := GB.trans (h3.mono GB.size)
              clear h3
              refine hK.out _ _ ⟨FA, FT⟩ (fun hS => ?_)
              clear hK K
              refine wpAnyH_take (i := 9) (v := .tuple #[.agg #[.int .u64 (rh : Int), .int .u64 (rl : Int)], .int .i64 0]) rfl (by kernel_rfl) (by kernel_rfl) (by kernel_rfl) (fun _ _ _ h => h) (Or.inl ⟨by rfl, fun u hSw => (by go_simp)⟩) hS ?_
              refine wpAnyH_take (i := 10) (v := .agg #[.int .u64 (rh : Int), .int .u64 (rl : Int)]) rfl (by kernel_rfl) (by kernel_rfl) (by kernel_rfl) (fun _ _ _ h => h) (Or.inl ⟨by rfl, fun u hSw => (by go_simp)⟩) hS ?_
              refine wpAnyH_take (i := 11) (v := .int .i64 0) rfl (by kernel_rfl) (by kernel_rfl) (by kernel_rfl) (fun _ _ _ h => h) (Or.inl ⟨by rfl, fun u hSw => (by go_simp)⟩) hS ?_
              refine wpAnyH_ready (rs := [12]) (by kernel_rfl) (by simp) ?_
              refine AllReadyH.cons rfl (fun K hK => ?_) (AllReadyH.nil)
              go_simp
              have F9 := Blk.new w3 24 (#[.int .u64 0, .int .u64 0])
              have l9A : w.heap.size < w3.heap.size := FA.lt
              replace FA := FA.alloc (.cells (#[.int .u64 0, .int .u64 0]) 24)
              have l9T : w.heap.size + 1 < w3.heap.size := FT.lt
              replace FT := FT.alloc (.cells (#[.int .u64 0, .int .u64 0]) 24)
              have l9O : w.heap.size + 1 + 1 < w3.heap.size := FO.lt
              replace FO := FO.alloc (.cells (#[.int .u64 0, .int .u64 0]) 24)
              have L9 := GB.size
              replace GB := GB.alloc GB.size (.cells (#[.int .u64 0, .int .u64 0]) 24)
              refine hK.out _ _ ⟨FA, FT⟩ (fun hS => ?_)
              clear hK K
              generalize w3.alloc (.cells (#[.int .u64 0, .int .u64 0]) 24) = U4 at F9 FA FT FO GB hS ⊢
              generalize w3.heap.size = g9 at F9 l9A l9T l9O L9 ⊢
              refine wpAnyH_ready (rs := [13]) (by kernel_rfl) (by simp) ?_
              refine AllReadyH.cons rfl (fun K hK => ?_) (AllReadyH.nil)
              have O5 := F9
              replace FA := FA.other (g' := g9) (cs' := #[.int .u64 (rh : Int), .int .u64 (rl : Int)]) (by omega)
              replace FT := FT.other (g' := g9) (cs' := #[.int .u64 (rh : Int), .int .u64 (rl : Int)]) (by omega)
              replace FO := FO.other (g' := g9) (cs' := #[.int .u64 (rh : Int), .int .u64 (rl : Int)]) (by omega)
              replace F9 := F9.row (cs' := #[.int .u64 (rh : Int), .int .u64 (rl : Int)])
              replace GB := below_row (g' := g9) (cs' := #[.int .u64 (rh : Int), .int .u64 (rl : Int)]) GB (by omega)
              refine keep_row rfl 24 (.tmp 9) (.tmp 35) rfl _ _ rfl rfl _ _ O5 (by kernel_rfl) rfl (by simp [Value.oneCell']) (hK.out _ _ ⟨FA, FT⟩ (fun hS => ?_))
              clear hK K O5
              generalize U4.setRow (g9) (#[.int .u64 (rh : Int), .int .u64 (rl : Int)]) = U5 at FA FT FO F9 GB hS ⊢
              refine wpAnyH_ready (rs := [14]) (by kernel_rfl) (by simp) ?_
              refine AllReadyH.cons rfl (fun K hK => ?_) (AllReadyH.nil)
              go_simp
              refine hK.out _ _ ⟨FA, FT⟩ (fun hS => ?_)
              clear hK K
              refine wpAnyH_done (by kernel_rfl) ?_ _
              go_wp2_with fail
              go_meet
              exact ⟨g9, rfl, by omega, F9, FA, FO, GB⟩
            · skip
              go_simp
              have F9 := Blk.new w2 24 (#[.int .u64 0, .int .u64 0])
              have l9A : w.heap.size < w2.heap.size := FA.lt
              replace FA := FA.alloc (.cells (#[.int .u64 0, .int .u64 0]) 24)
              have l9T : w.heap.size + 1 < w2.heap.size := FT.lt
              replace FT := FT.alloc (.cells (#[.int .u64 0, .int .u64 0]) 24)
              have l9O : w.heap.size + 1 + 1 < w2.heap.size := FO.lt
              replace FO := FO.alloc (.cells (#[.int .u64 0, .int .u64 0]) 24)
              have L9 := GB.size
              replace GB := GB.alloc GB.size (.cells (#[.int .u64 0, .int .u64 0]) 24)
              refine hK.out _ _ ⟨FA, FT⟩ (fun hS => ?_)
              clear hK K
              generalize w2.alloc (.cells (#[.int .u64 0, .int .u64 0]) 24) = U7 at F9 FA FT FO GB hS ⊢
              generalize w2.heap.size = g9 at F9 l9A l9T l9O L9 ⊢
              refine wpAnyH_ready (rs := [8]) (by kernel_rfl) (by simp) ?_
              refine AllReadyH.cons rfl (fun K hK => ?_) (AllReadyH.nil)
              go_simp
              refine (HS.out _).mono ?_
              rintro e w8 ⟨rfl, h8⟩
              replace FA := FA.below h8 FA.lt
              replace FT := FT.below h8 FT.lt
              replace FO := FO.below h8 FO.lt
              replace F9 := F9.below h8 F9.lt
              replace GB := GB.trans (h8.mono GB.size)
              clear h8
              refine hK.out _ _ ⟨FA, FT⟩ (fun hS => ?_)
              clear hK K
              refine wpAnyH_take (i := 9) (v := .tuple #[.agg #[.int .u64 (rh : Int), .int .u64 (rl : Int)], .int .i64 0]) rfl (by kernel_rfl) (by kernel_rfl) (by kernel_rfl) (fun _ _ _ h => h) (Or.inl ⟨by rfl, fun u hSw => (by go_simp)⟩) hS ?_
              refine wpAnyH_take (i := 10) (v := .agg #[.int .u64 (rh : Int), .int .u64 (rl : Int)]) rfl (by kernel_rfl) (by kernel_rfl) (by kernel_rfl) (fun _ _ _ h => h) (Or.inl ⟨by rfl, fun u hSw => (by go_simp)⟩) hS ?_
              refine wpAnyH_take (i := 11) (v := .int .i64 0) rfl (by kernel_rfl) (by kernel_rfl) (by kernel_rfl) (fun _ _ _ h => h) (Or.inl ⟨by rfl, fun u hSw => (by go_simp)⟩) hS ?_
              refine wpAnyH_ready (rs := [13]) (by kernel_rfl) (by simp) ?_
              refine AllReadyH.cons rfl (fun K hK => ?_) (AllReadyH.nil)
              have O9 := F9
              replace FA := FA.other (g' := g9) (cs' := #[.int .u64 (rh : Int), .int .u64 (rl : Int)]) (by omega)
              replace FT := FT.other (g' := g9) (cs' := #[.int .u64 (rh : Int), .int .u64 (rl : Int)]) (by omega)
              replace FO := FO.other (g' := g9) (cs' := #[.int .u64 (rh : Int), .int .u64 (rl : Int)]) (by omega)
              replace F9 := F9.row (cs' := #[.int .u64 (rh : Int), .int .u64 (rl : Int)])
              replace GB := below_row (g' := g9) (cs' := #[.int .u64 (rh : Int), .int .u64 (rl : Int)]) GB (by omega)
              refine keep_row rfl 24 (.tmp 9) (.tmp 35) rfl _ _ rfl rfl _ _ O9 (by kernel_rfl) rfl (by simp [Value.oneCell']) (hK.out _ _ ⟨FA, FT⟩ (fun hS => ?_))
              clear hK K O9
              generalize w8.setRow (g9) (#[.int .u64 (rh : Int), .int .u64 (rl : Int)]) = U9 at FA FT FO F9 GB hS ⊢
              refine wpAnyH_ready (rs := [14]) (by kernel_rfl) (by simp) ?_
              refine AllReadyH.cons rfl (fun K hK => ?_) (AllReadyH.nil)
              go_simp
              refine hK.out _ _ ⟨FA, FT⟩ (fun hS => ?_)
              clear hK K
              refine wpAnyH_done (by kernel_rfl) ?_ _
              go_wp2_with fail
              go_meet
              exact ⟨g9, rfl, by omega, F9, FA, FO, GB⟩
          · skip
            go_simp
            have F9 := Blk.new w1 24 (#[.int .u64 0, .int .u64 0])
            have l9A : w.heap.size < w1.heap.size := FA.lt
            replace FA := FA.alloc (.cells (#[.int .u64 0, .int .u64 0]) 24)
            have l9T : w.heap.size + 1 < w1.heap.size := FT.lt
            replace FT := FT.alloc (.cells (#[.int .u64 0, .int .u64 0]) 24)
            have l9O : w.heap.size + 1 + 1 < w1.heap.size := FO.lt
            replace FO := FO.alloc (.cells (#[.int .u64 0, .int .u64 0]) 24)
            have L9 := GB.size
            replace GB := GB.alloc GB.size (.cells (#[.int .u64 0, .int .u64 0]) 24)
            refine hK.out _ _ ⟨FA, FT⟩ (fun hS => ?_)
            clear hK K
            generalize w1.alloc (.cells (#[.int .u64 0, .int .u64 0]) 24) = U11 at F9 FA FT FO GB hS ⊢
            generalize w1.heap.size = g9 at F9 l9A l9T l9O L9 ⊢
            refine wpAnyH_ready (rs := [7]) (by kernel_rfl) (by simp) ?_
            refine AllReadyH.cons rfl (fun K hK => ?_) (AllReadyH.nil)
            go_simp
            refine (HM.out _).mono ?_
            rintro e w12 ⟨rfl, h12⟩
            replace FA := FA.below h12 FA.lt
            replace FT := FT.below h12 FT.lt
            replace FO := FO.below h12 FO.lt
            replace F9 := F9.below h12 F9.lt
            replace GB := GB.trans (h12.mono GB.size)
            clear h12
            refine hK.out _ _ ⟨FA, FT⟩ (fun hS => ?_)
            clear hK K
            refine wpAnyH_ready (rs := [8]) (by kernel_rfl) (by simp) ?_
            refine AllReadyH.cons rfl (fun K hK => ?_) (AllReadyH.nil)
            go_simp
            refine (HS.out _).mono ?_
            rintro e w13 ⟨rfl, h13⟩
            replace FA := FA.below h13 FA.lt
            replace FT := FT.below h13 FT.lt
            replace FO := FO.below h13 FO.lt
            replace F9 := F9.below h13 F9.lt
            replace GB := GB.trans (h13.mono GB.size)
            clear h13
            refine hK.out _ _ ⟨FA, FT⟩ (fun hS => ?_)
            clear hK K
            refine wpAnyH_take (i := 9) (v := .tuple #[.agg #[.int .u64 (rh : Int), .int .u64 (rl : Int)], .int .i64 0]) rfl (by kernel_rfl) (by kernel_rfl) (by kernel_rfl) (fun _ _ _ h => h) (Or.inl ⟨by rfl, fun u hSw => (by go_simp)⟩) hS ?_
            refine wpAnyH_take (i := 10) (v := .agg #[.int .u64 (rh : Int), .int .u64 (rl : Int)]) rfl (by kernel_rfl) (by kernel_rfl) (by kernel_rfl) (fun _ _ _ h => h) (Or.inl ⟨by rfl, fun u hSw => (by go_simp)⟩) hS ?_
            refine wpAnyH_take (i := 11) (v := .int .i64 0) rfl (by kernel_rfl) (by kernel_rfl) (by kernel_rfl) (fun _ _ _ h => h) (Or.inl ⟨by rfl, fun u hSw => (by go_simp)⟩) hS ?_
            refine wpAnyH_ready (rs := [13]) (by kernel_rfl) (by simp) ?_
            refine AllReadyH.cons rfl (fun K hK => ?_) (AllReadyH.nil)
            have O14 := F9
            replace FA := FA.other (g' := g9) (cs' := #[.int .u64 (rh : Int), .int .u64 (rl : Int)]) (by omega)
            replace FT := FT.other (g' := g9) (cs' := #[.int .u64 (rh : Int), .int .u64 (rl : Int)]) (by omega)
            replace FO := FO.other (g' := g9) (cs' := #[.int .u64 (rh : Int), .int .u64 (rl : Int)]) (by omega)
            replace F9 := F9.row (cs' := #[.int .u64 (rh : Int), .int .u64 (rl : Int)])
            replace GB := below_row (g' := g9) (cs' := #[.int .u64 (rh : Int), .int .u64 (rl : Int)]) GB (by omega)
            refine keep_row rfl 24 (.tmp 9) (.tmp 35) rfl _ _ rfl rfl _ _ O14 (by kernel_rfl) rfl (by simp [Value.oneCell']) (hK.out _ _ ⟨FA, FT⟩ (fun hS => ?_))
            clear hK K O14
            generalize w13.setRow (g9) (#[.int .u64 (rh : Int), .int .u64 (rl : Int)]) = U14 at FA FT FO F9 GB hS ⊢
            refine wpAnyH_ready (rs := [14]) (by kernel_rfl) (by simp) ?_
            refine AllReadyH.cons rfl (fun K hK => ?_) (AllReadyH.nil)
            go_simp
            refine hK.out _ _ ⟨FA, FT⟩ (fun hS => ?_)
            clear hK K
            refine wpAnyH_done (by kernel_rfl) ?_ _
            go_wp2_with fail
            go_meet
            exact ⟨g9, rfl, by omega, F9, FA, FO, GB⟩
        · skip
          go_simp
          have F9 := Blk.new V 24 (#[.int .u64 0, .int .u64 0])
          have l9A : w.heap.size < V.heap.size := FA.lt
          replace FA := FA.alloc (.cells (#[.int .u64 0, .int .u64 0]) 24)
          have l9T : w.heap.size + 1 < V.heap.size := FT.lt
          replace FT := FT.alloc (.cells (#[.int .u64 0, .int .u64 0]) 24)
          have l9O : w.heap.size + 1 + 1 < V.heap.size := FO.lt
          replace FO := FO.alloc (.cells (#[.int .u64 0, .int .u64 0]) 24)
          have L9 := GB.size
          replace GB := GB.alloc GB.size (.cells (#[.int .u64 0, .int .u64 0]) 24)
          refine hK.out _ _ ⟨FA, FT⟩ (fun hS => ?_)
          clear hK K
          generalize V.alloc (.cells (#[.int .u64 0, .int .u64 0]) 24) = U16 at F9 FA FT FO GB hS ⊢
          generalize V.heap.size = g9 at F9 l9A l9T l9O L9 ⊢
          refine wpAnyH_ready (rs := [3]) (by kernel_rfl) (by simp) ?_
          refine AllReadyH.cons rfl (fun K hK => ?_) (AllReadyH.nil)
          go_simp
          refine (HL.out _).mono ?_
          rintro e w17 ⟨rfl, h17⟩
          replace FA := FA.below h17 FA.lt
          replace FT := FT.below h17 FT.lt
          replace FO := FO.below h17 FO.lt
          replace F9 := F9.below h17 F9.lt
          replace GB := GB.trans (h17.mono GB.size)
          clear h17
          refine hK.out _ _ ⟨FA, FT⟩ (fun hS => ?_)
          clear hK K
          refine wpAnyH_ready (rs := [7]) (by kernel_rfl) (by simp) ?_
          refine AllReadyH.cons rfl (fun K hK => ?_) (AllReadyH.nil)
          go_simp
          refine (HM.out _).mono ?_
          rintro e w18 ⟨rfl, h18⟩
          replace FA := FA.below h18 FA.lt
          replace FT := FT.below h18 FT.lt
          replace FO := FO.below h18 FO.lt
          replace F9 := F9.below h18 F9.lt
          replace GB := GB.trans (h18.mono GB.size)
          clear h18
          refine hK.out _ _ ⟨FA, FT⟩ (fun hS => ?_)
          clear hK K
          refine wpAnyH_ready (rs := [8]) (by kernel_rfl) (by simp) ?_
          refine AllReadyH.cons rfl (fun K hK => ?_) (AllReadyH.nil)
          go_simp
          refine (HS.out _).mono ?_
          rintro e w19 ⟨rfl, h19⟩
          replace FA := FA.below h19 FA.lt
          replace FT := FT.below h19 FT.lt
          replace FO := FO.below h19 FO.lt
          replace F9 := F9.below h19 F9.lt
          replace GB := GB.trans (h19.mono GB.size)
          clear h19
          refine hK.out _ _ ⟨FA, FT⟩ (fun hS => ?_)
          clear hK K
          refine wpAnyH_take (i := 9) (v := .tuple #[.agg #[.int .u64 (rh : Int), .int .u64 (rl : Int)], .int .i64 0]) rfl (by kernel_rfl) (by kernel_rfl) (by kernel_rfl) (fun _ _ _ h => h) (Or.inl ⟨by rfl, fun u hSw => (by go_simp)⟩) hS ?_
          refine wpAnyH_take (i := 10) (v := .agg #[.int .u64 (rh : Int), .int .u64 (rl : Int)]) rfl (by kernel_rfl) (by kernel_rfl) (by kernel_rfl) (fun _ _ _ h => h) (Or.inl ⟨by rfl, fun u hSw => (by go_simp)⟩) hS ?_
          refine wpAnyH_take (i := 11) (v := .int .i64 0) rfl (by kernel_rfl) (by kernel_rfl) (by kernel_rfl) (fun _ _ _ h => h) (Or.inl ⟨by rfl, fun u hSw => (by go_simp)⟩) hS ?_
          refine wpAnyH_ready (rs := [13]) (by kernel_rfl) (by simp) ?_
          refine AllReadyH.cons rfl (fun K hK => ?_) (AllReadyH.nil)
          have O20 := F9
          replace FA := FA.other (g' := g9) (cs' := #[.int .u64 (rh : Int), .int .u64 (rl : Int)]) (by omega)
          replace FT := FT.other (g' := g9) (cs' := #[.int .u64 (rh : Int), .int .u64 (rl : Int)]) (by omega)
          replace FO := FO.other (g' := g9) (cs' := #[.int .u64 (rh : Int), .int .u64 (rl : Int)]) (by omega)
          replace F9 := F9.row (cs' := #[.int .u64 (rh : Int), .int .u64 (rl : Int)])
          replace GB := below_row (g' := g9) (cs' := #[.int .u64 (rh : Int), .int .u64 (rl : Int)]) GB (by omega)
          refine keep_row rfl 24 (.tmp 9) (.tmp 35) rfl _ _ rfl rfl _ _ O20 (by kernel_rfl) rfl (by simp [Value.oneCell']) (hK.out _ _ ⟨FA, FT⟩ (fun hS => ?_))
          clear hK K O20
          generalize w19.setRow (g9) (#[.int .u64 (rh : Int), .int .u64 (rl : Int)]) = U20 at FA FT FO F9 GB hS ⊢
          refine wpAnyH_ready (rs := [14]) (by kernel_rfl) (by simp) ?_
          refine AllReadyH.cons rfl (fun K hK => ?_) (AllReadyH.nil)
          go_simp
          refine hK.out _ _ ⟨FA, FT⟩ (fun hS => ?_)
          clear hK K
          refine wpAnyH_done (by kernel_rfl) ?_ _
          go_wp2_with fail
          go_meet
          exact ⟨g9, rfl, by omega, F9, FA, FO, GB⟩
      case rest =>
        clear FA FT FO GB HD HL HM HS
        obtain ⟨g9, rfl, l9, F9, FA, K, B⟩ := hcut
        have c0 := F9.cell 0
        have c1 := F9.cell 1
        have c2 := FA.cell 2
        go_wp2_with fail
        refine (HE.out _).mono ?_
        rintro e w3 ⟨rfl, h3⟩
        replace K := K.below h3 K.lt
        replace B := B.trans (h3.mono B.size)
        clear h3 c0 c1 c2 F9 FA
        have d0 := K.cell 0
        have d1 := K.cell 1
        have d2 := K.cell 2
        have f0 := K.frozen 0
        have f1 := K.frozen 1
        have f2 := K.frozen 2
        have HKF := Lib.hid (put3 (x := .int .u64 (sh : Int)) (y := .int .u64 (sl : Int)) (z := .int .u64 (sx : Int)) K B (by omega))
        clear K B
        go_wp2_with fail
        exact bodyPost_ret (v := .tuple #[.agg #[.int .u64 (sh : Int), .int .u64 (sl : Int), .int .u64 (sx : Int)], .int .i64 c]) (results_cell_row_tmp Try.results28 _ _ _ _ _ _ rfl HKF.out.1 Try.underlying26 rfl (by kernel_rfl)) rfl ⟨rfl, HKF.out.2⟩
    · rw [if_neg hb]
      rw [show behindB N x M y k = false by simpa using hb] at hd
      have HD := Lib.hid hd
      rw [e, fe_some hl]
      clear e e' q1 q2 r1 r2 hr hb hd hc hh hl hx hg hj hy hN hM hk
      unfold fr at *
      go_enter Try.func28, Try.ntmps28
      go_wp2_with fail
      refine HC.out.mono ?_
      rintro e w1 ⟨rfl, h1⟩
      have FA := HB.out.1.below h1 HB.out.1.lt
      have FT := HB.out.2.1.below h1 HB.out.2.1.lt
      have FO := HB.out.2.2.1.below h1 HB.out.2.2.1.lt
      have GB := HB.out.2.2.2.trans (h1.mono HB.out.2.2.2.size)
      clear HB h1
      have c0 := FA.cell 0
      have c1 := FA.cell 1
      have c2 := FA.cell 2
      have d0 := FT.cell 0
      have d1 := FT.cell 1
      have d2 := FT.cell 2
      go_wp2_with fail
      refine (HD.out _).mono ?_
      rintro e w2 ⟨rfl, h2⟩
      replace FA := FA.below h2 FA.lt
      replace FT := FT.below h2 FT.lt
      replace FO := FO.below h2 FO.lt
      replace GB := GB.trans (h2.mono GB.size)
      clear h2 c0 c1 c2 d0 d1 d2
      have c0 := FA.cell 0
      have c1 := FA.cell 1
      have c2 := FA.cell 2
      have d0 := FO.cell 0
      have d1 := FO.cell 1
      have d2 := FO.cell 2
      have f0 := FO.frozen 0
      have f1 := FO.frozen 1
      have f2 := FO.frozen 2
      have HKF := Lib.hid (put3 (x := .int .u64 (h : Int)) (y := .int .u64 (l : Int)) (z := .int .u64 (x : Int)) FO GB (by omega))
      clear FA FT FO GB
      go_wp2_with fail
      exact bodyPost_ret (v := .tuple #[.agg #[.int .u64 (h : Int), .int .u64 (l : Int), .int .u64 (x : Int)], .int .i64 0]) (results_cell_row_tmp Try.results28 _ _ _ _ _ _ rfl HKF.out.1 Try.underlying26 rfl (by kernel_rfl)) rfl ⟨rfl, HKF.out.2⟩
  · rw [if_neg hr, fe_none]
    rw [show chk2 h x g y = 150 from if_neg hr] at hc
    have HC := Lib.hid hc
    clear e e' hr hd hc hh hl hx hg hj hy hN hM hk
    unfold fr at HC HB ⊢
    go_enter Try.func28, Try.ntmps28
    go_wp2_with fail
    refine HC.out.mono ?_
    rintro e w1 ⟨rfl, h1⟩
    have FA := HB.out.1.below h1 HB.out.1.lt
    have FT := HB.out.2.1.below h1 HB.out.2.1.lt
    have FO := HB.out.2.2.1.below h1 HB.out.2.2.1.lt
    have GB := HB.out.2.2.2.trans (h1.mono HB.out.2.2.2.size)
    clear HB h1
    clear FA FT
    have K := FO
    have B := GB
    clear FO GB
    have d0 := K.cell 0
    have d1 := K.cell 1
    have d2 := K.cell 2
    have f0 := K.frozen 0
    have f1 := K.frozen 1
    have f2 := K.frozen 2
    have HKF := Lib.hid (put3 (x := .int .u64 0) (y := .int .u64 0) (z := .int .u64 0) K B (by omega))
    clear K B
    go_wp2_with fail
    exact bodyPost_ret (v := .tuple #[.agg #[.int .u64 0, .int .u64 0, .int .u64 0], .int .i64 150]) (results_cell_row_tmp Try.results28 _ _ _ _ _ _ rfl HKF.out.1 Try.underlying26 rfl (by kernel_rfl)) rfl ⟨rfl, HKF.out.2⟩

end Go.Proofs.Ytodhkdaipmeblaa
