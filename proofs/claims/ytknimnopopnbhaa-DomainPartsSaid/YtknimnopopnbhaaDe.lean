/-
  The contract of the statements' copied. No statement is proved here.
-/
import Derived.Test.YtknimnopopnbhaaDd
namespace Go.Proofs.Ytknimnopopnbhaa
open Go.RowKit

theorem dom_info : (Try.prog.info? 27).map (fun i => (i.zero, i.size, i.bytes)) = some (some (.agg #[.int .i64 0, .int .i64 0, .int .i64 0, .int .i64 0]), 4, 32) := by kernel_rfl
theorem vc_info : (Try.prog.info? 50).map (fun i => (i.zero, i.size, i.bytes)) = some (some (.agg #[.int .i64 0, .int .i64 0, .int .u32 0, .int .u32 0]), 4, 24) := by kernel_rfl
/-- guests in memory of the call's own -/
def GivesG (ds : List Dom) (us : List Vc) (w : World) (e : Ending) (w' : World) : Prop :=
  ∃ A c B d, e = .returned (.agg #[.slice A ds.length c, .slice B us.length d]) ∧ w'.ownsRow w.heap.size 27 4 (.slice A ds.length c) ds.length (flat dv ds) ∧
    w'.ownsRow w.heap.size 50 4 (.slice B us.length d) us.length (flat cv us) ∧ Below w.heap.size w w'
theorem put2 {w w1 : World} {g b : Nat} {t : TypeId} {p q x y : Value} (K : Blk w1 g t #[p, q]) (B : Below b w w1) (hg : b ≤ g) :
    Blk ((w1.setCell ⟨g, 0, none⟩ x).setCell ⟨g, 1, none⟩ y) g t #[x, y] ∧ Below b w ((w1.setCell ⟨g, 0, none⟩ x).setCell ⟨g, 1, none⟩ y) :=
  ⟨K.set2, (B.setCell (p := ⟨g, 0, none⟩) hg x).setCell (p := ⟨g, 1, none⟩) hg y⟩
theorem le_of {b : Nat} {a w : World} (h : Below b a w) (hb : a.heap.size = b) : b ≤ w.heap.size := by have := h.size; omega
theorem row_keep {V V' : World} {base e s n g : Nat} {v : Value} {xs : List Value} (h : V.ownsRow base e s v n xs) (hg : V.grownBy V' (some g)) (hne : ∀ k, v.ownBlock = some k → k ≠ g) : V'.ownsRow base e s v n xs := by
  refine h.kept hg ?_
  cases ho : v.ownBlock with
  | none => exact .inl rfl
  | some k => exact .inr (fun he => hne k ho (by injection he))

set_option maxRecDepth 100000 in
set_option maxHeartbeats 8000000 in
theorem copied_any (A : Option Addr) (n c : Nat) (ds : List Dom) (B : Option Addr) (m d : Nat) (us : List Vc) (w : World) (hG : GR w A n c ds B m d us) :
    Calls Try.prog 10 #[.agg #[.slice A n c, .slice B m d]] w (GivesG ds us w) := by
  obtain ⟨i0, hi0, hi1, hi2, hi3⟩ := info_parts9 dom_info
  obtain ⟨i1, hj0, hj1, hj2, hj3⟩ := info_parts9 vc_info
  have HL := Lib.hid hG.len
  have n9 := hG.n9
  have m9 := hG.m9
  obtain ⟨K1, K2, B0⟩ := blks2 w 25 25 #[.slice A n c, .slice B m d] #[.slice none 0 0, .slice none 0 0]
  have HK := Lib.hid (And.intro K1 (And.intro K2 B0))
  clear K1 K2 B0
  go_enter Try.func10, Try.ntmps10
  go_upto_region 1 with fail
  refine wp_region_held_drew (S := fun u => Blk u w.heap.size 25 #[.slice A n c, .slice B m d] ∧ Below w.heap.size w u) (by kernel_rfl) ⟨HK.out.1, HK.out.2.2.drew⟩ (fun hS => ?_)
  have HK1 := Lib.hid (And.intro (show Blk ((w.alloc (.cells #[.slice A n c, .slice B m d] 25)).alloc (.cells #[.slice none 0 0, .slice none 0 0] 25)).drew w.heap.size 25 #[.slice A n c, .slice B m d] from HK.out.1) (And.intro (show Blk ((w.alloc (.cells #[.slice A n c, .slice B m d] 25)).alloc (.cells #[.slice none 0 0, .slice none 0 0] 25)).drew (w.heap.size + 1) 25 #[.slice none 0 0, .slice none 0 0] from HK.out.2.1) HK.out.2.2.drew))
  clear HK
  generalize ((w.alloc (.cells #[.slice A n c, .slice B m d] 25)).alloc (.cells #[.slice none 0 0, .slice none 0 0] 25)).drew = W0 at HK1 hS ⊢
  obtain ⟨bb, hbb⟩ : ∃ bb, W0.heap.size = bb := ⟨_, rfl⟩
  have HBB := Lib.hid hbb
  have HSz : Hid (w.heap.size + 1 < bb) := Lib.hid (by have := HK1.out.2.1.lt; omega)
  have HBw := Lib.hid (fun (u : World) (h : Below bb W0 u) => HK1.out.2.2.trans (h.mono (by have := HSz.out; omega)))
  have HR1 := Lib.hid (fun (u : World) (h : Below bb W0 u) => HK1.out.1.below h (by have := HSz.out; omega))
  have HR2 := Lib.hid (fun (u : World) (h : Below bb W0 u) => HK1.out.2.1.below h HSz.out)
  have HG := Lib.hid (fun (u : World) (h : Below bb W0 u) => hG.below (HBw.out u h))
  have GB := Below.refl bb W0
  clear hbb
  refine wpAnyH_take (i := 1) (v := .pointer (some ⟨w.heap.size, 0, none⟩)) rfl (by kernel_rfl) (by kernel_rfl) (by kernel_rfl) (fun _ _ _ h => h) (Or.inl ⟨by kernel_rfl, fun u hSw => (by go_simp)⟩) hS ?_
  change wpAnyH _ _ _ _ _ _ _ (Act.put _ (some 4) _) _
  simp only [Act.put]
  refine wpAnyH_take (i := 2) (v := .slice A n c) rfl (by kernel_rfl) (by kernel_rfl) (by kernel_rfl) (fun _ _ _ h => h) (Or.inl ⟨by kernel_rfl, fun u hSw => (by have q := hSw.1.cell 0; go_simp)⟩) hS ?_
  change wpAnyH _ _ _ _ _ _ _ (Act.put _ (some 5) _) _
  simp only [Act.put]
  refine wpAnyH_take (i := 5) (v := .pointer (some ⟨w.heap.size, 1, none⟩)) rfl (by kernel_rfl) (by kernel_rfl) (by kernel_rfl) (fun _ _ _ h => h) (Or.inl ⟨by kernel_rfl, fun u hSw => (by go_simp)⟩) hS ?_
  change wpAnyH _ _ _ _ _ _ _ (Act.put _ (some 8) _) _
  simp only [Act.put]
  refine wpAnyH_take (i := 6) (v := .slice B m d) rfl (by kernel_rfl) (by kernel_rfl) (by kernel_rfl) (fun _ _ _ h => h) (Or.inl ⟨by kernel_rfl, fun u hSw => (by have q := hSw.1.cell 1; go_simp)⟩) hS ?_
  change wpAnyH _ _ _ _ _ _ _ (Act.put _ (some 9) _) _
  simp only [Act.put]
  refine wpAnyH_ready (rs := [0, 4]) (by kernel_rfl) (by simp) ?_
  refine AllReadyH.cons rfl (fun K hK => ?_) (AllReadyH.cons rfl (fun K hK => ?_) (AllReadyH.nil))
  · skip
    go_simp
    have HE0 : (W0.alloc (.cells #[] 27)).ownsRow bb 27 4 (.slice (some ⟨W0.heap.size, 0, none⟩) 0 0) 0 [] := by simpa using World.ownsRow_made W0 #[] 0 (le_of GB HBB.out) (by simp [maxLen]) (by simp)
    replace GB := GB.alloc (le_of GB HBB.out) (.cells #[] 27)
    obtain ⟨W1, hW1⟩ : ∃ X, W0.alloc (.cells #[] 27) = X := ⟨_, rfl⟩
    obtain ⟨g0, hg0⟩ : ∃ X, W0.heap.size = X := ⟨_, rfl⟩
    try rw [hW1] at HE0 GB ⊢
    try rw [hg0] at HE0 ⊢
    clear hS hW1 hg0
    refine hK.out _ _ ⟨HR1.out _ GB, HBw.out _ GB⟩ (fun hS => ?_)
    clear hK K
    refine wpAnyH_ready (rs := [3, 4]) (by kernel_rfl) (by simp) ?_
    refine AllReadyH.cons rfl (fun K hK => ?_) (AllReadyH.cons rfl (fun K hK => ?_) (AllReadyH.nil))
    · skip
      refine step_append_any _ rfl (.tmp 3) (.tmp 5) 22 rfl bb 27 i0 (.agg #[.int .i64 0, .int .i64 0, .int .i64 0, .int .i64 0]) 4 32 Try.underlying22 hi0 hi1 hi2 hi3 rfl (by decide) (.slice (some ⟨g0, 0, none⟩) 0 0) 0 [] rfl HE0 W1.heap.size A n c (flat dv ds) rfl (HG.out _ GB).doms (dv_ones _) (by simp only [maxLen]; omega) (by omega) (le_of GB HBB.out) ?_
      intro v3 W2 HO3 grow hw
      rw [List.nil_append, Nat.zero_add] at HO3
      replace GB := GB.grown grow (le_of GB HBB.out) (fun g hg => by injection hg with hg; have := (HE0.lt g0 rfl).1; simp only at hg; omega)
      obtain ⟨A3, c3, rfl, _, _⟩ := own_reads HO3
      clear HE0 grow hw hS
      refine hK.out _ _ ⟨HR1.out _ GB, HBw.out _ GB⟩ (fun hS => ?_)
      clear hK K
      refine wpAnyH_ready (rs := [4]) (by kernel_rfl) (by simp) ?_
      refine AllReadyH.cons rfl (fun K hK => ?_) (AllReadyH.nil)
      go_simp
      have HE4 : (W2.alloc (.cells #[] 50)).ownsRow bb 50 4 (.slice (some ⟨W2.heap.size, 0, none⟩) 0 0) 0 [] := by simpa using World.ownsRow_made W2 #[] 0 (le_of GB HBB.out) (by simp [maxLen]) (by simp)
      have HN3 : ∀ k, (Value.slice A3 n c3).ownBlock = some k → k ≠ W2.heap.size := fun k hk => by have := (HO3.lt k hk).2; omega
      replace HO3 := HO3.alloc (.cells #[] 50)
      replace GB := GB.alloc (le_of GB HBB.out) (.cells #[] 50)
      obtain ⟨W3, hW3⟩ : ∃ X, W2.alloc (.cells #[] 50) = X := ⟨_, rfl⟩
      obtain ⟨g4, hg4⟩ : ∃ X, W2.heap.size = X := ⟨_, rfl⟩
      try rw [hW3] at HE4 GB HO3 ⊢
      try rw [hg4] at HE4 HN3 ⊢
      clear hS hW3 hg4
      refine hK.out _ _ ⟨HR1.out _ GB, HBw.out _ GB⟩ (fun hS => ?_)
      clear hK K
      refine wpAnyH_ready (rs := [7]) (by kernel_rfl) (by simp) ?_
      refine AllReadyH.cons rfl (fun K hK => ?_) (AllReadyH.nil)
      refine step_append_any _ rfl (.tmp 7) (.tmp 9) 23 rfl bb 50 i1 (.agg #[.int .i64 0, .int .i64 0, .int .u32 0, .int .u32 0]) 4 24 Try.underlying23 hj0 hj1 hj2 hj3 rfl (by decide) (.slice (some ⟨g4, 0, none⟩) 0 0) 0 [] rfl HE4 W3.heap.size B m d (flat cv us) rfl (HG.out _ GB).vcs (cv_ones _) (by simp only [maxLen]; omega) (by omega) (le_of GB HBB.out) ?_
      intro v7 W4 HO7 grow hw
      rw [List.nil_append, Nat.zero_add] at HO7
      replace HO3 := row_keep HO3 grow HN3
      replace GB := GB.grown grow (le_of GB HBB.out) (fun g hg => by injection hg with hg; have := (HE4.lt g4 rfl).1; simp only at hg; omega)
      obtain ⟨A7, c7, rfl, _, _⟩ := own_reads HO7
      clear HE4 grow hw hS
      refine hK.out _ _ ⟨HR1.out _ GB, HBw.out _ GB⟩ (fun hS => ?_)
      clear hK K
      refine wpAnyH_take (i := 8) (v := .agg #[.slice A3 n c3, .slice A7 m c7]) rfl (by kernel_rfl) (by kernel_rfl) (by kernel_rfl) (fun _ _ _ h => h) (Or.inl ⟨by kernel_rfl, fun u hSw => (by go_simp)⟩) hS ?_
      change wpAnyH _ _ _ _ _ _ _ (Act.put _ (some 11) _) _
      simp only [Act.put]
      refine wpAnyH_ready (rs := [9]) (by kernel_rfl) (by simp) ?_
      refine AllReadyH.cons rfl (fun K hK => ?_) (AllReadyH.nil)
      have KR := HR2.out _ GB
      have k1 := KR.cell 0
      have k2 := KR.cell 1
      have f1 := KR.frozen 0
      have f2 := KR.frozen 1
      go_simp
      have HW := Lib.hid (put2 (x := .slice A3 n c3) (y := .slice A7 m c7) KR (HBw.out _ GB) (by omega))
      have HX := Lib.hid (And.intro (own_set (own_set HO3 (g := w.heap.size + 1) (by have := HSz.out; omega) 0 (.slice A3 n c3)) (g := w.heap.size + 1) (by have := HSz.out; omega) 1 (.slice A7 m c7)) (own_set (own_set HO7 (g := w.heap.size + 1) (by have := HSz.out; omega) 0 (.slice A3 n c3)) (g := w.heap.size + 1) (by have := HSz.out; omega) 1 (.slice A7 m c7)))
      refine hK.out _ _ ⟨((HR1.out _ GB).far (p := ⟨w.heap.size + 1, 0, none⟩) (by simp) _).far (p := ⟨w.heap.size + 1, 1, none⟩) (by simp) _, HW.out.2⟩ (fun hS => ?_)
      clear hK K k1 k2 f1 f2 KR
      refine wpAnyH_done (by kernel_rfl) ?_ _
      clear hS
      go_wp2_with fail
      exact bodyPost_ret (v := .agg #[.slice A3 n c3, .slice A7 m c7]) (results_cell_row Try.results10 _ _ _ _ _ _ _ rfl HW.out.1 Try.underlying25 rfl (by kernel_rfl)) rfl ⟨A3, c3, A7, c7, by rw [HL.out.1, HL.out.2], by rw [HL.out.1]; exact own_down HX.out.1 (by have := HSz.out; omega), by rw [HL.out.2]; exact own_down HX.out.2 (by have := HSz.out; omega), HW.out.2⟩
    · skip
      go_simp
      have HE4 : (W1.alloc (.cells #[] 50)).ownsRow bb 50 4 (.slice (some ⟨W1.heap.size, 0, none⟩) 0 0) 0 [] := by simpa using World.ownsRow_made W1 #[] 0 (le_of GB HBB.out) (by simp [maxLen]) (by simp)
      have HN : ¬ g0 = W1.heap.size := by have := (HE0.lt g0 rfl).2; omega
      replace HE0 := HE0.alloc (.cells #[] 50)
      replace GB := GB.alloc (le_of GB HBB.out) (.cells #[] 50)
      obtain ⟨W5, hW5⟩ : ∃ X, W1.alloc (.cells #[] 50) = X := ⟨_, rfl⟩
      obtain ⟨g4, hg4⟩ : ∃ X, W1.heap.size = X := ⟨_, rfl⟩
      try rw [hW5] at HE4 GB HE0 ⊢
      try rw [hg4] at HE4 HN ⊢
      clear hS hW5 hg4
      refine hK.out _ _ ⟨HR1.out _ GB, HBw.out _ GB⟩ (fun hS => ?_)
      clear hK K
      refine wpAnyH_ready (rs := [3]) (by kernel_rfl) (by simp) ?_
      refine AllReadyH.cons rfl (fun K hK => ?_) (AllReadyH.nil)
      refine step_append_any _ rfl (.tmp 3) (.tmp 5) 22 rfl bb 27 i0 (.agg #[.int .i64 0, .int .i64 0, .int .i64 0, .int .i64 0]) 4 32 Try.underlying22 hi0 hi1 hi2 hi3 rfl (by decide) (.slice (some ⟨g0, 0, none⟩) 0 0) 0 [] rfl HE0 W5.heap.size A n c (flat dv ds) rfl (HG.out _ GB).doms (dv_ones _) (by simp only [maxLen]; omega) (by omega) (le_of GB HBB.out) ?_
      intro v3 W6 HO3 grow hw
      rw [List.nil_append, Nat.zero_add] at HO3
      have HN3 : ∀ k, v3.ownBlock = some k → k ≠ g4 := fun k hk => by
        have h1 := (HE4.lt g4 rfl).2
        rcases hw with h | h
        · rw [h] at hk
          injection hk with hk
          have hk : g0 = k := hk
          omega
        · rw [h] at hk
          injection hk with hk
          omega
      replace HE4 := row_keep HE4 grow (fun k hk => by injection hk with hk; have hk : g4 = k := hk; show ¬ k = g0; omega)
      replace GB := GB.grown grow (le_of GB HBB.out) (fun g hg => by injection hg with hg; have := (HE0.lt g0 rfl).1; simp only at hg; omega)
      obtain ⟨A3, c3, rfl, _, _⟩ := own_reads HO3
      clear HE0 grow hw hS
      refine hK.out _ _ ⟨HR1.out _ GB, HBw.out _ GB⟩ (fun hS => ?_)
      clear hK K
      refine wpAnyH_ready (rs := [7]) (by kernel_rfl) (by simp) ?_
      refine AllReadyH.cons rfl (fun K hK => ?_) (AllReadyH.nil)
      refine step_append_any _ rfl (.tmp 7) (.tmp 9) 23 rfl bb 50 i1 (.agg #[.int .i64 0, .int .i64 0, .int .u32 0, .int .u32 0]) 4 24 Try.underlying23 hj0 hj1 hj2 hj3 rfl (by decide) (.slice (some ⟨g4, 0, none⟩) 0 0) 0 [] rfl HE4 W6.heap.size B m d (flat cv us) rfl (HG.out _ GB).vcs (cv_ones _) (by simp only [maxLen]; omega) (by omega) (le_of GB HBB.out) ?_
      intro v7 W7 HO7 grow hw
      rw [List.nil_append, Nat.zero_add] at HO7
      replace HO3 := row_keep HO3 grow HN3
      replace GB := GB.grown grow (le_of GB HBB.out) (fun g hg => by injection hg with hg; have := (HE4.lt g4 rfl).1; simp only at hg; omega)
      obtain ⟨A7, c7, rfl, _, _⟩ := own_reads HO7
      clear HE4 grow hw hS
      refine hK.out _ _ ⟨HR1.out _ GB, HBw.out _ GB⟩ (fun hS => ?_)
      clear hK K
      refine wpAnyH_take (i := 8) (v := .agg #[.slice A3 n c3, .slice A7 m c7]) rfl (by kernel_rfl) (by kernel_rfl) (by kernel_rfl) (fun _ _ _ h => h) (Or.inl ⟨by kernel_rfl, fun u hSw => (by go_simp)⟩) hS ?_
      change wpAnyH _ _ _ _ _ _ _ (Act.put _ (some 11) _) _
      simp only [Act.put]
      refine wpAnyH_ready (rs := [9]) (by kernel_rfl) (by simp) ?_
      refine AllReadyH.cons rfl (fun K hK => ?_) (AllReadyH.nil)
      have KR := HR2.out _ GB
      have k1 := KR.cell 0
      have k2 := KR.cell 1
      have f1 := KR.frozen 0
      have f2 := KR.frozen 1
      go_simp
      have HW := Lib.hid (put2 (x := .slice A3 n c3) (y := .slice A7 m c7) KR (HBw.out _ GB) (by omega))
      have HX := Lib.hid (And.intro (own_set (own_set HO3 (g := w.heap.size + 1) (by have := HSz.out; omega) 0 (.slice A3 n c3)) (g := w.heap.size + 1) (by have := HSz.out; omega) 1 (.slice A7 m c7)) (own_set (own_set HO7 (g := w.heap.size + 1) (by have := HSz.out; omega) 0 (.slice A3 n c3)) (g := w.heap.size + 1) (by have := HSz.out; omega) 1 (.slice A7 m c7)))
      refine hK.out _ _ ⟨((HR1.out _ GB).far (p := ⟨w.heap.size + 1, 0, none⟩) (by simp) _).far (p := ⟨w.heap.size + 1, 1, none⟩) (by simp) _, HW.out.2⟩ (fun hS => ?_)
      clear hK K k1 k2 f1 f2 KR
      refine wpAnyH_done (by kernel_rfl) ?_ _
      clear hS
      go_wp2_with fail
      exact bodyPost_ret (v := .agg #[.slice A3 n c3, .slice A7 m c7]) (results_cell_row Try.results10 _ _ _ _ _ _ _ rfl HW.out.1 Try.underlying25 rfl (by kernel_rfl)) rfl ⟨A3, c3, A7, c7, by rw [HL.out.1, HL.out.2], by rw [HL.out.1]; exact own_down HX.out.1 (by have := HSz.out; omega), by rw [HL.out.2]; exact own_down HX.out.2 (by have := HSz.out; omega), HW.out.2⟩
  · skip
    go_simp
    have HE4 : (W0.alloc (.cells #[] 50)).ownsRow bb 50 4 (.slice (some ⟨W0.heap.size, 0, none⟩) 0 0) 0 [] := by simpa using World.ownsRow_made W0 #[] 0 (le_of GB HBB.out) (by simp [maxLen]) (by simp)
    replace GB := GB.alloc (le_of GB HBB.out) (.cells #[] 50)
    obtain ⟨W8, hW8⟩ : ∃ X, W0.alloc (.cells #[] 50) = X := ⟨_, rfl⟩
    obtain ⟨g4, hg4⟩ : ∃ X, W0.heap.size = X := ⟨_, rfl⟩
    try rw [hW8] at HE4 GB ⊢
    try rw [hg4] at HE4 ⊢
    clear hS hW8 hg4
    refine hK.out _ _ ⟨HR1.out _ GB, HBw.out _ GB⟩ (fun hS => ?_)
    clear hK K
    refine wpAnyH_ready (rs := [0]) (by kernel_rfl) (by simp) ?_
    refine AllReadyH.cons rfl (fun K hK => ?_) (AllReadyH.nil)
    go_simp
    have HE0 : (W8.alloc (.cells #[] 27)).ownsRow bb 27 4 (.slice (some ⟨W8.heap.size, 0, none⟩) 0 0) 0 [] := by simpa using World.ownsRow_made W8 #[] 0 (le_of GB HBB.out) (by simp [maxLen]) (by simp)
    have HN : ¬ g4 = W8.heap.size := by have := (HE4.lt g4 rfl).2; omega
    replace HE4 := HE4.alloc (.cells #[] 27)
    replace GB := GB.alloc (le_of GB HBB.out) (.cells #[] 27)
    obtain ⟨W9, hW9⟩ : ∃ X, W8.alloc (.cells #[] 27) = X := ⟨_, rfl⟩
    obtain ⟨g0, hg0⟩ : ∃ X, W8.heap.size = X := ⟨_, rfl⟩
    try rw [hW9] at HE0 GB HE4 ⊢
    try rw [hg0] at HE0 HN ⊢
    clear hS hW9 hg0
    refine hK.out _ _ ⟨HR1.out _ GB, HBw.out _ GB⟩ (fun hS => ?_)
    clear hK K
    refine wpAnyH_ready (rs := [3]) (by kernel_rfl) (by simp) ?_
    refine AllReadyH.cons rfl (fun K hK => ?_) (AllReadyH.nil)
    refine step_append_any _ rfl (.tmp 3) (.tmp 5) 22 rfl bb 27 i0 (.agg #[.int .i64 0, .int .i64 0, .int .i64 0, .int .i64 0]) 4 32 Try.underlying22 hi0 hi1 hi2 hi3 rfl (by decide) (.slice (some ⟨g0, 0, none⟩) 0 0) 0 [] rfl HE0 W9.heap.size A n c (flat dv ds) rfl (HG.out _ GB).doms (dv_ones _) (by simp only [maxLen]; omega) (by omega) (le_of GB HBB.out) ?_
    intro v3 W10 HO3 grow hw
    rw [List.nil_append, Nat.zero_add] at HO3
    have HN3 : ∀ k, v3.ownBlock = some k → k ≠ g4 := fun k hk => by
      have h1 := (HE4.lt g4 rfl).2
      rcases hw with h | h
      · rw [h] at hk
        injection hk with hk
        have hk : g0 = k := hk
        omega
      · rw [h] at hk
        injection hk with hk
        omega
    replace HE4 := row_keep HE4 grow (fun k hk => by injection hk with hk; have hk : g4 = k := hk; show ¬ k = g0; omega)
    replace GB := GB.grown grow (le_of GB HBB.out) (fun g hg => by injection hg with hg; have := (HE0.lt g0 rfl).1; simp only at hg; omega)
    obtain ⟨A3, c3, rfl, _, _⟩ := own_reads HO3
    clear HE0 grow hw hS
    refine hK.out _ _ ⟨HR1.out _ GB, HBw.out _ GB⟩ (fun hS => ?_)
    clear hK K
    refine wpAnyH_ready (rs := [7]) (by kernel_rfl) (by simp) ?_
    refine AllReadyH.cons rfl (fun K hK => ?_) (AllReadyH.nil)
    refine step_append_any _ rfl (.tmp 7) (.tmp 9) 23 rfl bb 50 i1 (.agg #[.int .i64 0, .int .i64 0, .int .u32 0, .int .u32 0]) 4 24 Try.underlying23 hj0 hj1 hj2 hj3 rfl (by decide) (.slice (some ⟨g4, 0, none⟩) 0 0) 0 [] rfl HE4 W10.heap.size B m d (flat cv us) rfl (HG.out _ GB).vcs (cv_ones _) (by simp only [maxLen]; omega) (by omega) (le_of GB HBB.out) ?_
    intro v7 W11 HO7 grow hw
    rw [List.nil_append, Nat.zero_add] at HO7
    replace HO3 := row_keep HO3 grow HN3
    replace GB := GB.grown grow (le_of GB HBB.out) (fun g hg => by injection hg with hg; have := (HE4.lt g4 rfl).1; simp only at hg; omega)
    obtain ⟨A7, c7, rfl, _, _⟩ := own_reads HO7
    clear HE4 grow hw hS
    refine hK.out _ _ ⟨HR1.out _ GB, HBw.out _ GB⟩ (fun hS => ?_)
    clear hK K
    refine wpAnyH_take (i := 8) (v := .agg #[.slice A3 n c3, .slice A7 m c7]) rfl (by kernel_rfl) (by kernel_rfl) (by kernel_rfl) (fun _ _ _ h => h) (Or.inl ⟨by kernel_rfl, fun u hSw => (by go_simp)⟩) hS ?_
    change wpAnyH _ _ _ _ _ _ _ (Act.put _ (some 11) _) _
    simp only [Act.put]
    refine wpAnyH_ready (rs := [9]) (by kernel_rfl) (by simp) ?_
    refine AllReadyH.cons rfl (fun K hK => ?_) (AllReadyH.nil)
    have KR := HR2.out _ GB
    have k1 := KR.cell 0
    have k2 := KR.cell 1
    have f1 := KR.frozen 0
    have f2 := KR.frozen 1
    go_simp
    have HW := Lib.hid (put2 (x := .slice A3 n c3) (y := .slice A7 m c7) KR (HBw.out _ GB) (by omega))
    have HX := Lib.hid (And.intro (own_set (own_set HO3 (g := w.heap.size + 1) (by have := HSz.out; omega) 0 (.slice A3 n c3)) (g := w.heap.size + 1) (by have := HSz.out; omega) 1 (.slice A7 m c7)) (own_set (own_set HO7 (g := w.heap.size + 1) (by have := HSz.out; omega) 0 (.slice A3 n c3)) (g := w.heap.size + 1) (by have := HSz.out; omega) 1 (.slice A7 m c7)))
    refine hK.out _ _ ⟨((HR1.out _ GB).far (p := ⟨w.heap.size + 1, 0, none⟩) (by simp) _).far (p := ⟨w.heap.size + 1, 1, none⟩) (by simp) _, HW.out.2⟩ (fun hS => ?_)
    clear hK K k1 k2 f1 f2 KR
    refine wpAnyH_done (by kernel_rfl) ?_ _
    clear hS
    go_wp2_with fail
    exact bodyPost_ret (v := .agg #[.slice A3 n c3, .slice A7 m c7]) (results_cell_row Try.results10 _ _ _ _ _ _ _ rfl HW.out.1 Try.underlying25 rfl (by kernel_rfl)) rfl ⟨A3, c3, A7, c7, by rw [HL.out.1, HL.out.2], by rw [HL.out.1]; exact own_down HX.out.1 (by have := HSz.out; omega), by rw [HL.out.2]; exact own_down HX.out.2 (by have := HSz.out; omega), HW.out.2⟩

end Go.Proofs.Ytknimnopopnbhaa
