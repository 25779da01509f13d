/-
  The document's Copy: gangs in memory of their own. No statement is proved here.
-/
import Derived.Test.YtglphgfaknofcaaKg
namespace Go.Proofs.Ytglphgfaknofcaa
open Go.RowKit Go.Maps

/-- gangs copied, so far -/
structure CpR (w : World) (gs : List Gn) (k : Nat) (A5 : Option Addr) (n5 c5 : Nat) (G : List Gn) (wr : World) : Prop where
  out : Blk wr (w.heap.size + 1 + 1) 24 #[.slice A5 n5 c5]
  res : Blk wr (w.heap.size + 1) 24 #[.slice none 0 0]
  no : NO wr (w.heap.size + 1 + 1 + 1) A5 n5 c5 G
  eq : gsM G = (gsM gs).take k
  nk : n5 = k
  mem : ∀ g ∈ G, g.2.2.1 ≤ 100
  bel : Below w.heap.size w wr
theorem CpR.put {w : World} {gs : List Gn} {k : Nat} {A5 : Option Addr} {n5 c5 : Nat} {G : List Gn} {wr : World} (h : CpR w gs k A5 n5 c5 G wr) {id : Int} {A3 : Option Addr} {m3 c3 : Nat} {is : List Int} (hx : gs[k]? = some (id, A3, m3, c3, is)) {w4 : World} {Ai : Option Addr} {ci : Nat}
    (D4 : Below (wr.alloc (.cells #[.int .i64 id, .slice A3 m3 c3] 36)).heap.size (wr.alloc (.cells #[.int .i64 id, .slice A3 m3 c3] 36)) w4) (Oi : w4.ownsRow (wr.alloc (.cells #[.int .i64 id, .slice A3 m3 c3] 36)).heap.size 3 1 (.slice Ai m3 ci) m3 (vs is)) (h17 : m3 ≤ 100)
    {w9 : World} {A9 : Option Addr} {c9 : Nat} (own9 : w9.ownsRow (w.heap.size + 1 + 1 + 1) 36 2 (.slice A9 (n5 + 1) c9) (n5 + 1) (flat gnv (G ++ [(id, Ai, m3, ci, is)]))) (grow9 : (w4.alloc (.cells #[.int .i64 id, .slice Ai m3 ci] 36)).grownBy w9 (Value.slice A5 n5 c5).ownBlock)
    (ne9 : (Value.slice A9 (n5 + 1) c9).ownBlock = (Value.slice A5 n5 c5).ownBlock ∨ (Value.slice A9 (n5 + 1) c9).ownBlock = some (w4.alloc (.cells #[.int .i64 id, .slice Ai m3 ci] 36)).heap.size) :
    Blk w9 wr.heap.size 36 #[.int .i64 id, .slice A3 m3 c3] ∧ Blk w9 (w.heap.size + 1 + 1) 24 #[.slice A5 n5 c5] ∧ Blk (w9.setCell ⟨w.heap.size + 1 + 1, 0, none⟩ (.slice A9 (n5 + 1) c9)) wr.heap.size 36 #[.int .i64 id, .slice A3 m3 c3] ∧ Hid (CpR w gs (k + 1) A9 (n5 + 1) c9 (G ++ [(id, Ai, m3, ci, is)]) (w9.setCell ⟨w.heap.size + 1 + 1, 0, none⟩ (.slice A9 (n5 + 1) c9))) := by
  have DA := (Below.refl wr.heap.size wr).alloc (Nat.le_refl _) (.cells #[.int .i64 id, .slice A3 m3 c3] 36)
  have DX := (Below.refl w4.heap.size w4).alloc (Nat.le_refl _) (.cells #[.int .i64 id, .slice Ai m3 ci] 36)
  have DV := D4.trans (DX.mono D4.size)
  have DW := DA.trans (DV.mono DA.size)
  have hob : w.heap.size + 1 + 1 < wr.heap.size := h.out.lt
  have hrow : ∀ j, (Value.slice A5 n5 c5).ownBlock = some j → w.heap.size + 1 + 1 + 1 ≤ j ∧ j < wr.heap.size := fun j hj => h.no.row.lt j hj
  have KX := (Blk.new wr 36 #[.int .i64 id, .slice A3 m3 c3]).below DV (by simp)
  have hX9 := KX.grown grow9 (fun e => by have := (hrow _ e.symm).2; omega)
  have hO9 := (h.out.below DW h.out.lt).grown grow9 (fun e => by have := (hrow _ e.symm).1; omega)
  have hR9 := (h.res.below DW h.res.lt).grown grow9 (fun e => by have := (hrow _ e.symm).1; omega)
  have hb9 := (h.bel.trans (DW.mono h.bel.size)).grown grow9 (Nat.le_trans h.bel.size DW.size) (fun j hj => by have := (hrow j hj).1; omega)
  have e : G.take n5 ++ (id, Ai, m3, ci, is) :: G.drop n5 = G ++ [(id, Ai, m3, ci, is)] := by
    rw [List.take_of_length_le (Nat.le_of_eq h.no.len), List.drop_of_length_le (Nat.le_of_eq h.no.len)]
  have hN9 := (h.no.below DA).ins (k := n5) (x := (id, Ai, m3, ci, is)) DV (Oi.alloc _) (Nat.le_refl _) (Nat.le_trans (by omega) DA.size) grow9 (by rw [e]; exact own9) (fun j hj => by
    rcases ne9 with h1 | h1
    · rw [h1] at hj; exact .inl hj
    · rw [h1] at hj; injection hj with hj; exact .inr (by omega))
  rw [e] at hN9
  have hP := put1 (x := .slice A9 (n5 + 1) c9) hO9 hb9 (by omega)
  have hnk := h.nk
  refine ⟨hX9, hO9, hX9.far (p := ⟨w.heap.size + 1 + 1, 0, none⟩) (by simp; omega) _, Lib.hid ⟨hP.1, hR9.far (p := ⟨w.heap.size + 1 + 1, 0, none⟩) (by simp) _, hN9.set (by omega) 0 _, ?_, by omega, fun g hg => ?_, hP.2⟩⟩
  · have e2 : (gsM gs).take (k + 1) = (gsM gs).take k ++ [(id, is)] := by rw [List.take_add_one (l := gsM gs), gsM_at hx]; rfl
    rw [e2, ← h.eq]
    unfold gsM
    rw [List.map_append]
    rfl
  · rcases List.mem_append.1 hg with hg | hg
    · exact h.mem g hg
    · rw [List.mem_singleton] at hg
      subst hg
      exact h17
def CopySaid (gs : List Gn) (w : World) (e : Ending) (w' : World) : Prop := ∃ A n c G, e = .returned (.agg #[.slice A n c]) ∧ NO w' w.heap.size A n c G ∧ gsM G = gsM gs ∧ n ≤ 100 ∧ (∀ g ∈ G, g.2.2.1 ≤ 100) ∧ Below w.heap.size w w'

set_option maxRecDepth 100000 in
set_option maxHeartbeats 16000000 in
theorem dcopy_any (A : Option Addr) (n c : Nat) (gs : List Gn) (w : World) (hG : NW w A n gs) : Calls Try.prog 14 #[.agg #[.slice A n c]] w (CopySaid gs w) := by
  obtain ⟨i0, ii, hz0, hz1, hz2⟩ := info_parts9 int_info
  obtain ⟨ji, hi1, hy0, hy1, hy2⟩ := info_parts9 gang_info
  obtain ⟨K0, K1, K2, GB⟩ := blks3 w 24 24 24 #[.slice A n c] #[.slice none 0 0] #[.slice none 0 0]
  have HG := Lib.hid hG
  have HL := Lib.hid hG.len
  have n9 : n ≤ 100 := hG.small
  have c0 := K0.cell 0
  have HSR : Hid (CpR w gs 0 none 0 0 [] (((w.alloc (.cells #[.slice A n c] 24)).alloc (.cells #[.slice none 0 0] 24)).alloc (.cells #[.slice none 0 0] 24))) := Lib.hid ⟨K2, K1, no_none _ _, rfl, rfl, fun g hg => (by cases hg), GB⟩
  clear hG K0 K1 K2 GB
  go_enter Try.func14, Try.ntmps14
  go_wp2_with fail
  clear c0
  generalize ((w.alloc (.cells #[.slice A n c] 24)).alloc (.cells #[.slice none 0 0] 24)).alloc (.cells #[.slice none 0 0] 24) = w0 at *
  go_loopw [9] (fun iv wr => ∃ (k : Nat) (A5 : Option Addr) (n5 c5 : Nat) (G : List Gn), k ≤ n ∧ iv = .int .i64 (k : Int) ∧ Hid (CpR w gs k A5 n5 c5 G wr)) (fun iv _ => n - (intOf iv).toNat)
  case atStart => exact ⟨0, none, 0, 0, [], by omega, rfl, HSR⟩
  case round =>
    clear HSR
    obtain ⟨k, A5, n5, c5, G, hk, rfl, HSR⟩ := hrel
    by_cases hlt : k < n
    · obtain ⟨⟨id, A3, m3, c3, is⟩, hx⟩ := elem_at (l := gs) (k := k) (by rw [HL.out]; exact hlt)
      have hG1 := HG.out.below HSR.out.bel
      obtain ⟨ad, rfl, _, d0, d1⟩ := hG1.at_ hx
      have hM := hG1.each _ (List.mem_of_getElem? hx)
      have HM9 : Hid (m3 ≤ 100) := Lib.hid hM.2
      have HX2 := Lib.hid hx
      have i1 : (0 : Int) ≤ (k : Int) := by omega
      have i2 : (k : Int) < (n : Int) := by omega
      obtain rfl : n5 = k := HSR.out.nk
      have DA := (Below.refl wr.heap.size wr).alloc (Nat.le_refl _) (.cells #[.int .i64 id, .slice A3 m3 c3] 36)
      have KX := Blk.new wr 36 #[.int .i64 id, .slice A3 m3 c3]
      have x0 := KX.cell 0
      have x1 := KX.cell 1
      have HX := Lib.hid (fun (u : World) (hu : Below (wr.alloc (.cells #[.int .i64 id, .slice A3 m3 c3] 36)).heap.size (wr.alloc (.cells #[.int .i64 id, .slice A3 m3 c3] 36)) u) => KX.below hu KX.lt)
      have hO1 := HSR.out.out.below DA HSR.out.out.lt
      have HO := Lib.hid (fun (u : World) (hu : Below (wr.alloc (.cells #[.int .i64 id, .slice A3 m3 c3] 36)).heap.size (wr.alloc (.cells #[.int .i64 id, .slice A3 m3 c3] 36)) u) => hO1.below hu hO1.lt)
      have hN1 := HSR.out.no.below DA
      have HN := Lib.hid (fun (u : World) (hu : Below (wr.alloc (.cells #[.int .i64 id, .slice A3 m3 c3] 36)).heap.size (wr.alloc (.cells #[.int .i64 id, .slice A3 m3 c3] 36)) u) => hN1.below hu)
      have hR1 := (hM.1.below DA).row
      have HRd := Lib.hid (fun (u : World) (hu : Below (wr.alloc (.cells #[.int .i64 id, .slice A3 m3 c3] 36)).heap.size (wr.alloc (.cells #[.int .i64 id, .slice A3 m3 c3] 36)) u) => (hR1.below hu).more hu.size)
      have D0 := (Below.refl (wr.alloc (.cells #[.int .i64 id, .slice A3 m3 c3] 36)).heap.size (wr.alloc (.cells #[.int .i64 id, .slice A3 m3 c3] 36))).drew
      have HBB : Hid (w.heap.size + 1 + 1 + 1 ≤ (wr.alloc (.cells #[.int .i64 id, .slice A3 m3 c3] 36)).heap.size) := Lib.hid (Nat.le_trans HSR.out.out.lt DA.size)
      clear hx hM hG1 DA KX hO1 hN1 hR1
      go_upto_region 5 with fail
      clear d0 d1 x0 x1
      refine wp_region_held_drew (S := fun u => Blk u wr.heap.size 36 #[.int .i64 id, .slice A3 m3 c3]) (by kernel_rfl) (HX.out _ D0) (fun hS => ?_)
      generalize (wr.alloc (.cells #[.int .i64 id, .slice A3 m3 c3] 36)).drew = V at D0 hS ⊢
      refine wpAnyH_take (i := 0) (v := .pointer (some ⟨w.heap.size + 1 + 1, 0, none⟩)) rfl (by kernel_rfl) (by kernel_rfl) (by kernel_rfl) (fun _ _ _ h => h) (Or.inl ⟨by kernel_rfl, fun u hSw => (by go_simp)⟩) hS ?_
      change wpAnyH _ _ _ _ _ _ _ (Act.put _ (some 13) _) _
      simp only [Act.put]
      refine wpAnyH_take (i := 2) (v := .pointer (some ⟨wr.heap.size, 0, none⟩)) rfl (by kernel_rfl) (by kernel_rfl) (by kernel_rfl) (fun _ _ _ h => h) (Or.inl ⟨by kernel_rfl, fun u hSw => (by go_simp)⟩) hS ?_
      change wpAnyH _ _ _ _ _ _ _ (Act.put _ (some 15) _) _
      simp only [Act.put]
      refine wpAnyH_take (i := 3) (v := .int .i64 id) rfl (by kernel_rfl) (by kernel_rfl) (by kernel_rfl) (fun _ _ _ h => h) (Or.inl ⟨by kernel_rfl, fun u hSw => (by have q := hSw.cell 0; go_simp)⟩) hS ?_
      change wpAnyH _ _ _ _ _ _ _ (Act.put _ (some 16) _) _
      simp only [Act.put]
      refine wpAnyH_take (i := 5) (v := .pointer (some ⟨wr.heap.size, 1, none⟩)) rfl (by kernel_rfl) (by kernel_rfl) (by kernel_rfl) (fun _ _ _ h => h) (Or.inl ⟨by kernel_rfl, fun u hSw => (by go_simp)⟩) hS ?_
      change wpAnyH _ _ _ _ _ _ _ (Act.put _ (some 18) _) _
      simp only [Act.put]
      refine wpAnyH_take (i := 6) (v := .slice A3 m3 c3) rfl (by kernel_rfl) (by kernel_rfl) (by kernel_rfl) (fun _ _ _ h => h) (Or.inl ⟨by kernel_rfl, fun u hSw => (by have q := hSw.cell 1; go_simp)⟩) hS ?_
      change wpAnyH _ _ _ _ _ _ _ (Act.put _ (some 19) _) _
      simp only [Act.put]
      refine wpAnyH_ready (rs := [1, 4]) (by kernel_rfl) (by simp) ?_
      refine AllReadyH.cons rfl (fun K hK => ?_) (AllReadyH.cons rfl (fun K hK => ?_) AllReadyH.nil)
      · skip
        have q := (HO.out _ D0).cell 0
        go_simp
        clear q
        refine hK.out _ _ (HX.out _ D0) (fun hS => ?_)
        clear hK K
        refine wpAnyH_ready (rs := [4]) (by kernel_rfl) (by simp) ?_
        refine AllReadyH.cons rfl (fun K hK => ?_) AllReadyH.nil
        have D5 := D0.alloc D0.size (.cells #[] 3)
        go_simp
        refine hK.out _ _ (HX.out _ D5) (fun hS => ?_)
        clear hK K
        refine wpAnyH_ready (rs := [7]) (by kernel_rfl) (by simp) ?_
        refine AllReadyH.cons rfl (fun K hK => ?_) AllReadyH.nil
        refine step_append_any _ rfl (.tmp 17) (.tmp 19) 28 rfl V.heap.size 3 i0 (.int .i64 0) 1 8 Try.underlying28 ii hz0 hz1 hz2 rfl (by decide) (.slice (some ⟨V.heap.size, 0, none⟩) 0 0) 0 [] rfl (by simpa using World.ownsRow_made V #[] 0 (Nat.le_refl _) (by simp [maxLen]) (by simp)) _ A3 m3 c3 (vs is) rfl (HRd.out _ D5) (vs_ones _) (by have := HM9.out; simp only [maxLen]; omega) (by have := HM9.out; omega) (by simp) ?_
        intro v4 w4 own4 grow4 _
        rw [List.nil_append, Nat.zero_add] at own4
        obtain ⟨Ai, ci, rfl, _, _⟩ := own_reads own4
        have D4 := D5.grown grow4 D5.size (fun k hk => by simp [Value.ownBlock] at hk; have := D0.size; omega)
        have HOi := Lib.hid (own_down own4 D0.size)
        clear own4 grow4
        refine hK.out _ _ (HX.out _ D4) (fun hS => ?_)
        clear hK K
        refine wpAnyH_take (i := 8) (v := .agg #[.int .i64 id, .slice Ai m3 ci]) rfl (by kernel_rfl) (by kernel_rfl) (by kernel_rfl) (fun _ _ _ h => h) (Or.inl ⟨by kernel_rfl, fun u hSw => (by go_simp)⟩) hS ?_
        change wpAnyH _ _ _ _ _ _ _ (Act.put _ (some 21) _) _
        simp only [Act.put]
        refine wpAnyH_ready (rs := [9]) (by kernel_rfl) (by simp) ?_
        refine AllReadyH.cons rfl (fun K hK => ?_) AllReadyH.nil
        have D6 := D4.alloc D4.size (.cells #[.int .i64 id, .slice Ai m3 ci] 36)
        go_simp
        refine hK.out _ _ (HX.out _ D6) (fun hS => ?_)
        clear hK K
        refine wpAnyH_ready (rs := [10]) (by kernel_rfl) (by simp) ?_
        refine AllReadyH.cons rfl (fun K hK => ?_) AllReadyH.nil
        refine step_append_any _ rfl (.tmp 14) (.tmp 22) 22 rfl (w.heap.size + 1 + 1 + 1) 36 ji (.agg #[.int .i64 0, .slice none 0 0]) 2 32 Try.underlying22 hi1 hy0 hy1 hy2 rfl (by decide) (.slice A5 n5 c5) n5 (flat gnv G) rfl (HN.out _ D6).row _ (some ⟨w4.heap.size, 0, none⟩) 1 1 (flat gnv [(id, Ai, m3, ci, is)]) rfl (reads_new _ _ _ rfl (by simp)) (gnv_ones _) (by simp only [maxLen]; omega) (by omega) (Nat.le_trans HBB.out D6.size) ?_
        intro v9 w9 own9 grow9 ne9
        rw [← flat_append] at own9
        obtain ⟨A9, c9, rfl, _, _⟩ := own_reads own9
        have HF := Lib.hid (CpR.put HSR.out HX2.out D4 HOi.out HM9.out own9 grow9 ne9)
        clear own9 grow9 ne9
        refine hK.out _ _ (HF.out.1) (fun hS => ?_)
        clear hK K
        refine wpAnyH_take (i := 11) (v := .pointer (some ⟨w.heap.size + 1 + 1, 0, none⟩)) rfl (by kernel_rfl) (by kernel_rfl) (by kernel_rfl) (fun _ _ _ h => h) (Or.inl ⟨by kernel_rfl, fun u hSw => (by go_simp)⟩) hS ?_
        change wpAnyH _ _ _ _ _ _ _ (Act.put _ (some 24) _) _
        simp only [Act.put]
        refine wpAnyH_ready (rs := [12]) (by kernel_rfl) (by simp) ?_
        refine AllReadyH.cons rfl (fun K hK => ?_) AllReadyH.nil
        have k1 := HF.out.2.1.cell 0
        have f1 := HF.out.2.1.frozen 0
        go_simp
        clear k1 f1
        refine hK.out _ _ (HF.out.2.2.1) (fun hS => ?_)
        clear hK K
        refine wpAnyH_done (by kernel_rfl) ?_ _
        clear hS
        go_wp2_with fail
        go_roundw
        case rel => exact ⟨n5 + 1, A9, n5 + 1, c9, _, by omega, by go_num, HF.out.2.2.2⟩
        case measure => simp [intOf] <;> omega
      · skip
        have D5 := D0.alloc D0.size (.cells #[] 3)
        go_simp
        refine hK.out _ _ (HX.out _ D5) (fun hS => ?_)
        clear hK K
        refine wpAnyH_ready (rs := [1, 7]) (by kernel_rfl) (by simp) ?_
        refine AllReadyH.cons rfl (fun K hK => ?_) (AllReadyH.cons rfl (fun K hK => ?_) AllReadyH.nil)
        · skip
          have q := (HO.out _ D5).cell 0
          go_simp
          clear q
          refine hK.out _ _ (HX.out _ D5) (fun hS => ?_)
          clear hK K
          refine wpAnyH_ready (rs := [7]) (by kernel_rfl) (by simp) ?_
          refine AllReadyH.cons rfl (fun K hK => ?_) AllReadyH.nil
          refine step_append_any _ rfl (.tmp 17) (.tmp 19) 28 rfl V.heap.size 3 i0 (.int .i64 0) 1 8 Try.underlying28 ii hz0 hz1 hz2 rfl (by decide) (.slice (some ⟨V.heap.size, 0, none⟩) 0 0) 0 [] rfl (by simpa using World.ownsRow_made V #[] 0 (Nat.le_refl _) (by simp [maxLen]) (by simp)) _ A3 m3 c3 (vs is) rfl (HRd.out _ D5) (vs_ones _) (by have := HM9.out; simp only [maxLen]; omega) (by have := HM9.out; omega) (by simp) ?_
          intro v4 w4 own4 grow4 _
          rw [List.nil_append, Nat.zero_add] at own4
          obtain ⟨Ai, ci, rfl, _, _⟩ := own_reads own4
          have D4 := D5.grown grow4 D5.size (fun k hk => by simp [Value.ownBlock] at hk; have := D0.size; omega)
          have HOi := Lib.hid (own_down own4 D0.size)
          clear own4 grow4
          refine hK.out _ _ (HX.out _ D4) (fun hS => ?_)
          clear hK K
          refine wpAnyH_take (i := 8) (v := .agg #[.int .i64 id, .slice Ai m3 ci]) rfl (by kernel_rfl) (by kernel_rfl) (by kernel_rfl) (fun _ _ _ h => h) (Or.inl ⟨by kernel_rfl, fun u hSw => (by go_simp)⟩) hS ?_
          change wpAnyH _ _ _ _ _ _ _ (Act.put _ (some 21) _) _
          simp only [Act.put]
          refine wpAnyH_ready (rs := [9]) (by kernel_rfl) (by simp) ?_
          refine AllReadyH.cons rfl (fun K hK => ?_) AllReadyH.nil
          have D6 := D4.alloc D4.size (.cells #[.int .i64 id, .slice Ai m3 ci] 36)
          go_simp
          refine hK.out _ _ (HX.out _ D6) (fun hS => ?_)
          clear hK K
          refine wpAnyH_ready (rs := [10]) (by kernel_rfl) (by simp) ?_
          refine AllReadyH.cons rfl (fun K hK => ?_) AllReadyH.nil
          refine step_append_any _ rfl (.tmp 14) (.tmp 22) 22 rfl (w.heap.size + 1 + 1 + 1) 36 ji (.agg #[.int .i64 0, .slice none 0 0]) 2 32 Try.underlying22 hi1 hy0 hy1 hy2 rfl (by decide) (.slice A5 n5 c5) n5 (flat gnv G) rfl (HN.out _ D6).row _ (some ⟨w4.heap.size, 0, none⟩) 1 1 (flat gnv [(id, Ai, m3, ci, is)]) rfl (reads_new _ _ _ rfl (by simp)) (gnv_ones _) (by simp only [maxLen]; omega) (by omega) (Nat.le_trans HBB.out D6.size) ?_
          intro v9 w9 own9 grow9 ne9
          rw [← flat_append] at own9
          obtain ⟨A9, c9, rfl, _, _⟩ := own_reads own9
          have HF := Lib.hid (CpR.put HSR.out HX2.out D4 HOi.out HM9.out own9 grow9 ne9)
          clear own9 grow9 ne9
          refine hK.out _ _ (HF.out.1) (fun hS => ?_)
          clear hK K
          refine wpAnyH_take (i := 11) (v := .pointer (some ⟨w.heap.size + 1 + 1, 0, none⟩)) rfl (by kernel_rfl) (by kernel_rfl) (by kernel_rfl) (fun _ _ _ h => h) (Or.inl ⟨by kernel_rfl, fun u hSw => (by go_simp)⟩) hS ?_
          change wpAnyH _ _ _ _ _ _ _ (Act.put _ (some 24) _) _
          simp only [Act.put]
          refine wpAnyH_ready (rs := [12]) (by kernel_rfl) (by simp) ?_
          refine AllReadyH.cons rfl (fun K hK => ?_) AllReadyH.nil
          have k1 := HF.out.2.1.cell 0
          have f1 := HF.out.2.1.frozen 0
          go_simp
          clear k1 f1
          refine hK.out _ _ (HF.out.2.2.1) (fun hS => ?_)
          clear hK K
          refine wpAnyH_done (by kernel_rfl) ?_ _
          clear hS
          go_wp2_with fail
          go_roundw
          case rel => exact ⟨n5 + 1, A9, n5 + 1, c9, _, by omega, by go_num, HF.out.2.2.2⟩
          case measure => simp [intOf] <;> omega
        · skip
          refine step_append_any _ rfl (.tmp 17) (.tmp 19) 28 rfl V.heap.size 3 i0 (.int .i64 0) 1 8 Try.underlying28 ii hz0 hz1 hz2 rfl (by decide) (.slice (some ⟨V.heap.size, 0, none⟩) 0 0) 0 [] rfl (by simpa using World.ownsRow_made V #[] 0 (Nat.le_refl _) (by simp [maxLen]) (by simp)) _ A3 m3 c3 (vs is) rfl (HRd.out _ D5) (vs_ones _) (by have := HM9.out; simp only [maxLen]; omega) (by have := HM9.out; omega) (by simp) ?_
          intro v4 w4 own4 grow4 _
          rw [List.nil_append, Nat.zero_add] at own4
          obtain ⟨Ai, ci, rfl, _, _⟩ := own_reads own4
          have D4 := D5.grown grow4 D5.size (fun k hk => by simp [Value.ownBlock] at hk; have := D0.size; omega)
          have HOi := Lib.hid (own_down own4 D0.size)
          clear own4 grow4
          refine hK.out _ _ (HX.out _ D4) (fun hS => ?_)
          clear hK K
          refine wpAnyH_take (i := 8) (v := .agg #[.int .i64 id, .slice Ai m3 ci]) rfl (by kernel_rfl) (by kernel_rfl) (by kernel_rfl) (fun _ _ _ h => h) (Or.inl ⟨by kernel_rfl, fun u hSw => (by go_simp)⟩) hS ?_
          change wpAnyH _ _ _ _ _ _ _ (Act.put _ (some 21) _) _
          simp only [Act.put]
          refine wpAnyH_ready (rs := [1, 9]) (by kernel_rfl) (by simp) ?_
          refine AllReadyH.cons rfl (fun K hK => ?_) (AllReadyH.cons rfl (fun K hK => ?_) AllReadyH.nil)
          · skip
            have q := (HO.out _ D4).cell 0
            go_simp
            clear q
            refine hK.out _ _ (HX.out _ D4) (fun hS => ?_)
            clear hK K
            refine wpAnyH_ready (rs := [9]) (by kernel_rfl) (by simp) ?_
            refine AllReadyH.cons rfl (fun K hK => ?_) AllReadyH.nil
            have D6 := D4.alloc D4.size (.cells #[.int .i64 id, .slice Ai m3 ci] 36)
            go_simp
            refine hK.out _ _ (HX.out _ D6) (fun hS => ?_)
            clear hK K
            refine wpAnyH_ready (rs := [10]) (by kernel_rfl) (by simp) ?_
            refine AllReadyH.cons rfl (fun K hK => ?_) AllReadyH.nil
            refine step_append_any _ rfl (.tmp 14) (.tmp 22) 22 rfl (w.heap.size + 1 + 1 + 1) 36 ji (.agg #[.int .i64 0, .slice none 0 0]) 2 32 Try.underlying22 hi1 hy0 hy1 hy2 rfl (by decide) (.slice A5 n5 c5) n5 (flat gnv G) rfl (HN.out _ D6).row _ (some ⟨w4.heap.size, 0, none⟩) 1 1 (flat gnv [(id, Ai, m3, ci, is)]) rfl (reads_new _ _ _ rfl (by simp)) (gnv_ones _) (by simp only [maxLen]; omega) (by omega) (Nat.le_trans HBB.out D6.size) ?_
            intro v9 w9 own9 grow9 ne9
            rw [← flat_append] at own9
            obtain ⟨A9, c9, rfl, _, _⟩ := own_reads own9
            have HF := Lib.hid (CpR.put HSR.out HX2.out D4 HOi.out HM9.out own9 grow9 ne9)
            clear own9 grow9 ne9
            refine hK.out _ _ (HF.out.1) (fun hS => ?_)
            clear hK K
            refine wpAnyH_take (i := 11) (v := .pointer (some ⟨w.heap.size + 1 + 1, 0, none⟩)) rfl (by kernel_rfl) (by kernel_rfl) (by kernel_rfl) (fun _ _ _ h => h) (Or.inl ⟨by kernel_rfl, fun u hSw => (by go_simp)⟩) hS ?_
            change wpAnyH _ _ _ _ _ _ _ (Act.put _ (some 24) _) _
            simp only [Act.put]
            refine wpAnyH_ready (rs := [12]) (by kernel_rfl) (by simp) ?_
            refine AllReadyH.cons rfl (fun K hK => ?_) AllReadyH.nil
            have k1 := HF.out.2.1.cell 0
            have f1 := HF.out.2.1.frozen 0
            go_simp
            clear k1 f1
            refine hK.out _ _ (HF.out.2.2.1) (fun hS => ?_)
            clear hK K
            refine wpAnyH_done (by kernel_rfl) ?_ _
            clear hS
            go_wp2_with fail
            go_roundw
            case rel => exact ⟨n5 + 1, A9, n5 + 1, c9, _, by omega, by go_num, HF.out.2.2.2⟩
            case measure => simp [intOf] <;> omega
          · skip
            have D6 := D4.alloc D4.size (.cells #[.int .i64 id, .slice Ai m3 ci] 36)
            go_simp
            refine hK.out _ _ (HX.out _ D6) (fun hS => ?_)
            clear hK K
            refine wpAnyH_ready (rs := [1]) (by kernel_rfl) (by simp) ?_
            refine AllReadyH.cons rfl (fun K hK => ?_) AllReadyH.nil
            have q := (HO.out _ D6).cell 0
            go_simp
            clear q
            refine hK.out _ _ (HX.out _ D6) (fun hS => ?_)
            clear hK K
            refine wpAnyH_ready (rs := [10]) (by kernel_rfl) (by simp) ?_
            refine AllReadyH.cons rfl (fun K hK => ?_) AllReadyH.nil
            refine step_append_any _ rfl (.tmp 14) (.tmp 22) 22 rfl (w.heap.size + 1 + 1 + 1) 36 ji (.agg #[.int .i64 0, .slice none 0 0]) 2 32 Try.underlying22 hi1 hy0 hy1 hy2 rfl (by decide) (.slice A5 n5 c5) n5 (flat gnv G) rfl (HN.out _ D6).row _ (some ⟨w4.heap.size, 0, none⟩) 1 1 (flat gnv [(id, Ai, m3, ci, is)]) rfl (reads_new _ _ _ rfl (by simp)) (gnv_ones _) (by simp only [maxLen]; omega) (by omega) (Nat.le_trans HBB.out D6.size) ?_
            intro v9 w9 own9 grow9 ne9
            rw [← flat_append] at own9
            obtain ⟨A9, c9, rfl, _, _⟩ := own_reads own9
            have HF := Lib.hid (CpR.put HSR.out HX2.out D4 HOi.out HM9.out own9 grow9 ne9)
            clear own9 grow9 ne9
            refine hK.out _ _ (HF.out.1) (fun hS => ?_)
            clear hK K
            refine wpAnyH_take (i := 11) (v := .pointer (some ⟨w.heap.size + 1 + 1, 0, none⟩)) rfl (by kernel_rfl) (by kernel_rfl) (by kernel_rfl) (fun _ _ _ h => h) (Or.inl ⟨by kernel_rfl, fun u hSw => (by go_simp)⟩) hS ?_
            change wpAnyH _ _ _ _ _ _ _ (Act.put _ (some 24) _) _
            simp only [Act.put]
            refine wpAnyH_ready (rs := [12]) (by kernel_rfl) (by simp) ?_
            refine AllReadyH.cons rfl (fun K hK => ?_) AllReadyH.nil
            have k1 := HF.out.2.1.cell 0
            have f1 := HF.out.2.1.frozen 0
            go_simp
            clear k1 f1
            refine hK.out _ _ (HF.out.2.2.1) (fun hS => ?_)
            clear hK K
            refine wpAnyH_done (by kernel_rfl) ?_ _
            clear hS
            go_wp2_with fail
            go_roundw
            case rel => exact ⟨n5 + 1, A9, n5 + 1, c9, _, by omega, by go_num, HF.out.2.2.2⟩
            case measure => simp [intOf] <;> omega
    · obtain rfl : k = n := by omega
      have hT : (gsM gs).take k = gsM gs := List.take_of_length_le (by rw [gsM_len, HL.out]; exact Nat.le_refl _)
      have HEQ := Lib.hid HSR.out.eq
      rw [hT] at HEQ
      have HNK : Hid (n5 ≤ 100) := Lib.hid (by have := HSR.out.nk; omega)
      have y0 := HSR.out.out.cell 0
      have x2 := HSR.out.res.cell 0
      have x3 := HSR.out.res.frozen 0
      have HP := Lib.hid (put1 (x := .slice A5 n5 c5) HSR.out.res HSR.out.bel (by omega))
      have HNN := Lib.hid (((HSR.out.no.set (g := w.heap.size + 1) (by omega) 0 (.slice A5 n5 c5)).down (by omega)) : NO (wr.setCell ⟨w.heap.size + 1, 0, none⟩ (.slice A5 n5 c5)) w.heap.size A5 n5 c5 G)
      clear hT
      go_wp2_with fail
      exact bodyPost_ret (v := .agg #[.slice A5 n5 c5]) (results_cell_row Try.results14 _ _ _ _ _ _ rfl HP.out.1 Try.underlying24 rfl (by kernel_rfl)) rfl ⟨A5, n5, c5, G, rfl, HNN.out, HEQ.out, HNK.out, HSR.out.mem, HP.out.2⟩

end Go.Proofs.Ytglphgfaknofcaa
