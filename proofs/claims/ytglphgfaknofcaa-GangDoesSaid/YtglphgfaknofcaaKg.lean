/-
  The statements' short: gangs cut, in memory of their own. No statement is proved here.
-/
import Derived.Test.YtglphgfaknofcaaKf
namespace Go.Proofs.Ytglphgfaknofcaa
open Go.RowKit Go.Maps

/-- gangs as they came in -/
structure NA (w : World) (A : Option Addr) (n : Nat) (gs : List Gn) : Prop where
  row : Reads w w.heap.size 2 A n (flat gnv gs)
  big : n ≤ maxLen
  mem : ∀ g ∈ gs, Reads w w.heap.size 1 g.2.1 g.2.2.1 (vs g.2.2.2.2) ∧ g.2.2.1 ≤ g.2.2.2.1
theorem NA.below {w w' : World} {A : Option Addr} {n : Nat} {gs : List Gn} (h : NA w A n gs) (hb : Below w.heap.size w w') : NA w' A n gs :=
  ⟨(h.row.below hb).more hb.size, h.big, fun e he => ⟨((h.mem e he).1.below hb).more hb.size, (h.mem e he).2⟩⟩
theorem NA.len {w : World} {A : Option Addr} {n : Nat} {gs : List Gn} (h : NA w A n gs) : gs.length = n := by
  have h1 := h.row.1
  rw [length_flat gnv length_gnv] at h1
  omega
theorem NA.at_ {w : World} {A : Option Addr} {n : Nat} {gs : List Gn} (h : NA w A n gs) {k : Nat} {g : Gn} (hx : gs[k]? = some g) :
    ∃ ad, A = some ad ∧ ad.block < w.heap.size ∧ w.cell? (ad.add (k * 2)) = some (.int .i64 g.1) ∧ w.cell? ⟨(ad.add (k * 2)).block, (ad.add (k * 2)).off + 1, none⟩ = some (.slice g.2.1 g.2.2.1 g.2.2.2.1) := by
  obtain ⟨ad, e, hb, hc⟩ := h.row.elem gnv length_gnv hx (by omega)
  have h0 := hc 0 _ rfl
  have h1 := hc 1 _ rfl
  rw [Nat.add_zero] at h0
  rw [add_past ad (k * 2) 0] at h1
  exact ⟨ad, e, hb, h0, h1⟩
theorem NO.na {w : World} {B : Nat} {A : Option Addr} {n c : Nat} {G : List Gn} (h : NO w B A n c G) (hn : n ≤ 100) : NA w A n G :=
  ⟨Reads.of_own h.row, by unfold maxLen; omega, fun g hg => ⟨Reads.of_own (h.mem g hg), own_nc (h.mem g hg)⟩⟩
def cutG (g : Gm) : Gm := (g.1, intsL g.2)
def shortL (l : List Gm) : List Gm := (l.map cutG).take 9
/-- gangs cut, so far -/
structure SR (w : World) (gs : List Gn) (k : Nat) (A5 : Option Addr) (n5 c5 : Nat) (G : List Gn) (wr : World) : Prop where
  out : Blk wr (w.heap.size + 1 + 1) 24 #[.slice A5 n5 c5]
  res : Blk wr (w.heap.size + 1) 24 #[.slice none 0 0]
  no : NO wr (w.heap.size + 1 + 1 + 1) A5 n5 c5 G
  eq : gsM G = shortL ((gsM gs).take k)
  n9 : n5 ≤ 9
  nk : k ≤ 9 → n5 = k
  mem : ∀ g ∈ G, g.2.2.1 ≤ 17
  bel : Below w.heap.size w wr
theorem short_next {gs : List Gn} {k : Nat} {x : Gn} (hx : gs[k]? = some x) (hk : k ≤ 8) : shortL ((gsM gs).take (k + 1)) = shortL ((gsM gs).take k) ++ [cutG (gm x)] := by
  unfold shortL
  have e : (gsM gs).take (k + 1) = (gsM gs).take k ++ [gm x] := by rw [List.take_add_one (l := gsM gs), gsM_at hx]; rfl
  rw [e, List.map_append, List.take_of_length_le (i := 9) (by simp; omega), List.take_of_length_le (i := 9) (by simp; omega)]
  rfl
theorem short_past {gs : List Gn} {k : Nat} (hk : 9 ≤ k) : shortL ((gsM gs).take (k + 1)) = shortL ((gsM gs).take k) := by
  unfold shortL
  rw [← List.map_take, ← List.map_take, List.take_take, List.take_take, Nat.min_eq_left (by omega), Nat.min_eq_left (by omega)]
theorem SR.put {w : World} {gs : List Gn} {k : Nat} {A5 : Option Addr} {n5 c5 : Nat} {G : List Gn} {wr : World} (h : SR w gs k A5 n5 c5 G wr) {id : Int} {A3 : Option Addr} {m3 c3 : Nat} {is : List Int} (hx : gs[k]? = some (id, A3, m3, c3, is)) (hk : k ≤ 8) {w4 : World} {Ai : Option Addr} {ni ci : Nat}
    (D4 : Below (wr.alloc (.cells #[.int .i64 id, .slice A3 m3 c3] 36)).heap.size (wr.alloc (.cells #[.int .i64 id, .slice A3 m3 c3] 36)) w4) (Oi : w4.ownsRow (wr.alloc (.cells #[.int .i64 id, .slice A3 m3 c3] 36)).heap.size 3 1 (.slice Ai ni ci) ni (vs (intsL is))) (h17 : ni ≤ 17)
    {w9 : World} {A9 : Option Addr} {c9 : Nat} (own9 : w9.ownsRow (w.heap.size + 1 + 1 + 1) 36 2 (.slice A9 (n5 + 1) c9) (n5 + 1) (flat gnv (G ++ [(id, Ai, ni, ci, intsL is)]))) (grow9 : (w4.alloc (.cells #[.int .i64 id, .slice Ai ni ci] 36)).grownBy w9 (Value.slice A5 n5 c5).ownBlock)
    (ne9 : (Value.slice A9 (n5 + 1) c9).ownBlock = (Value.slice A5 n5 c5).ownBlock ∨ (Value.slice A9 (n5 + 1) c9).ownBlock = some (w4.alloc (.cells #[.int .i64 id, .slice Ai ni ci] 36)).heap.size) :
    Blk w9 wr.heap.size 36 #[.int .i64 id, .slice A3 m3 c3] ∧ Blk w9 (w.heap.size + 1 + 1) 24 #[.slice A5 n5 c5] ∧ Blk (w9.setCell ⟨w.heap.size + 1 + 1, 0, none⟩ (.slice A9 (n5 + 1) c9)) wr.heap.size 36 #[.int .i64 id, .slice A3 m3 c3] ∧ Hid (SR w gs (k + 1) A9 (n5 + 1) c9 (G ++ [(id, Ai, ni, ci, intsL is)]) (w9.setCell ⟨w.heap.size + 1 + 1, 0, none⟩ (.slice A9 (n5 + 1) c9))) := by
  have DA := (Below.refl wr.heap.size wr).alloc (Nat.le_refl _) (.cells #[.int .i64 id, .slice A3 m3 c3] 36)
  have DX := (Below.refl w4.heap.size w4).alloc (Nat.le_refl _) (.cells #[.int .i64 id, .slice Ai ni ci] 36)
  have DV := D4.trans (DX.mono D4.size)
  have DW := DA.trans (DV.mono DA.size)
  have hob : w.heap.size + 1 + 1 < wr.heap.size := h.out.lt
  have hrow : ∀ j, (Value.slice A5 n5 c5).ownBlock = some j → w.heap.size + 1 + 1 + 1 ≤ j ∧ j < wr.heap.size := fun j hj => h.no.row.lt j hj
  have KX := (Blk.new wr 36 #[.int .i64 id, .slice A3 m3 c3]).below DV (by simp)
  have hX9 := KX.grown grow9 (fun e => by have := (hrow _ e.symm).2; omega)
  have hO9 := (h.out.below DW h.out.lt).grown grow9 (fun e => by have := (hrow _ e.symm).1; omega)
  have hR9 := (h.res.below DW h.res.lt).grown grow9 (fun e => by have := (hrow _ e.symm).1; omega)
  have hb9 := (h.bel.trans (DW.mono h.bel.size)).grown grow9 (Nat.le_trans h.bel.size DW.size) (fun j hj => by have := (hrow j hj).1; omega)
  have e : G.take n5 ++ (id, Ai, ni, ci, intsL is) :: G.drop n5 = G ++ [(id, Ai, ni, ci, intsL is)] := by
    rw [List.take_of_length_le (Nat.le_of_eq h.no.len), List.drop_of_length_le (Nat.le_of_eq h.no.len)]
  have hN9 := (h.no.below DA).ins (k := n5) (x := (id, Ai, ni, ci, intsL is)) DV (Oi.alloc _) (Nat.le_refl _) (Nat.le_trans (by omega) DA.size) grow9 (by rw [e]; exact own9) (fun j hj => by
    rcases ne9 with h1 | h1
    · rw [h1] at hj; exact .inl hj
    · rw [h1] at hj; injection hj with hj; exact .inr (by omega))
  rw [e] at hN9
  have hP := put1 (x := .slice A9 (n5 + 1) c9) hO9 hb9 (by omega)
  have hnk := h.nk (by omega)
  refine ⟨hX9, hO9, hX9.far (p := ⟨w.heap.size + 1 + 1, 0, none⟩) (by simp; omega) _, Lib.hid ⟨hP.1, hR9.far (p := ⟨w.heap.size + 1 + 1, 0, none⟩) (by simp) _, hN9.set (by omega) 0 _, ?_, by omega, fun _ => by omega, fun g hg => ?_, hP.2⟩⟩
  · rw [short_next hx hk, ← h.eq]
    unfold gsM
    rw [List.map_append]
    rfl
  · rcases List.mem_append.1 hg with hg | hg
    · exact h.mem g hg
    · rw [List.mem_singleton] at hg
      subst hg
      exact h17
def ShortSaid (gs : List Gn) (w : World) (e : Ending) (w' : World) : Prop := ∃ A n c G, e = .returned (.agg #[.slice A n c]) ∧ NO w' w.heap.size A n c G ∧ gsM G = shortL (gsM gs) ∧ n ≤ 9 ∧ (∀ g ∈ G, g.2.2.1 ≤ 17) ∧ Below w.heap.size w w'

set_option maxRecDepth 100000 in
set_option maxHeartbeats 16000000 in
theorem short_any (A : Option Addr) (n c : Nat) (gs : List Gn) (w : World) (hG : NA w A n gs) : Calls Try.prog 10 #[.agg #[.slice A n c]] w (ShortSaid gs w) := by
  obtain ⟨ji, hi1, hy0, hy1, hy2⟩ := info_parts9 gang_info
  obtain ⟨K0, K1, K2, GB⟩ := blks3 w 24 24 24 #[.slice A n c] #[.slice none 0 0] #[.slice none 0 0]
  have HG := Lib.hid hG
  have HL := Lib.hid hG.len
  have hn2 : n ≤ 9223372036854775807 := by have := hG.big; unfold maxLen at this; omega
  have c0 := K0.cell 0
  have HSR : Hid (SR w gs 0 none 0 0 [] (((w.alloc (.cells #[.slice A n c] 24)).alloc (.cells #[.slice none 0 0] 24)).alloc (.cells #[.slice none 0 0] 24))) := Lib.hid ⟨K2, K1, no_none _ _, rfl, by omega, fun _ => rfl, fun g hg => (by cases hg), GB⟩
  clear hG K0 K1 K2 GB
  go_enter Try.func10, Try.ntmps10
  go_wp2_with fail
  clear c0
  generalize ((w.alloc (.cells #[.slice A n c] 24)).alloc (.cells #[.slice none 0 0] 24)).alloc (.cells #[.slice none 0 0] 24) = w0 at *
  go_loopw [9] (fun iv wr => ∃ (k : Nat) (A5 : Option Addr) (n5 c5 : Nat) (G : List Gn), k ≤ n ∧ iv = .int .i64 (k : Int) ∧ Hid (SR w gs k A5 n5 c5 G wr)) (fun iv _ => n - (intOf iv).toNat)
  case atStart => exact ⟨0, none, 0, 0, [], by omega, rfl, HSR⟩
  case round =>
    clear HSR
    obtain ⟨k, A5, n5, c5, G, hk, rfl, HSR⟩ := hrel
    by_cases hlt : k < n
    · obtain ⟨⟨id, A3, m3, c3, is⟩, hx⟩ := elem_at (l := gs) (k := k) (by rw [HL.out]; exact hlt)
      have hG1 := HG.out.below HSR.out.bel
      obtain ⟨ad, rfl, _, d0, d1⟩ := hG1.at_ hx
      have hM := hG1.mem _ (List.mem_of_getElem? hx)
      have HX2 := Lib.hid hx
      have i1 : (0 : Int) ≤ (k : Int) := by omega
      have i2 : (k : Int) < (n : Int) := by omega
      by_cases h8 : k ≤ 8
      · have q8 : decide ((k : Int) ≤ 8) = true := decide_eq_true (by omega)
        have hk8 : k ≤ 8 := h8
        obtain rfl : n5 = k := HSR.out.nk (by omega)
        have DA := (Below.refl wr.heap.size wr).alloc (Nat.le_refl _) (.cells #[.int .i64 id, .slice A3 m3 c3] 36)
        have KX := Blk.new wr 36 #[.int .i64 id, .slice A3 m3 c3]
        have x0 := KX.cell 0
        have x1 := KX.cell 1
        have HX := Lib.hid (fun (u : World) (hu : Below (wr.alloc (.cells #[.int .i64 id, .slice A3 m3 c3] 36)).heap.size (wr.alloc (.cells #[.int .i64 id, .slice A3 m3 c3] 36)) u) => KX.below hu KX.lt)
        have hO1 := HSR.out.out.below DA HSR.out.out.lt
        have HO := Lib.hid (fun (u : World) (hu : Below (wr.alloc (.cells #[.int .i64 id, .slice A3 m3 c3] 36)).heap.size (wr.alloc (.cells #[.int .i64 id, .slice A3 m3 c3] 36)) u) => hO1.below hu hO1.lt)
        have hN1 := HSR.out.no.below DA
        have HN := Lib.hid (fun (u : World) (hu : Below (wr.alloc (.cells #[.int .i64 id, .slice A3 m3 c3] 36)).heap.size (wr.alloc (.cells #[.int .i64 id, .slice A3 m3 c3] 36)) u) => hN1.below hu)
        have hR1 := (hM.1.below DA).more DA.size
        have HIn := Lib.hid (fun (u : World) (hu : Below (wr.alloc (.cells #[.int .i64 id, .slice A3 m3 c3] 36)).heap.size (wr.alloc (.cells #[.int .i64 id, .slice A3 m3 c3] 36)) u) => ints_any A3 m3 c3 is u ((hR1.below hu).more hu.size) hM.2)
        have D0 := (Below.refl (wr.alloc (.cells #[.int .i64 id, .slice A3 m3 c3] 36)).heap.size (wr.alloc (.cells #[.int .i64 id, .slice A3 m3 c3] 36))).drew
        have HBB : Hid (w.heap.size + 1 + 1 + 1 ≤ (wr.alloc (.cells #[.int .i64 id, .slice A3 m3 c3] 36)).heap.size) := Lib.hid (Nat.le_trans HSR.out.out.lt DA.size)
        clear hx hM hG1 DA KX hO1 hN1 hR1 h8
        go_upto_region 6 with fail
        clear d0 d1 x0 x1
        refine wp_region_held_drew (S := fun u => Blk u wr.heap.size 36 #[.int .i64 id, .slice A3 m3 c3]) (by kernel_rfl) (HX.out _ D0) (fun hS => ?_)
        refine wpAnyH_take (i := 0) (v := .pointer (some ⟨w.heap.size + 1 + 1, 0, none⟩)) rfl (by kernel_rfl) (by kernel_rfl) (by kernel_rfl) (fun _ _ _ h => h) (Or.inl ⟨by kernel_rfl, fun u hSw => (by go_simp)⟩) hS ?_
        change wpAnyH _ _ _ _ _ _ _ (Act.put _ (some 16) _) _
        simp only [Act.put]
        refine wpAnyH_take (i := 2) (v := .pointer (some ⟨wr.heap.size, 0, none⟩)) rfl (by kernel_rfl) (by kernel_rfl) (by kernel_rfl) (fun _ _ _ h => h) (Or.inl ⟨by kernel_rfl, fun u hSw => (by go_simp)⟩) hS ?_
        change wpAnyH _ _ _ _ _ _ _ (Act.put _ (some 18) _) _
        simp only [Act.put]
        refine wpAnyH_take (i := 3) (v := .int .i64 id) rfl (by kernel_rfl) (by kernel_rfl) (by kernel_rfl) (fun _ _ _ h => h) (Or.inl ⟨by kernel_rfl, fun u hSw => (by have q := hSw.cell 0; go_simp)⟩) hS ?_
        change wpAnyH _ _ _ _ _ _ _ (Act.put _ (some 19) _) _
        simp only [Act.put]
        refine wpAnyH_take (i := 4) (v := .pointer (some ⟨wr.heap.size, 1, none⟩)) rfl (by kernel_rfl) (by kernel_rfl) (by kernel_rfl) (fun _ _ _ h => h) (Or.inl ⟨by kernel_rfl, fun u hSw => (by go_simp)⟩) hS ?_
        change wpAnyH _ _ _ _ _ _ _ (Act.put _ (some 20) _) _
        simp only [Act.put]
        refine wpAnyH_take (i := 5) (v := .slice A3 m3 c3) rfl (by kernel_rfl) (by kernel_rfl) (by kernel_rfl) (fun _ _ _ h => h) (Or.inl ⟨by kernel_rfl, fun u hSw => (by have q := hSw.cell 1; go_simp)⟩) hS ?_
        change wpAnyH _ _ _ _ _ _ _ (Act.put _ (some 21) _) _
        simp only [Act.put]
        refine wpAnyH_ready (rs := [1, 6]) (by kernel_rfl) (by simp) ?_
        refine AllReadyH.cons rfl (fun K hK => ?_) (AllReadyH.cons rfl (fun K hK => ?_) AllReadyH.nil)
        · skip
          have q := (HO.out _ D0).cell 0
          go_simp
          clear q
          refine hK.out _ _ (HX.out _ D0) (fun hS => ?_)
          clear hK K
          refine wpAnyH_ready (rs := [6]) (by kernel_rfl) (by simp) ?_
          refine AllReadyH.cons rfl (fun K hK => ?_) AllReadyH.nil
          go_simp
          refine (HIn.out _ D0).mono ?_
          rintro e w4 ⟨Ai, ni, ci, rfl, h17, Oi, h4⟩
          have D4 := D0.trans (h4.mono D0.size)
          have HOi := Lib.hid Oi
          go_wp2_with fail
          clear h4 Oi
          refine hK.out _ _ (HX.out _ D4) (fun hS => ?_)
          clear hK K
          refine wpAnyH_take (i := 7) (v := .agg #[.int .i64 id, .slice Ai ni ci]) rfl (by kernel_rfl) (by kernel_rfl) (by kernel_rfl) (fun _ _ _ h => h) (Or.inl ⟨by kernel_rfl, fun u hSw => (by go_simp)⟩) hS ?_
          change wpAnyH _ _ _ _ _ _ _ (Act.put _ (some 23) _) _
          simp only [Act.put]
          refine wpAnyH_ready (rs := [8]) (by kernel_rfl) (by simp) ?_
          refine AllReadyH.cons rfl (fun K hK => ?_) AllReadyH.nil
          have D5 := D4.alloc D4.size (.cells #[.int .i64 id, .slice Ai ni ci] 36)
          go_simp
          refine hK.out _ _ (HX.out _ D5) (fun hS => ?_)
          clear hK K
          refine wpAnyH_ready (rs := [9]) (by kernel_rfl) (by simp) ?_
          refine AllReadyH.cons rfl (fun K hK => ?_) AllReadyH.nil
          refine step_append_any _ rfl (.tmp 17) (.tmp 24) 22 rfl (w.heap.size + 1 + 1 + 1) 36 ji (.agg #[.int .i64 0, .slice none 0 0]) 2 32 Try.underlying22 hi1 hy0 hy1 hy2 rfl (by decide) (.slice A5 n5 c5) n5 (flat gnv G) rfl (HN.out _ D5).row _ (some ⟨w4.heap.size, 0, none⟩) 1 1 (flat gnv [(id, Ai, ni, ci, intsL is)]) rfl (reads_new _ _ _ rfl (by simp)) (gnv_ones _) (by simp only [maxLen]; omega) (by omega) (Nat.le_trans HBB.out D5.size) ?_
          intro v9 w9 own9 grow9 ne9
          rw [← flat_append] at own9
          obtain ⟨A9, c9, rfl, _, _⟩ := own_reads own9
          have HF := Lib.hid (HSR.out.put HX2.out hk8 D4 HOi.out h17 own9 grow9 ne9)
          clear own9 grow9 ne9
          refine hK.out _ _ (HF.out.1) (fun hS => ?_)
          clear hK K
          refine wpAnyH_take (i := 10) (v := .pointer (some ⟨w.heap.size + 1 + 1, 0, none⟩)) rfl (by kernel_rfl) (by kernel_rfl) (by kernel_rfl) (fun _ _ _ h => h) (Or.inl ⟨by kernel_rfl, fun u hSw => (by go_simp)⟩) hS ?_
          change wpAnyH _ _ _ _ _ _ _ (Act.put _ (some 26) _) _
          simp only [Act.put]
          refine wpAnyH_ready (rs := [11]) (by kernel_rfl) (by simp) ?_
          refine AllReadyH.cons rfl (fun K hK => ?_) AllReadyH.nil
          have k1 := HF.out.2.1.cell 0
          have f1 := HF.out.2.1.frozen 0
          go_simp
          clear k1 f1
          refine hK.out _ _ (HF.out.2.2.1) (fun hS => ?_)
          clear hK K
          refine wpAnyH_done (by kernel_rfl) ?_ _
          clear hS
          go_wp2_with fail
          go_roundw
          case rel => exact ⟨n5 + 1, A9, n5 + 1, c9, _, by omega, by go_num, HF.out.2.2.2⟩
          case measure => simp [intOf] <;> omega
        · skip
          go_simp
          refine (HIn.out _ D0).mono ?_
          rintro e w4 ⟨Ai, ni, ci, rfl, h17, Oi, h4⟩
          have D4 := D0.trans (h4.mono D0.size)
          have HOi := Lib.hid Oi
          go_wp2_with fail
          clear h4 Oi
          refine hK.out _ _ (HX.out _ D4) (fun hS => ?_)
          clear hK K
          refine wpAnyH_take (i := 7) (v := .agg #[.int .i64 id, .slice Ai ni ci]) rfl (by kernel_rfl) (by kernel_rfl) (by kernel_rfl) (fun _ _ _ h => h) (Or.inl ⟨by kernel_rfl, fun u hSw => (by go_simp)⟩) hS ?_
          change wpAnyH _ _ _ _ _ _ _ (Act.put _ (some 23) _) _
          simp only [Act.put]
          refine wpAnyH_ready (rs := [1, 8]) (by kernel_rfl) (by simp) ?_
          refine AllReadyH.cons rfl (fun K hK => ?_) (AllReadyH.cons rfl (fun K hK => ?_) AllReadyH.nil)
          · skip
            have q := (HO.out _ D4).cell 0
            go_simp
            clear q
            refine hK.out _ _ (HX.out _ D4) (fun hS => ?_)
            clear hK K
            refine wpAnyH_ready (rs := [8]) (by kernel_rfl) (by simp) ?_
            refine AllReadyH.cons rfl (fun K hK => ?_) AllReadyH.nil
            have D5 := D4.alloc D4.size (.cells #[.int .i64 id, .slice Ai ni ci] 36)
            go_simp
            refine hK.out _ _ (HX.out _ D5) (fun hS => ?_)
            clear hK K
            refine wpAnyH_ready (rs := [9]) (by kernel_rfl) (by simp) ?_
            refine AllReadyH.cons rfl (fun K hK => ?_) AllReadyH.nil
            refine step_append_any _ rfl (.tmp 17) (.tmp 24) 22 rfl (w.heap.size + 1 + 1 + 1) 36 ji (.agg #[.int .i64 0, .slice none 0 0]) 2 32 Try.underlying22 hi1 hy0 hy1 hy2 rfl (by decide) (.slice A5 n5 c5) n5 (flat gnv G) rfl (HN.out _ D5).row _ (some ⟨w4.heap.size, 0, none⟩) 1 1 (flat gnv [(id, Ai, ni, ci, intsL is)]) rfl (reads_new _ _ _ rfl (by simp)) (gnv_ones _) (by simp only [maxLen]; omega) (by omega) (Nat.le_trans HBB.out D5.size) ?_
            intro v9 w9 own9 grow9 ne9
            rw [← flat_append] at own9
            obtain ⟨A9, c9, rfl, _, _⟩ := own_reads own9
            have HF := Lib.hid (HSR.out.put HX2.out hk8 D4 HOi.out h17 own9 grow9 ne9)
            clear own9 grow9 ne9
            refine hK.out _ _ (HF.out.1) (fun hS => ?_)
            clear hK K
            refine wpAnyH_take (i := 10) (v := .pointer (some ⟨w.heap.size + 1 + 1, 0, none⟩)) rfl (by kernel_rfl) (by kernel_rfl) (by kernel_rfl) (fun _ _ _ h => h) (Or.inl ⟨by kernel_rfl, fun u hSw => (by go_simp)⟩) hS ?_
            change wpAnyH _ _ _ _ _ _ _ (Act.put _ (some 26) _) _
            simp only [Act.put]
            refine wpAnyH_ready (rs := [11]) (by kernel_rfl) (by simp) ?_
            refine AllReadyH.cons rfl (fun K hK => ?_) AllReadyH.nil
            have k1 := HF.out.2.1.cell 0
            have f1 := HF.out.2.1.frozen 0
            go_simp
            clear k1 f1
            refine hK.out _ _ (HF.out.2.2.1) (fun hS => ?_)
            clear hK K
            refine wpAnyH_done (by kernel_rfl) ?_ _
            clear hS
            go_wp2_with fail
            go_roundw
            case rel => exact ⟨n5 + 1, A9, n5 + 1, c9, _, by omega, by go_num, HF.out.2.2.2⟩
            case measure => simp [intOf] <;> omega
          · skip
            have D5 := D4.alloc D4.size (.cells #[.int .i64 id, .slice Ai ni ci] 36)
            go_simp
            refine hK.out _ _ (HX.out _ D5) (fun hS => ?_)
            clear hK K
            refine wpAnyH_ready (rs := [1]) (by kernel_rfl) (by simp) ?_
            refine AllReadyH.cons rfl (fun K hK => ?_) AllReadyH.nil
            have q := (HO.out _ D5).cell 0
            go_simp
            clear q
            refine hK.out _ _ (HX.out _ D5) (fun hS => ?_)
            clear hK K
            refine wpAnyH_ready (rs := [9]) (by kernel_rfl) (by simp) ?_
            refine AllReadyH.cons rfl (fun K hK => ?_) AllReadyH.nil
            refine step_append_any _ rfl (.tmp 17) (.tmp 24) 22 rfl (w.heap.size + 1 + 1 + 1) 36 ji (.agg #[.int .i64 0, .slice none 0 0]) 2 32 Try.underlying22 hi1 hy0 hy1 hy2 rfl (by decide) (.slice A5 n5 c5) n5 (flat gnv G) rfl (HN.out _ D5).row _ (some ⟨w4.heap.size, 0, none⟩) 1 1 (flat gnv [(id, Ai, ni, ci, intsL is)]) rfl (reads_new _ _ _ rfl (by simp)) (gnv_ones _) (by simp only [maxLen]; omega) (by omega) (Nat.le_trans HBB.out D5.size) ?_
            intro v9 w9 own9 grow9 ne9
            rw [← flat_append] at own9
            obtain ⟨A9, c9, rfl, _, _⟩ := own_reads own9
            have HF := Lib.hid (HSR.out.put HX2.out hk8 D4 HOi.out h17 own9 grow9 ne9)
            clear own9 grow9 ne9
            refine hK.out _ _ (HF.out.1) (fun hS => ?_)
            clear hK K
            refine wpAnyH_take (i := 10) (v := .pointer (some ⟨w.heap.size + 1 + 1, 0, none⟩)) rfl (by kernel_rfl) (by kernel_rfl) (by kernel_rfl) (fun _ _ _ h => h) (Or.inl ⟨by kernel_rfl, fun u hSw => (by go_simp)⟩) hS ?_
            change wpAnyH _ _ _ _ _ _ _ (Act.put _ (some 26) _) _
            simp only [Act.put]
            refine wpAnyH_ready (rs := [11]) (by kernel_rfl) (by simp) ?_
            refine AllReadyH.cons rfl (fun K hK => ?_) AllReadyH.nil
            have k1 := HF.out.2.1.cell 0
            have f1 := HF.out.2.1.frozen 0
            go_simp
            clear k1 f1
            refine hK.out _ _ (HF.out.2.2.1) (fun hS => ?_)
            clear hK K
            refine wpAnyH_done (by kernel_rfl) ?_ _
            clear hS
            go_wp2_with fail
            go_roundw
            case rel => exact ⟨n5 + 1, A9, n5 + 1, c9, _, by omega, by go_num, HF.out.2.2.2⟩
            case measure => simp [intOf] <;> omega
      · have q8 : decide ((k : Int) ≤ 8) = false := decide_eq_false (by omega)
        have HS2 : Hid (SR w gs (k + 1) A5 n5 c5 G (wr.alloc (.cells #[.int .i64 id, .slice A3 m3 c3] 36))) := Lib.hid (by
          have h := HSR.out
          have DA := (Below.refl wr.heap.size wr).alloc (Nat.le_refl _) (.cells #[.int .i64 id, .slice A3 m3 c3] 36)
          exact ⟨h.out.alloc _, h.res.alloc _, h.no.below DA, by rw [short_past (by omega)]; exact h.eq, h.n9, fun h => by omega, h.mem, h.bel.trans (DA.mono h.bel.size)⟩)
        clear hx hM hG1 h8
        go_wp2_with fail
        go_roundw
        case rel => exact ⟨k + 1, A5, n5, c5, G, by omega, by go_num, HS2⟩
        case measure => simp [intOf] <;> omega
    · obtain rfl : k = n := by omega
      have hT : (gsM gs).take k = gsM gs := List.take_of_length_le (by rw [gsM_len, HL.out]; exact Nat.le_refl _)
      have HEQ := Lib.hid HSR.out.eq
      rw [hT] at HEQ
      have y0 := HSR.out.out.cell 0
      have x2 := HSR.out.res.cell 0
      have x3 := HSR.out.res.frozen 0
      have HP := Lib.hid (put1 (x := .slice A5 n5 c5) HSR.out.res HSR.out.bel (by omega))
      have HNN := Lib.hid (((HSR.out.no.set (g := w.heap.size + 1) (by omega) 0 (.slice A5 n5 c5)).down (by omega)) : NO (wr.setCell ⟨w.heap.size + 1, 0, none⟩ (.slice A5 n5 c5)) w.heap.size A5 n5 c5 G)
      clear hT
      go_wp2_with fail
      exact bodyPost_ret (v := .agg #[.slice A5 n5 c5]) (results_cell_row Try.results10 _ _ _ _ _ _ rfl HP.out.1 Try.underlying24 rfl (by kernel_rfl)) rfl ⟨A5, n5, c5, G, rfl, HNN.out, HEQ.out, HSR.out.n9, HSR.out.mem, HP.out.2⟩

end Go.Proofs.Ytglphgfaknofcaa
