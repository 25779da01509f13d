/-
  The document's In, Weights. No statement is proved here.
-/
import Derived.Test.YtknimnopopnbhaaEe
import Derived.Deep.DeepCutAuto
namespace Go.Proofs.Ytknimnopopnbhaa
open Go.RowKit

set_option maxRecDepth 100000 in
set_option maxHeartbeats 8000000 in
theorem rinG_any (A : Option Addr) (n c : Nat) (ds : List Dom) (B : Option Addr) (m d : Nat) (us : List Vc) (pool : Int) (w : World) (hG : GR w A n c ds B m d us) :
    Calls Try.prog 40 #[.agg #[.slice A n c, .slice B m d], .int .i64 pool] w (LL (inL ds us pool) w) := by
  obtain ⟨i0, hi0, hz0, hz1, hz2⟩ := info_parts9 int_info
  have HL := Lib.hid hG.len.2
  have HR := Lib.hid hG.vcs
  have HN := Lib.hid hG.m9
  have HDG := Lib.hid (fun (id : Int) (u : World) (h : Below w.heap.size w u) => rdom_any A n c ds B m d us id u (hG.below h))
  have HK := Lib.hid (box1 w 25 #[.slice A n c, .slice B m d])
  clear hG
  obtain ⟨p, hp⟩ : ∃ p : Vc → Bool, (fun v => (domV ds v.2.1).1.2.2.2 == pool) = p := ⟨_, rfl⟩
  rw [show inL ds us pool = idsL p us by rw [← hp]; rfl]
  have HPp : Hid (∀ v : Vc, ((domV ds v.2.1).1.2.2.2 == pool) = p v) := Lib.hid (fun v => by rw [← hp])
  clear hp
  go_enter Try.func40, Try.ntmps40
  go_wp2_with fail
  go_loopw [5, 6] (fun v i wr => ∃ k q : Nat, k ≤ m ∧ i = .int .i64 (k : Int) ∧ Hid (q = (idsL p (us.take k)).length) ∧ Hid (wr.ownsRow (w.heap.size + 1) 3 1 v q (vs (idsL p (us.take k)))) ∧ Blk wr w.heap.size 25 #[.slice A n c, .slice B m d] ∧ Below w.heap.size w wr) (fun _ i _ => m - (intOf i).toNat)
  case atStart => exact ⟨0, 0, by omega, rfl, Lib.hid rfl, Lib.hid (World.ownsRow_nil _ _ _ _), HK.out.1, HK.out.2⟩
  case round =>
    obtain ⟨k, q, hk, rfl, Hq, HO, K, hB⟩ := hrel
    by_cases hlt : k < m
    · obtain ⟨⟨a, b, h, s⟩, hx⟩ := elem_at (l := us) (k := k) (by rw [HL.out]; exact hlt)
      obtain ⟨ad, rfl, hb, c0, c1, _, _⟩ := vc_at (HR.out.below hB) hx
      have hF := idsL_step (p := p) hx
      have HC0 := Lib.hid (fun (u : World) (h : Below wr.heap.size wr u) => (h.cell (p := ad.add (k * 4)) (World.block_lt_of_cell? wr _ c0)).trans c0)
      have j0 : (0 : Int) ≤ (k : Int) := by omega
      have j1 : (k : Int) < (m : Int) := by omega
      have m9 : k < 1000 := by have := HN.out; omega
      have q9 : q ≤ 1000 := by
        have h1 := idsL_le p (us.take k)
        rw [List.length_take] at h1
        rw [Hq.out]
        omega
      obtain ⟨⟨⟨y1, y2, y3, y4⟩, yb⟩, hy⟩ : ∃ y, domV ds b = y := ⟨_, rfl⟩
      have HDm := Lib.hid (fun (u : World) (h : Below w.heap.size w u) => hy ▸ HDG.out b u h)
      have HPv : Hid ((y4 == pool) = p (a, b, h, s)) := Lib.hid (by rw [← HPp.out]; show _ = ((domV ds b).1.2.2.2 == pool); rw [hy])
      clear hx hy
      obtain ⟨A2, c2, rfl, _, _⟩ := own_reads HO.out
      have HX := Lib.hid (fun (u : World) (h : Below wr.heap.size wr u) => And.intro (K.below h K.lt) ((h.cell (p := ⟨(ad.add (k * 4)).block, (ad.add (k * 4)).off + 1, none⟩) (by have := World.block_lt_of_cell? wr _ c1; exact this)).trans c1))
      have HBW := Lib.hid (fun (u : World) (h : Below wr.heap.size wr u) => hB.trans (h.mono hB.size))
      have kz := K.cell 1
      go_upto_region 5 with fail
      clear kz
      go_cut [7, 8] (fun s7 s8 X => ∃ gD : Nat, s7 = .pointer (some ⟨gD, 0, none⟩) ∧ s8 = .bool yb ∧ Blk X gD 27 #[.int .i64 y1, .int .i64 y2, .int .i64 y3, .int .i64 y4] ∧ wr.heap.size ≤ gD ∧ Below wr.heap.size wr X)
      case first =>
        have D := (Below.refl wr.heap.size wr).drew
        refine wp_region_held_drew (S := fun u => Below wr.heap.size wr u) (by kernel_rfl) D (fun hS => ?_)
        generalize wr.drew = V at D hS ⊢
        refine wpAnyH_take (i := 0) (v := .agg #[.slice A n c, .slice (some ad) m d]) rfl (by kernel_rfl) (by kernel_rfl) (by kernel_rfl) (fun _ _ _ h => h) (Or.inl ⟨by kernel_rfl, fun u hSw => (by have q0 := (HX.out u hSw).1.cell 0; have q1 := (HX.out u hSw).1.cell 1; go_simp)⟩) hS ?_
        change wpAnyH _ _ _ _ _ _ _ (Act.put _ (some 17) _) _
        simp only [Act.put]
        refine wpAnyH_take (i := 1) (v := .pointer (some ⟨w.heap.size, 1, none⟩)) rfl (by kernel_rfl) (by kernel_rfl) (by kernel_rfl) (fun _ _ _ h => h) (Or.inl ⟨by kernel_rfl, fun u hSw => (by go_simp)⟩) hS ?_
        change wpAnyH _ _ _ _ _ _ _ (Act.put _ (some 18) _) _
        simp only [Act.put]
        refine wpAnyH_take (i := 2) (v := .slice (some ad) m d) rfl (by kernel_rfl) (by kernel_rfl) (by kernel_rfl) (fun _ _ _ h => h) (Or.inl ⟨by kernel_rfl, fun u hSw => (by have q0 := (HX.out u hSw).1.cell 1; go_simp)⟩) hS ?_
        change wpAnyH _ _ _ _ _ _ _ (Act.put _ (some 19) _) _
        simp only [Act.put]
        refine wpAnyH_take (i := 3) (v := .int .i64 (k : Int)) rfl (by kernel_rfl) (by kernel_rfl) (by kernel_rfl) (fun _ _ _ h => h) (Or.inl ⟨by kernel_rfl, fun u hSw => (by go_simp)⟩) hS ?_
        change wpAnyH _ _ _ _ _ _ _ (Act.put _ (some 20) _) _
        simp only [Act.put]
        refine wpAnyH_take (i := 4) (v := .pointer (some (ad.add (k * 4)))) rfl (by kernel_rfl) (by kernel_rfl) (by kernel_rfl) (fun _ _ _ h => h) (Or.inl ⟨by kernel_rfl, fun u hSw => (by go_simp)⟩) hS ?_
        change wpAnyH _ _ _ _ _ _ _ (Act.put _ (some 21) _) _
        simp only [Act.put]
        refine wpAnyH_take (i := 5) (v := .pointer (some ⟨(ad.add (k * 4)).block, (ad.add (k * 4)).off + 1, none⟩)) rfl (by kernel_rfl) (by kernel_rfl) (by kernel_rfl) (fun _ _ _ h => h) (Or.inl ⟨by kernel_rfl, fun u hSw => (by go_simp)⟩) hS ?_
        change wpAnyH _ _ _ _ _ _ _ (Act.put _ (some 22) _) _
        simp only [Act.put]
        refine wpAnyH_take (i := 6) (v := .int .i64 b) rfl (by kernel_rfl) (by kernel_rfl) (by kernel_rfl) (fun _ _ _ h => h) (Or.inl ⟨by kernel_rfl, fun u hSw => (by have q := (HX.out u hSw).2; go_simp)⟩) hS ?_
        change wpAnyH _ _ _ _ _ _ _ (Act.put _ (some 23) _) _
        simp only [Act.put]
        refine wpAnyH_ready (rs := [7, 11]) (by kernel_rfl) (by simp) ?_
        refine AllReadyH.cons rfl (fun K hK => ?_) (AllReadyH.cons rfl (fun K hK => ?_) (AllReadyH.nil))
        · skip
          go_simp
          refine (HDm.out _ (HBW.out _ D)).mono ?_
          rintro e1 w1 ⟨rfl, h9⟩
          replace D := D.trans (h9.mono D.size)
          clear h9
          refine hK.out _ _ D (fun hS => ?_)
          clear hK K
          refine wpAnyH_take (i := 8) (v := .tuple #[.agg #[.int .i64 y1, .int .i64 y2, .int .i64 y3, .int .i64 y4], .bool yb]) rfl (by kernel_rfl) (by kernel_rfl) (by kernel_rfl) (fun _ _ _ h => h) (Or.inl ⟨by kernel_rfl, fun u hSw => (by go_simp)⟩) hS ?_
          change wpAnyH _ _ _ _ _ _ _ (Act.put _ (some 16) _) _
          simp only [Act.put]
          refine wpAnyH_take (i := 9) (v := .agg #[.int .i64 y1, .int .i64 y2, .int .i64 y3, .int .i64 y4]) rfl (by kernel_rfl) (by kernel_rfl) (by kernel_rfl) (fun _ _ _ h => h) (Or.inl ⟨by kernel_rfl, fun u hSw => (by go_simp)⟩) hS ?_
          change wpAnyH _ _ _ _ _ _ _ (Act.put _ (some 25) _) _
          simp only [Act.put]
          refine wpAnyH_take (i := 10) (v := .bool yb) rfl (by kernel_rfl) (by kernel_rfl) (by kernel_rfl) (fun _ _ _ h => h) (Or.inl ⟨by kernel_rfl, fun u hSw => (by go_simp)⟩) hS ?_
          change wpAnyH _ _ _ _ _ _ _ (Act.put _ (some 26) _) _
          simp only [Act.put]
          refine wpAnyH_ready (rs := [11]) (by kernel_rfl) (by simp) ?_
          refine AllReadyH.cons rfl (fun K hK => ?_) AllReadyH.nil
          go_simp
          have KD := Blk.new w1 27 #[.int .i64 0, .int .i64 0, .int .i64 0, .int .i64 0]
          have lD := D.size
          replace D := D.alloc D.size (.cells #[.int .i64 0, .int .i64 0, .int .i64 0, .int .i64 0] 27)
          refine hK.out _ _ D (fun hS => ?_)
          clear hK K
          generalize w1.alloc (.cells #[.int .i64 0, .int .i64 0, .int .i64 0, .int .i64 0] 27) = U2 at KD D hS ⊢
          generalize w1.heap.size = gD at KD lD ⊢
          refine wpAnyH_ready (rs := [12]) (by kernel_rfl) (by simp) ?_
          refine AllReadyH.cons rfl (fun K hK => ?_) AllReadyH.nil
          have d0 := KD.cell 0
          have f0 := KD.frozen 0
          have d1 := KD.cell 1
          have f1 := KD.frozen 1
          have d2 := KD.cell 2
          have f2 := KD.frozen 2
          have d3 := KD.cell 3
          have f3 := KD.frozen 3
          have P := put4 (x := .int .i64 y1) (y := .int .i64 y2) (z := .int .i64 y3) (u := .int .i64 y4) KD D lD
          clear KD D
          go_simp
          refine hK.out _ _ P.2 (fun hS => ?_)
          clear hK K d0 d1 d2 d3 f0 f1 f2 f3
          obtain ⟨KD, D⟩ := P
          generalize ((((U2.setCell ⟨gD, 0, none⟩ (.int .i64 y1)).setCell ⟨gD, 1, none⟩ (.int .i64 y2)).setCell ⟨gD, 2, none⟩ (.int .i64 y3)).setCell ⟨gD, 3, none⟩ (.int .i64 y4)) = U3 at KD D hS ⊢
          refine wpAnyH_take (i := 13) (v := .bool yb) rfl (by kernel_rfl) (by kernel_rfl) (by kernel_rfl) (fun _ _ _ h => h) (Or.inl ⟨by kernel_rfl, fun u hSw => (by go_simp)⟩) hS ?_
          change wpAnyH _ _ _ _ _ _ _ (Act.put _ (some 8) _) _
          simp only [Act.put]
          refine wpAnyH_done (by kernel_rfl) ?_ _
          clear hS
          go_wp2_with fail
          try go_simp
          go_meet
          exact ⟨gD, rfl, rfl, KD, lD, D⟩
        · skip
          go_simp
          have KD := Blk.new V 27 #[.int .i64 0, .int .i64 0, .int .i64 0, .int .i64 0]
          have lD := D.size
          replace D := D.alloc D.size (.cells #[.int .i64 0, .int .i64 0, .int .i64 0, .int .i64 0] 27)
          refine hK.out _ _ D (fun hS => ?_)
          clear hK K
          generalize V.alloc (.cells #[.int .i64 0, .int .i64 0, .int .i64 0, .int .i64 0] 27) = U4 at KD D hS ⊢
          generalize V.heap.size = gD at KD lD ⊢
          refine wpAnyH_ready (rs := [7]) (by kernel_rfl) (by simp) ?_
          refine AllReadyH.cons rfl (fun K hK => ?_) AllReadyH.nil
          go_simp
          refine (HDm.out _ (HBW.out _ D)).mono ?_
          rintro e5 w5 ⟨rfl, h9⟩
          replace D := D.trans (h9.mono D.size)
          replace KD := KD.below h9 KD.lt
          clear h9
          refine hK.out _ _ D (fun hS => ?_)
          clear hK K
          refine wpAnyH_take (i := 8) (v := .tuple #[.agg #[.int .i64 y1, .int .i64 y2, .int .i64 y3, .int .i64 y4], .bool yb]) rfl (by kernel_rfl) (by kernel_rfl) (by kernel_rfl) (fun _ _ _ h => h) (Or.inl ⟨by kernel_rfl, fun u hSw => (by go_simp)⟩) hS ?_
          change wpAnyH _ _ _ _ _ _ _ (Act.put _ (some 16) _) _
          simp only [Act.put]
          refine wpAnyH_take (i := 9) (v := .agg #[.int .i64 y1, .int .i64 y2, .int .i64 y3, .int .i64 y4]) rfl (by kernel_rfl) (by kernel_rfl) (by kernel_rfl) (fun _ _ _ h => h) (Or.inl ⟨by kernel_rfl, fun u hSw => (by go_simp)⟩) hS ?_
          change wpAnyH _ _ _ _ _ _ _ (Act.put _ (some 25) _) _
          simp only [Act.put]
          refine wpAnyH_take (i := 10) (v := .bool yb) rfl (by kernel_rfl) (by kernel_rfl) (by kernel_rfl) (fun _ _ _ h => h) (Or.inl ⟨by kernel_rfl, fun u hSw => (by go_simp)⟩) hS ?_
          change wpAnyH _ _ _ _ _ _ _ (Act.put _ (some 26) _) _
          simp only [Act.put]
          refine wpAnyH_ready (rs := [12]) (by kernel_rfl) (by simp) ?_
          refine AllReadyH.cons rfl (fun K hK => ?_) AllReadyH.nil
          have d0 := KD.cell 0
          have f0 := KD.frozen 0
          have d1 := KD.cell 1
          have f1 := KD.frozen 1
          have d2 := KD.cell 2
          have f2 := KD.frozen 2
          have d3 := KD.cell 3
          have f3 := KD.frozen 3
          have P := put4 (x := .int .i64 y1) (y := .int .i64 y2) (z := .int .i64 y3) (u := .int .i64 y4) KD D lD
          clear KD D
          go_simp
          refine hK.out _ _ P.2 (fun hS => ?_)
          clear hK K d0 d1 d2 d3 f0 f1 f2 f3
          obtain ⟨KD, D⟩ := P
          generalize ((((w5.setCell ⟨gD, 0, none⟩ (.int .i64 y1)).setCell ⟨gD, 1, none⟩ (.int .i64 y2)).setCell ⟨gD, 2, none⟩ (.int .i64 y3)).setCell ⟨gD, 3, none⟩ (.int .i64 y4)) = U6 at KD D hS ⊢
          refine wpAnyH_take (i := 13) (v := .bool yb) rfl (by kernel_rfl) (by kernel_rfl) (by kernel_rfl) (fun _ _ _ h => h) (Or.inl ⟨by kernel_rfl, fun u hSw => (by go_simp)⟩) hS ?_
          change wpAnyH _ _ _ _ _ _ _ (Act.put _ (some 8) _) _
          simp only [Act.put]
          refine wpAnyH_done (by kernel_rfl) ?_ _
          clear hS
          go_wp2_with fail
          try go_simp
          go_meet
          exact ⟨gD, rfl, rfl, KD, lD, D⟩
      case rest =>
        obtain ⟨gD, rfl, rfl, KD, lD, D⟩ := hcut
        rename World => X
        replace K := (HX.out _ D).1
        replace hB := HBW.out _ D
        have OX := Lib.hid (own_below HO.out D)
        have d3 := KD.cell 3
        by_cases hbd : y4 = pool
        · have e1 : (y4 == pool) = true := by simp [hbd]
          rw [if_pos (by rw [← HPv.out]; exact e1)] at hF
          have HF := Lib.hid hF
          have HS := Lib.hid (And.intro K hB)
          have hlt2 := K.lt
          have kz := K.cell 1
          have c0' := HC0.out _ D
          have hsz := D.size
          have hszw := hB.size
          clear hF hbd K hB KD
          go_wp2_with (
            at_builtin
            refine wpList_append_any _ rfl (.tmp 31) (.tmp 38) 39 rfl (w.heap.size + 1) 3 i0 (.int .i64 0) 1 8 Try.underlying39 hi0 hz0 hz1 hz2 rfl (by decide) (.slice A2 q c2) q (vs (idsL p (us.take k))) rfl (OX.out.alloc _) _ (some ⟨X.heap.size, 0, none⟩) 1 1 (vs [a]) rfl (reads_int1 _ 3 a rfl) (vs_ones _) (by simp only [maxLen]; omega) (by omega) (by unfold World.alloc; simp <;> omega) ?_
            intro v9 w9 own9 grow9 _
            rw [← vs_append] at own9
            have B9' := HS.out.2.alloc HS.out.2.size (.cells #[.int .i64 a] 3)
            have K9 := (HS.out.1.alloc (.cells #[.int .i64 a] 3)).grown grow9 (fun e => by have := (OX.out.lt _ e.symm).1; omega)
            have HT := Lib.hid (And.intro own9 (And.intro K9 (show Below w.heap.size w w9 from B9'.grown grow9 B9'.size (fun g hg => by have := (OX.out.lt g hg).1; omega))))
            clear own9 grow9 B9' K9)
          go_wp2_with fail
          go_roundw
          case rel => exact ⟨k + 1, q + 1, by omega, by go_num, Lib.hid (by rw [HF.out, List.length_append, ← Hq.out]; rfl), Lib.hid (by rw [HF.out]; exact HT.out.1), HT.out.2.1, HT.out.2.2⟩
          case measure => simp [intOf] <;> omega
        · have e1 : (y4 == pool) = false := by simp [hbd]
          rw [if_neg (by rw [← HPv.out, e1]; simp), List.append_nil] at hF
          have HF := Lib.hid hF
          clear hF hbd KD
          go_wp2
          go_roundw
          case rel => exact ⟨k + 1, q, by omega, by go_num, Lib.hid (by rw [HF.out]; exact Hq.out), Lib.hid (by rw [HF.out]; exact OX.out), K, hB⟩
          case measure => simp [intOf] <;> omega
    · obtain rfl : m = k := by omega
      obtain ⟨A2, c2, rfl, hc2, _⟩ := own_reads HO.out
      have HT : Hid (us.take m = us) := Lib.hid (by rw [← HL.out]; exact List.take_length)
      have HE : Hid (q = (idsL p us).length) := Lib.hid (by have := Hq.out; rwa [HT.out] at this)
      have HW : Hid (wr.ownsRow (w.heap.size + 1) 3 1 (.slice A2 q c2) q (vs (idsL p us))) := Lib.hid (by have := HO.out; rwa [HT.out] at this)
      have HC2 := Lib.hid hc2
      have kz : wr.cell? ⟨w.heap.size, 1, none⟩ = some (.slice B m d) := K.cell 1
      clear hc2
      go_wp2
      go_ret
      exact ⟨A2, c2, by rw [← HE.out]; rfl, by rw [← HE.out]; exact HC2.out, by rw [← HE.out]; exact own_down HW.out (by omega), hB⟩

set_option maxRecDepth 100000 in
set_option maxHeartbeats 8000000 in
theorem rweights_any (A : Option Addr) (n c : Nat) (ds : List Dom) (B : Option Addr) (m d : Nat) (us : List Vc) (pool : Int) (w : World) (hG : GR w A n c ds B m d us) (hP : RightP ds us) :
    Calls Try.prog 38 #[.agg #[.slice A n c, .slice B m d], .int .i64 pool] w (Said (.int .i64 (weighK ds us pool ds.length)) w) := by
  have HL := Lib.hid hG.len.1
  have HR := Lib.hid hG
  have HN := Lib.hid hG.n9
  have HP := Lib.hid hP
  have HK := Lib.hid (box1 w 25 #[.slice A n c, .slice B m d])
  clear hG hP
  go_enter Try.func38, Try.ntmps38
  go_wp2_with fail
  go_loopw [5, 6] (fun sv iv wr => ∃ (k : Nat) (s : Int), k ≤ n ∧ iv = .int .i64 (k : Int) ∧ sv = .int .i64 s ∧ Hid (s = weighK ds us pool k) ∧ Blk wr w.heap.size 25 #[.slice A n c, .slice B m d] ∧ Below w.heap.size w wr) (fun _ iv _ => n - (intOf iv).toNat)
  case atStart => exact ⟨0, 0, by omega, rfl, rfl, Lib.hid rfl, HK.out.1, HK.out.2⟩
  case round =>
    obtain ⟨k, s, hk, rfl, rfl, Hs, K, GB⟩ := hrel
    by_cases hlt : k < n
    · obtain ⟨⟨x1, x2, x3, x4⟩, hx⟩ := elem_at (l := ds) (k := k) (by rw [HL.out]; exact hlt)
      have HOf := Lib.hid (fun (u : World) (h : Below w.heap.size w u) => rofG_any A n c ds B m d us x1 u (HR.out.below h))
      obtain ⟨ad, rfl, hb, c0, c1, c2, c3⟩ := dom_at (HR.out.doms.below GB) hx
      have hst : weighK ds us pool (k + 1) = weighK ds us pool k + (if x4 = pool ∧ 0 < (ofL us x1).length then x2 else 0) := by
        show weighK ds us pool k + (if (ds.getD k zeroD).2.2.2 = pool ∧ 0 < (ofL us (ds.getD k zeroD).1).length then (ds.getD k zeroD).2.1 else 0) = _
        rw [dgetD hx]
      have hbd := weigh_bound HP.out pool k
      rw [← Hs.out] at hbd hst
      have hw := rightD_iff.1 (HP.out.od _ (List.mem_of_getElem? hx))
      have hw1 : 1 ≤ x2 ∧ x2 ≤ 65535 := ⟨hw.2.2.1, hw.2.2.2.1⟩
      obtain ⟨Q, hQ⟩ : ∃ Q, (ofL us x1).length = Q := ⟨_, rfl⟩
      have HQ := Lib.hid hQ
      rw [hQ] at hst
      have j0 : (0 : Int) ≤ (k : Int) := by omega
      have j1 : (k : Int) < (n : Int) := by omega
      have k9 : k < 1000 := by have := HN.out; omega
      have HX := Lib.hid (fun (u : World) (h : Below wr.heap.size wr u) => And.intro (K.below h K.lt) (And.intro ((h.cell (p := ad.add (k * 4)) (World.block_lt_of_cell? wr _ c0)).trans c0) ((h.cell (p := ⟨(ad.add (k * 4)).block, (ad.add (k * 4)).off + 3, none⟩) (World.block_lt_of_cell? wr _ c3)).trans c3)))
      have HC1 := Lib.hid (fun (u : World) (h : Below wr.heap.size wr u) => (h.cell (p := ⟨(ad.add (k * 4)).block, (ad.add (k * 4)).off + 1, none⟩) (World.block_lt_of_cell? wr _ c1)).trans c1)
      have HBW := Lib.hid (fun (u : World) (h : Below wr.heap.size wr u) => GB.trans (h.mono GB.size))
      clear hx hw hQ
      by_cases hp : x4 = pool
      · have e1 : (x4 == pool) = true := by simp [hp]
        by_cases hq : 0 < Q
        · have HN2 : Hid (s + x2 = weighK ds us pool (k + 1)) := Lib.hid (by rw [hst, if_pos ⟨hp, hq⟩])
          have e2 : decide ((0 : Int) < (Q : Int)) = true := decide_eq_true (by omega)
          have e3 : decide (0 < Q) = true := decide_eq_true hq
          clear hst hp
          have kz := K.cell 0
          go_upto_region 5 with fail
          clear kz
          have D := (Below.refl wr.heap.size wr).drew
          refine wp_region_held_drew (S := fun u => Below wr.heap.size wr u) (by kernel_rfl) D (fun hS => ?_)
          generalize wr.drew = V at D hS ⊢
          refine wpAnyH_take (i := 0) (v := .pointer (some ⟨w.heap.size, 0, none⟩)) rfl (by kernel_rfl) (by kernel_rfl) (by kernel_rfl) (fun _ _ _ h => h) (Or.inl ⟨by kernel_rfl, fun u hSw => (by go_simp)⟩) hS ?_
          change wpAnyH _ _ _ _ _ _ _ (Act.put _ (some 14) _) _
          simp only [Act.put]
          refine wpAnyH_take (i := 1) (v := .slice (some ad) n c) rfl (by kernel_rfl) (by kernel_rfl) (by kernel_rfl) (fun _ _ _ h => h) (Or.inl ⟨by kernel_rfl, fun u hSw => (by have q0 := (HX.out u hSw).1.cell 0; go_simp)⟩) hS ?_
          change wpAnyH _ _ _ _ _ _ _ (Act.put _ (some 15) _) _
          simp only [Act.put]
          refine wpAnyH_take (i := 2) (v := .int .i64 (k : Int)) rfl (by kernel_rfl) (by kernel_rfl) (by kernel_rfl) (fun _ _ _ h => h) (Or.inl ⟨by kernel_rfl, fun u hSw => (by go_simp)⟩) hS ?_
          change wpAnyH _ _ _ _ _ _ _ (Act.put _ (some 16) _) _
          simp only [Act.put]
          refine wpAnyH_take (i := 3) (v := .pointer (some (ad.add (k * 4)))) rfl (by kernel_rfl) (by kernel_rfl) (by kernel_rfl) (fun _ _ _ h => h) (Or.inl ⟨by kernel_rfl, fun u hSw => (by go_simp)⟩) hS ?_
          change wpAnyH _ _ _ _ _ _ _ (Act.put _ (some 17) _) _
          simp only [Act.put]
          refine wpAnyH_take (i := 4) (v := .pointer (some ⟨(ad.add (k * 4)).block, (ad.add (k * 4)).off + 3, none⟩)) rfl (by kernel_rfl) (by kernel_rfl) (by kernel_rfl) (fun _ _ _ h => h) (Or.inl ⟨by kernel_rfl, fun u hSw => (by go_simp)⟩) hS ?_
          change wpAnyH _ _ _ _ _ _ _ (Act.put _ (some 18) _) _
          simp only [Act.put]
          refine wpAnyH_take (i := 5) (v := .int .i64 x4) rfl (by kernel_rfl) (by kernel_rfl) (by kernel_rfl) (fun _ _ _ h => h) (Or.inl ⟨by kernel_rfl, fun u hSw => (by have q0 := (HX.out u hSw).2.1; have q3 := (HX.out u hSw).2.2; go_simp)⟩) hS ?_
          change wpAnyH _ _ _ _ _ _ _ (Act.put _ (some 19) _) _
          simp only [Act.put]
          refine wpAnyH_take (i := 6) (v := .int .i64 pool) rfl (by kernel_rfl) (by kernel_rfl) (by kernel_rfl) (fun _ _ _ h => h) (Or.inl ⟨by kernel_rfl, fun u hSw => (by go_simp)⟩) hS ?_
          change wpAnyH _ _ _ _ _ _ _ (Act.put _ (some 20) _) _
          simp only [Act.put]
          refine wpAnyH_take (i := 7) (v := .bool true) rfl (by kernel_rfl) (by kernel_rfl) (by kernel_rfl) (fun _ _ _ h => h) (Or.inl ⟨by kernel_rfl, fun u hSw => (by go_simp)⟩) hS ?_
          change wpAnyH _ _ _ _ _ _ _ (Act.put _ (some 21) _) _
          simp only [Act.put]
          refine wpAnyH_take (i := 8) (v := .bool true) rfl (by kernel_rfl) (by kernel_rfl) (by kernel_rfl) (fun _ _ _ h => h) (Or.inl ⟨by kernel_rfl, fun u hSw => (by go_simp)⟩) hS ?_
          change wpAnyH _ _ _ _ _ _ _ (Act.put _ (some 22) _) _
          simp only [Act.put]
          refine wpAnyH_take (i := 9) (v := .agg #[.slice (some ad) n c, .slice B m d]) rfl (by kernel_rfl) (by kernel_rfl) (by kernel_rfl) (fun _ _ _ h => h) (Or.inl ⟨by kernel_rfl, fun u hSw => (by have q0 := (HX.out u hSw).1.cell 0; have q1 := (HX.out u hSw).1.cell 1; go_simp)⟩) hS ?_
          change wpAnyH _ _ _ _ _ _ _ (Act.put _ (some 23) _) _
          simp only [Act.put]
          refine wpAnyH_take (i := 10) (v := .pointer (some ⟨w.heap.size, 0, none⟩)) rfl (by kernel_rfl) (by kernel_rfl) (by kernel_rfl) (fun _ _ _ h => h) (Or.inl ⟨by kernel_rfl, fun u hSw => (by go_simp)⟩) hS ?_
          change wpAnyH _ _ _ _ _ _ _ (Act.put _ (some 24) _) _
          simp only [Act.put]
          refine wpAnyH_take (i := 11) (v := .slice (some ad) n c) rfl (by kernel_rfl) (by kernel_rfl) (by kernel_rfl) (fun _ _ _ h => h) (Or.inl ⟨by kernel_rfl, fun u hSw => (by have q0 := (HX.out u hSw).1.cell 0; go_simp)⟩) hS ?_
          change wpAnyH _ _ _ _ _ _ _ (Act.put _ (some 25) _) _
          simp only [Act.put]
          refine wpAnyH_take (i := 12) (v := .int .i64 (k : Int)) rfl (by kernel_rfl) (by kernel_rfl) (by kernel_rfl) (fun _ _ _ h => h) (Or.inl ⟨by kernel_rfl, fun u hSw => (by go_simp)⟩) hS ?_
          change wpAnyH _ _ _ _ _ _ _ (Act.put _ (some 26) _) _
          simp only [Act.put]
          refine wpAnyH_take (i := 13) (v := .pointer (some (ad.add (k * 4)))) rfl (by kernel_rfl) (by kernel_rfl) (by kernel_rfl) (fun _ _ _ h => h) (Or.inl ⟨by kernel_rfl, fun u hSw => (by go_simp)⟩) hS ?_
          change wpAnyH _ _ _ _ _ _ _ (Act.put _ (some 27) _) _
          simp only [Act.put]
          refine wpAnyH_take (i := 14) (v := .pointer (some (ad.add (k * 4)))) rfl (by kernel_rfl) (by kernel_rfl) (by kernel_rfl) (fun _ _ _ h => h) (Or.inl ⟨by kernel_rfl, fun u hSw => (by go_simp)⟩) hS ?_
          change wpAnyH _ _ _ _ _ _ _ (Act.put _ (some 28) _) _
          simp only [Act.put]
          refine wpAnyH_take (i := 15) (v := .int .i64 x1) rfl (by kernel_rfl) (by kernel_rfl) (by kernel_rfl) (fun _ _ _ h => h) (Or.inl ⟨by kernel_rfl, fun u hSw => (by have q0 := (HX.out u hSw).2.1; have q3 := (HX.out u hSw).2.2; go_simp)⟩) hS ?_
          change wpAnyH _ _ _ _ _ _ _ (Act.put _ (some 29) _) _
          simp only [Act.put]
          refine wpAnyH_ready (rs := [16]) (by kernel_rfl) (by simp) ?_
          refine AllReadyH.cons rfl (fun K hK => ?_) AllReadyH.nil
          go_simp
          refine (HOf.out _ (HBW.out _ D)).mono ?_
          rintro e1 w1 ⟨Af, cf, rfl, q1, q2, h9⟩
          rw [HQ.out]
          clear q1 q2
          replace D := D.trans (h9.mono D.size)
          clear h9
          refine hK.out _ _ D (fun hS => ?_)
          clear hK K
          refine wpAnyH_take (i := 17) (v := .int .i64 (Q : Int)) rfl (by kernel_rfl) (by kernel_rfl) (by kernel_rfl) (fun _ _ _ h => h) (Or.inl ⟨by kernel_rfl, fun u hSw => (by go_simp)⟩) hS ?_
          change wpAnyH _ _ _ _ _ _ _ (Act.put _ (some 31) _) _
          simp only [Act.put]
          refine wpAnyH_take (i := 18) (v := .bool true) rfl (by kernel_rfl) (by kernel_rfl) (by kernel_rfl) (fun _ _ _ h => h) (Or.inl ⟨by kernel_rfl, fun u hSw => (by go_simp)⟩) hS ?_
          change wpAnyH _ _ _ _ _ _ _ (Act.put _ (some 32) _) _
          simp only [Act.put]
          refine wpAnyH_take (i := 19) (v := .bool true) rfl (by kernel_rfl) (by kernel_rfl) (by kernel_rfl) (fun _ _ _ h => h) (Or.inl ⟨by kernel_rfl, fun u hSw => (by go_simp)⟩) hS ?_
          change wpAnyH _ _ _ _ _ _ _ (Act.put _ (some 33) _) _
          simp only [Act.put]
          refine wpAnyH_done (by kernel_rfl) ?_ _
          clear hS
          replace K := (HX.out _ D).1
          replace GB := HBW.out _ D
          have kz := K.cell 0
          have cw := HC1.out _ D
          clear D HX HBW c0 c1 c2 c3
          go_wp2
          go_roundw
          case rel => exact ⟨k + 1, s + x2, by omega, by go_num, by go_num, HN2, K, GB⟩
          case measure => simp [intOf] <;> omega
        · have HN2 : Hid (s = weighK ds us pool (k + 1)) := Lib.hid (by rw [hst, if_neg (fun h => hq h.2)]; omega)
          have e2 : decide ((0 : Int) < (Q : Int)) = false := decide_eq_false (by omega)
          have e3 : decide (0 < Q) = false := decide_eq_false hq
          clear hst hp
          have kz := K.cell 0
          go_upto_region 5 with fail
          clear kz
          have D := (Below.refl wr.heap.size wr).drew
          refine wp_region_held_drew (S := fun u => Below wr.heap.size wr u) (by kernel_rfl) D (fun hS => ?_)
          generalize wr.drew = V at D hS ⊢
          refine wpAnyH_take (i := 0) (v := .pointer (some ⟨w.heap.size, 0, none⟩)) rfl (by kernel_rfl) (by kernel_rfl) (by kernel_rfl) (fun _ _ _ h => h) (Or.inl ⟨by kernel_rfl, fun u hSw => (by go_simp)⟩) hS ?_
          change wpAnyH _ _ _ _ _ _ _ (Act.put _ (some 14) _) _
          simp only [Act.put]
          refine wpAnyH_take (i := 1) (v := .slice (some ad) n c) rfl (by kernel_rfl) (by kernel_rfl) (by kernel_rfl) (fun _ _ _ h => h) (Or.inl ⟨by kernel_rfl, fun u hSw => (by have q0 := (HX.out u hSw).1.cell 0; go_simp)⟩) hS ?_
          change wpAnyH _ _ _ _ _ _ _ (Act.put _ (some 15) _) _
          simp only [Act.put]
          refine wpAnyH_take (i := 2) (v := .int .i64 (k : Int)) rfl (by kernel_rfl) (by kernel_rfl) (by kernel_rfl) (fun _ _ _ h => h) (Or.inl ⟨by kernel_rfl, fun u hSw => (by go_simp)⟩) hS ?_
          change wpAnyH _ _ _ _ _ _ _ (Act.put _ (some 16) _) _
          simp only [Act.put]
          refine wpAnyH_take (i := 3) (v := .pointer (some (ad.add (k * 4)))) rfl (by kernel_rfl) (by kernel_rfl) (by kernel_rfl) (fun _ _ _ h => h) (Or.inl ⟨by kernel_rfl, fun u hSw => (by go_simp)⟩) hS ?_
          change wpAnyH _ _ _ _ _ _ _ (Act.put _ (some 17) _) _
          simp only [Act.put]
          refine wpAnyH_take (i := 4) (v := .pointer (some ⟨(ad.add (k * 4)).block, (ad.add (k * 4)).off + 3, none⟩)) rfl (by kernel_rfl) (by kernel_rfl) (by kernel_rfl) (fun _ _ _ h => h) (Or.inl ⟨by kernel_rfl, fun u hSw => (by go_simp)⟩) hS ?_
          change wpAnyH _ _ _ _ _ _ _ (Act.put _ (some 18) _) _
          simp only [Act.put]
          refine wpAnyH_take (i := 5) (v := .int .i64 x4) rfl (by kernel_rfl) (by kernel_rfl) (by kernel_rfl) (fun _ _ _ h => h) (Or.inl ⟨by kernel_rfl, fun u hSw => (by have q0 := (HX.out u hSw).2.1; have q3 := (HX.out u hSw).2.2; go_simp)⟩) hS ?_
          change wpAnyH _ _ _ _ _ _ _ (Act.put _ (some 19) _) _
          simp only [Act.put]
          refine wpAnyH_take (i := 6) (v := .int .i64 pool) rfl (by kernel_rfl) (by kernel_rfl) (by kernel_rfl) (fun _ _ _ h => h) (Or.inl ⟨by kernel_rfl, fun u hSw => (by go_simp)⟩) hS ?_
          change wpAnyH _ _ _ _ _ _ _ (Act.put _ (some 20) _) _
          simp only [Act.put]
          refine wpAnyH_take (i := 7) (v := .bool true) rfl (by kernel_rfl) (by kernel_rfl) (by kernel_rfl) (fun _ _ _ h => h) (Or.inl ⟨by kernel_rfl, fun u hSw => (by go_simp)⟩) hS ?_
          change wpAnyH _ _ _ _ _ _ _ (Act.put _ (some 21) _) _
          simp only [Act.put]
          refine wpAnyH_take (i := 8) (v := .bool true) rfl (by kernel_rfl) (by kernel_rfl) (by kernel_rfl) (fun _ _ _ h => h) (Or.inl ⟨by kernel_rfl, fun u hSw => (by go_simp)⟩) hS ?_
          change wpAnyH _ _ _ _ _ _ _ (Act.put _ (some 22) _) _
          simp only [Act.put]
          refine wpAnyH_take (i := 9) (v := .agg #[.slice (some ad) n c, .slice B m d]) rfl (by kernel_rfl) (by kernel_rfl) (by kernel_rfl) (fun _ _ _ h => h) (Or.inl ⟨by kernel_rfl, fun u hSw => (by have q0 := (HX.out u hSw).1.cell 0; have q1 := (HX.out u hSw).1.cell 1; go_simp)⟩) hS ?_
          change wpAnyH _ _ _ _ _ _ _ (Act.put _ (some 23) _) _
          simp only [Act.put]
          refine wpAnyH_take (i := 10) (v := .pointer (some ⟨w.heap.size, 0, none⟩)) rfl (by kernel_rfl) (by kernel_rfl) (by kernel_rfl) (fun _ _ _ h => h) (Or.inl ⟨by kernel_rfl, fun u hSw => (by go_simp)⟩) hS ?_
          change wpAnyH _ _ _ _ _ _ _ (Act.put _ (some 24) _) _
          simp only [Act.put]
          refine wpAnyH_take (i := 11) (v := .slice (some ad) n c) rfl (by kernel_rfl) (by kernel_rfl) (by kernel_rfl) (fun _ _ _ h => h) (Or.inl ⟨by kernel_rfl, fun u hSw => (by have q0 := (HX.out u hSw).1.cell 0; go_simp)⟩) hS ?_
          change wpAnyH _ _ _ _ _ _ _ (Act.put _ (some 25) _) _
          simp only [Act.put]
          refine wpAnyH_take (i := 12) (v := .int .i64 (k : Int)) rfl (by kernel_rfl) (by kernel_rfl) (by kernel_rfl) (fun _ _ _ h => h) (Or.inl ⟨by kernel_rfl, fun u hSw => (by go_simp)⟩) hS ?_
          change wpAnyH _ _ _ _ _ _ _ (Act.put _ (some 26) _) _
          simp only [Act.put]
          refine wpAnyH_take (i := 13) (v := .pointer (some (ad.add (k * 4)))) rfl (by kernel_rfl) (by kernel_rfl) (by kernel_rfl) (fun _ _ _ h => h) (Or.inl ⟨by kernel_rfl, fun u hSw => (by go_simp)⟩) hS ?_
          change wpAnyH _ _ _ _ _ _ _ (Act.put _ (some 27) _) _
          simp only [Act.put]
          refine wpAnyH_take (i := 14) (v := .pointer (some (ad.add (k * 4)))) rfl (by kernel_rfl) (by kernel_rfl) (by kernel_rfl) (fun _ _ _ h => h) (Or.inl ⟨by kernel_rfl, fun u hSw => (by go_simp)⟩) hS ?_
          change wpAnyH _ _ _ _ _ _ _ (Act.put _ (some 28) _) _
          simp only [Act.put]
          refine wpAnyH_take (i := 15) (v := .int .i64 x1) rfl (by kernel_rfl) (by kernel_rfl) (by kernel_rfl) (fun _ _ _ h => h) (Or.inl ⟨by kernel_rfl, fun u hSw => (by have q0 := (HX.out u hSw).2.1; have q3 := (HX.out u hSw).2.2; go_simp)⟩) hS ?_
          change wpAnyH _ _ _ _ _ _ _ (Act.put _ (some 29) _) _
          simp only [Act.put]
          refine wpAnyH_ready (rs := [16]) (by kernel_rfl) (by simp) ?_
          refine AllReadyH.cons rfl (fun K hK => ?_) AllReadyH.nil
          go_simp
          refine (HOf.out _ (HBW.out _ D)).mono ?_
          rintro e1 w1 ⟨Af, cf, rfl, q1, q2, h9⟩
          rw [HQ.out]
          clear q1 q2
          replace D := D.trans (h9.mono D.size)
          clear h9
          refine hK.out _ _ D (fun hS => ?_)
          clear hK K
          refine wpAnyH_take (i := 17) (v := .int .i64 (Q : Int)) rfl (by kernel_rfl) (by kernel_rfl) (by kernel_rfl) (fun _ _ _ h => h) (Or.inl ⟨by kernel_rfl, fun u hSw => (by go_simp)⟩) hS ?_
          change wpAnyH _ _ _ _ _ _ _ (Act.put _ (some 31) _) _
          simp only [Act.put]
          refine wpAnyH_take (i := 18) (v := .bool false) rfl (by kernel_rfl) (by kernel_rfl) (by kernel_rfl) (fun _ _ _ h => h) (Or.inl ⟨by kernel_rfl, fun u hSw => (by go_simp)⟩) hS ?_
          change wpAnyH _ _ _ _ _ _ _ (Act.put _ (some 32) _) _
          simp only [Act.put]
          refine wpAnyH_take (i := 19) (v := .bool false) rfl (by kernel_rfl) (by kernel_rfl) (by kernel_rfl) (fun _ _ _ h => h) (Or.inl ⟨by kernel_rfl, fun u hSw => (by go_simp)⟩) hS ?_
          change wpAnyH _ _ _ _ _ _ _ (Act.put _ (some 33) _) _
          simp only [Act.put]
          refine wpAnyH_done (by kernel_rfl) ?_ _
          clear hS
          replace K := (HX.out _ D).1
          replace GB := HBW.out _ D
          have kz := K.cell 0
          have cw := HC1.out _ D
          clear D HX HBW c0 c1 c2 c3
          go_wp2
          go_roundw
          case rel => exact ⟨k + 1, s, by omega, by go_num, rfl, HN2, K, GB⟩
          case measure => simp [intOf] <;> omega
      · have HN2 : Hid (s = weighK ds us pool (k + 1)) := Lib.hid (by rw [hst, if_neg (fun h => hp h.1)]; omega)
        have e1 : (x4 == pool) = false := by simp [hp]
        clear hst hp
        have kz := K.cell 0
        have HS := Lib.hid (And.intro K GB)
        clear HX HC1 HBW HOf HQ
        go_upto_region 5 with fail
        clear K GB
        go_quiet (fail)
        go_wp2
        go_roundw
        case rel => exact ⟨k + 1, s, by omega, by go_num, rfl, HN2, HS.out.1.drewN _, below_drewN HS.out.2 _⟩
        case measure => simp [intOf] <;> omega
    · obtain rfl : n = k := by omega
      have HE : Hid (s = weighK ds us pool ds.length) := Lib.hid (by rw [HL.out, Hs.out])
      have kz := K.cell 0
      go_wp2
      go_ret
      exact ⟨retI HE.out, GB⟩

end Go.Proofs.Ytknimnopopnbhaa
