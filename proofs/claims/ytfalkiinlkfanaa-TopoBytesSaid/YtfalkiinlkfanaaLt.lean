/-
  The contract of the landed topo: readSeats. No statement is proved here.
-/
import Derived.Test.YtfalkiinlkfanaaLs
namespace Go.Proofs.Ytfalkiinlkfanaa
open Go.RowKit Go.Shelf

attribute [local go_sem] Oper.semAt_some

theorem svs_append2 (a : List (Int × Int)) (x : Int × Int) : svs (a ++ [x]) = svs a ++ sv x := by unfold svs; rw [flat_append, flat_one]
/-- a row of seats in memory of its own -/
def Seats (w : World) (l : List (Int × Int)) (e : Ending) (w' : World) : Prop := ∃ v, e = .returned v ∧ w'.ownsRow w.heap.size 37 2 v l.length (svs l) ∧ Below w.heap.size w w'
theorem seats_of {w w' : World} {l : List (Int × Int)} {v : Value} {n : Nat} (hn : n = l.length) (ho : w'.ownsRow w.heap.size 37 2 v n (svs l)) (hb : Below w.heap.size w w') : Seats w l (.returned v) w' := by
  subst hn
  exact ⟨v, rfl, ho, hb⟩

theorem kept_two {V w1 : World} {B n₀ n m : Nat} {u1 u2 v v' : Value} {xs ys : List Value} {tmp : Obj} (bS : Boxed V (B + 1) 62 u1) (bN : Boxed V (B + 1 + 1) 3 u2) (hrow : V.ownsRow n₀ 37 2 v n xs)
    (hg : (V.alloc tmp).grownBy w1 v.ownBlock) (_ho : w1.ownsRow n₀ 37 2 v' m ys) : (w1.setCell ⟨B, 0, none⟩ v').heap[B + 1]? = V.heap[B + 1]? ∧ (w1.setCell ⟨B, 0, none⟩ v').heap[B + 1 + 1]? = V.heap[B + 1 + 1]? ∧
      Boxed (w1.setCell ⟨B, 0, none⟩ v') (B + 1) 62 u1 ∧ Boxed (w1.setCell ⟨B, 0, none⟩ v') (B + 1 + 1) 3 u2 := by
  have h1 : Boxed w1 (B + 1) 62 u1 := (bS.alloc tmp).kept hg (bS.not_row (by decide) hrow)
  have h2 : Boxed w1 (B + 1 + 1) 3 u2 := (bN.alloc tmp).kept hg (bN.not_row (by decide) hrow)
  have h3 : Boxed (w1.setCell ⟨B, 0, none⟩ v') (B + 1) 62 u1 := h1.kept (grownBy_setCell' w1 B v') (by intro e; injection e with e; omega)
  have h4 : Boxed (w1.setCell ⟨B, 0, none⟩ v') (B + 1 + 1) 3 u2 := h2.kept (grownBy_setCell' w1 B v') (by intro e; injection e with e; omega)
  exact ⟨(show _ = _ from h3).trans (show _ = _ from bS).symm, (show _ = _ from h4).trans (show _ = _ from bN).symm, h3, h4⟩

set_option maxRecDepth 100000 in
set_option maxHeartbeats 4000000 in
theorem readseats_any (A : Option Addr) (ad : Addr) (m c z : Nat) (f : Nat → Int × Int) (w : World) (hm : m = 2 * z) (hmc : m ≤ c) (hz : z ≤ 300) (hA : 0 < m → A = some ad ∧ ad.block < w.heap.size)
    (hby : ∀ k, k < z → w.cell? (ad.add (2 * k)) = some (.int .u8 (f k).1) ∧ w.cell? ⟨(ad.add (2 * k)).block, (ad.add (2 * k)).off + 1, none⟩ = some (.int .u8 (f k).2) ∧ 0 ≤ (f k).1 ∧ (f k).1 < 256 ∧ 0 ≤ (f k).2 ∧ (f k).2 < 256) :
    Calls Try.prog 58 #[.slice A m c] w (Seats w ((firstF z z).map fun k => f k.1)) := by
  obtain ⟨i0, hi0, hz0, hz1, hz2⟩ := info_parts seat_info
  obtain ⟨bO', K1, K2, hB3⟩ := blks3 w 25 62 3 #[.slice none 0 0] #[.slice A m c] #[.int .i64 2]
  have bO : Boxed _ w.heap.size 25 (.slice none 0 0) := bO'
  have bS : Boxed _ (w.heap.size + 1) 62 (.slice A m c) := K1
  have bN : Boxed _ (w.heap.size + 1 + 1) 3 (.int .i64 2) := K2
  have hs := chunk_stops 4 (by decide) (w.heap.size + 1) (w.heap.size + 1 + 1) A ad m c z w.heap.size _ hB3.size K1 K2 hm hmc hz (fun h => (hA h).1)
  have HCh := Lib.hid (fun u => chunk_any A m c u)
  have HLZ : Hid ((firstF z z).length = z) := Lib.hid (length_first (Nat.le_refl _))
  have HM := Lib.hid hm
  have HA := Lib.hid hA
  have HBY := Lib.hid hby
  clear hm hA hby
  refine (callsIn_wide (n := 5)).1 ?_
  refine callsIn_of_wp_marks Try.func58 rfl trivial ?_ rfl
  simp only [Try.ntmps58, List.size_toArray, List.length_cons, List.length_nil, Nat.reduceAdd, Nat.reduceSub, Array.replicate_succ, Array.replicate_zero, List.push_toArray, List.append_toArray, List.nil_append, List.cons_append]
  have hs3 : ((((w.alloc (.cells #[.slice none 0 0] 25)).alloc (.cells #[.slice A m c] 62)).alloc (.cells #[.int .i64 2] 3))).heap.size = w.heap.size + 1 + 1 + 1 := by simp
  clear bO' K1 K2
  gi_wp2_with (refine ⟨trivial, ?_⟩; gi_at_call 70; refine (callsIn_wide.2 (HCh.out _)).mono ?_; rintro e w1 ⟨rfl, rfl⟩)
  generalize (((w.alloc (.cells #[.slice none 0 0] 25)).alloc (.cells #[.slice A m c] 62)).alloc (.cells #[.int .i64 2] 3)) = w3 at *
  refine wpIn_rangeFunc_ownG rfl (by decide) (gf := 75) (lb := #[.pointer (some ⟨w.heap.size + 1, 0, none⟩), .pointer (some ⟨w.heap.size + 1 + 1, 0, none⟩)]) rfl trivial (enters_of Try.func75 (by kernel_rfl) rfl)
    hs keeps2_t (keeps2_b (by omega) (by omega) (by omega)) (Below.refl _ _) (fun _ => rfl)
    (fun (pre : List (Fin z)) W => (∃ v, Boxed W w.heap.size 25 v ∧ W.ownsRow w.heap.size 37 2 v pre.length (svs (pre.map fun k => f k.1)) ∧ True) ∧ (Boxed W (w.heap.size + 1) 62 (.slice A m c) ∧ Boxed W (w.heap.size + 1 + 1) 3 (.int .i64 2)) ∧ Below w.heap.size w W)
    (fun _ _ _ => False)
    (OwnFrom.and (Own.from (holdsRow_own w.heap.size w.heap.size 25 37 2 (fun (pre : List (Fin z)) => pre.length) (fun pre => svs (pre.map fun k => f k.1)) (fun _ _ => True)) _) (OwnFrom.and (OwnFrom.and (Own.from (own_boxed _ _ _) _) (Own.from (own_boxed _ _ _) _)) (ownFrom_below (Nat.le_refl _) (by omega))))
    (fun _ _ _ _ _ hs _ _ => hs)
    ⟨⟨_, bO, World.ownsRow_nil _ _ _ _, trivial⟩, ⟨bS, bN⟩, hB3⟩
    (fun x => { tmps := #[.slice A m c, undef, .slice none 0 0, .pointer (some ⟨w.heap.size, 0, none⟩), pairV ad x.1, .slice A m c, .func (.func 75) #[] #[.pointer (some ⟨w.heap.size + 1, 0, none⟩), .pointer (some ⟨w.heap.size + 1 + 1, 0, none⟩)], pairV ad x.1, undef, undef, undef, undef, undef, undef, undef, undef, undef, undef, undef, undef, undef], defers := [] }) ?assign ?body ?done ?stop
  case assign =>
    intro l x W K hK
    unfold pairV at hK ⊢
    gi_wp2
    exact hK
  case body =>
    rintro l pre x W ⟨⟨v, hv, hrow, _⟩, ⟨bS, bN⟩, hB⟩ hlt
    obtain ⟨A1, c1, rfl, _, _⟩ := own_reads hrow
    obtain ⟨hb0, hb1, g1, g2, g3, g4⟩ := HBY.out x.1 x.2
    have hml : 0 < m := by have := x.2; have := HM.out; omega
    have hlt2 : pre.length < 300 := by have := HLZ.out; omega
    have hab := (HA.out hml).2
    have hsz0 := hB.size
    unfold pairV
    generalize hp : ad.add (2 * x.1) = p at *
    have hpb : p.block < w.heap.size := by rw [← hp, block_of_add]; exact hab
    generalize ha : (f x.1).1 = a at *
    generalize hb : (f x.1).2 = b at *
    have wa : IntKind.i64.wrap a = a := by rw [IntKind.wrap_i64]; omega
    have wb : IntKind.i64.wrap b = b := by rw [IntKind.wrap_i64]; omega
    have HX : Hid (sv (f x.1) = [.int .i64 a, .int .i64 b]) := Lib.hid (by unfold sv; rw [ha, hb])
    gi_wp2_with fail
    have hv' : Boxed W.drew w.heap.size 25 (.slice A1 pre.length c1) := hv
    have hrow' : W.drew.ownsRow w.heap.size 37 2 (.slice A1 pre.length c1) pre.length (svs (pre.map fun k => f k.1)) := hrow
    have HKO := Lib.hid (KeepsOthers.drew W)
    have HBV := Lib.hid ((Below.refl w.heap.size W).drew)
    have bS' : Boxed W.drew (w.heap.size + 1) 62 (.slice A m c) := bS
    have bN' : Boxed W.drew (w.heap.size + 1 + 1) 3 (.int .i64 2) := bN
    have HWD : Hid (W.drew.heap = W.heap) := Lib.hid rfl
    have hBV : Below w.heap.size w W.drew := hB.drew
    clear hv hrow bS bN
    refine region_in (S := fun u => u.cell? p = some (.int .u8 a) ∧ u.cell? ⟨p.block, p.off + 1, none⟩ = some (.int .u8 b)) l _ (fun _ _ h => h) (by kernel_rfl) (by kernel_rfl) ⟨(hBV.cell hpb).trans hb0, (hBV.cell (p := ⟨p.block, p.off + 1, none⟩) hpb).trans hb1⟩ (fun hS => ?_)
    generalize W.drew = V at *
    have hv := hv'
    have hrow := hrow'
    have hsz := hBV.size
    have HS := Lib.hid (fun u (h : Below w.heap.size V u) => show u.cell? p = some (.int .u8 a) ∧ u.cell? ⟨p.block, p.off + 1, none⟩ = some (.int .u8 b) from ⟨(h.cell hpb).trans hS.1, (h.cell (p := ⟨p.block, p.off + 1, none⟩) hpb).trans hS.2⟩)
    have hB1 := Lib.hid (HS.out _ ((Below.refl _ V).alloc hsz (.cells #[.int .i64 a, .int .i64 b] 37)))
    clear hv' hrow' hb0 hb1
    refine wpAnyH_take (i := 1) (v := .slice (some p) 2 2) rfl (by kernel_rfl) (by kernel_rfl) (by kernel_rfl) (fun _ _ _ h => h) (Or.inl ⟨by kernel_rfl, fun u hSw => (by go_simp)⟩) hS ?_
    refine wpAnyH_take (i := 2) (v := .pointer (some p)) rfl (by kernel_rfl) (by kernel_rfl) (by kernel_rfl) (fun _ _ _ h => h) (Or.inl ⟨by kernel_rfl, fun u hSw => (by go_simp)⟩) hS ?_
    refine wpAnyH_take (i := 3) (v := .int .u8 a) rfl (by kernel_rfl) (by kernel_rfl) (by kernel_rfl) (fun _ _ _ h => h) (Or.inl ⟨by kernel_rfl, fun u hSw => (by have c0 := hSw.1; go_simp)⟩) hS ?_
    refine wpAnyH_take (i := 4) (v := .int .i64 a) rfl (by kernel_rfl) (by kernel_rfl) (by kernel_rfl) (fun _ _ _ h => h) (Or.inl ⟨by kernel_rfl, fun u hSw => (by go_simp)⟩) hS ?_
    refine wpAnyH_take (i := 5) (v := .slice (some p) 2 2) rfl (by kernel_rfl) (by kernel_rfl) (by kernel_rfl) (fun _ _ _ h => h) (Or.inl ⟨by kernel_rfl, fun u hSw => (by go_simp)⟩) hS ?_
    refine wpAnyH_take (i := 6) (v := .pointer (some ⟨p.block, p.off + 1, none⟩)) rfl (by kernel_rfl) (by kernel_rfl) (by kernel_rfl) (fun _ _ _ h => h) (Or.inl ⟨by kernel_rfl, fun u hSw => (by go_simp)⟩) hS ?_
    refine wpAnyH_take (i := 7) (v := .int .u8 b) rfl (by kernel_rfl) (by kernel_rfl) (by kernel_rfl) (fun _ _ _ h => h) (Or.inl ⟨by kernel_rfl, fun u hSw => (by have c0 := hSw.2; go_simp)⟩) hS ?_
    refine wpAnyH_take (i := 8) (v := .int .i64 b) rfl (by kernel_rfl) (by kernel_rfl) (by kernel_rfl) (fun _ _ _ h => h) (Or.inl ⟨by kernel_rfl, fun u hSw => (by go_simp)⟩) hS ?_
    refine wpAnyH_take (i := 9) (v := .agg #[.int .i64 a, .int .i64 b]) rfl (by kernel_rfl) (by kernel_rfl) (by kernel_rfl) (fun _ _ _ h => h) (Or.inl ⟨by kernel_rfl, fun u hSw => (by first | rfl | kernel_rfl | go_simp)⟩) hS ?_
    refine wpAnyH_ready (rs := [0, 10]) (by kernel_rfl) (by simp) ?_
    refine AllReadyH.cons rfl (fun K hK => ?_) (AllReadyH.cons rfl (fun K hK => ?_) (AllReadyH.nil))
    · skip
      have hc := hv.cell
      go_simp
      refine hK.out _ _ hS (fun hS => ?_)
      clear hK K hc
      refine wpAnyH_ready (rs := [10]) (by kernel_rfl) (by simp) ?_
      refine AllReadyH.cons rfl (fun K hK => ?_) (AllReadyH.nil)
      go_simp
      refine hK.out _ _ hB1.out (fun hS => ?_)
      clear hK K
      refine wpAnyH_ready (rs := [11]) (by kernel_rfl) (by simp) ?_
      refine AllReadyH.cons rfl (fun K hK => ?_) (AllReadyH.nil)
      refine step_append_any _ rfl (.tmp 8) (.tmp 18) 25 rfl w.heap.size 37 i0 (.agg #[.int .i64 0, .int .i64 0]) 2 16 Try.underlying25 hi0 hz0 hz1 hz2 rfl (by decide) _ pre.length _ rfl (hrow.alloc _) _ (some ⟨V.heap.size, 0, none⟩) 1 1 [.int .i64 a, .int .i64 b] rfl (reads_two (Blk.new V 37 #[.int .i64 a, .int .i64 b])) (by simp [Value.oneCell']) (by simp only [maxLen]; omega) (by omega) (by simp; omega) ?_
      intro v' w1 hown' hgrow _
      obtain ⟨g', cap', rfl⟩ := ownsRow_succ hown'
      obtain ⟨hv1, hv2, hr2, hk2, hb2⟩ := hv.appended (by decide) hrow hsz (Nat.le_refl _) hown' hgrow
      have HKS := Lib.hid (kept_two bS' bN' hrow hgrow hown')
      have hb1 : Below w.heap.size V w1 := ((Below.refl _ V).alloc hsz _).grown hgrow (by simp; omega) (fun g hg => (hrow.lt g hg).1)
      refine hK.out _ _ (HS.out _ hb1) (fun hS => ?_)
      clear hK K
      refine wpAnyH_ready (rs := [12]) (by kernel_rfl) (by simp) ?_
      refine AllReadyH.cons rfl (fun K hK => ?_) (AllReadyH.nil)
      have hc1 := hv1.cell
      have hf1 := hv1.frozen
      have HF := Lib.hid (And.intro hk2 (And.intro hb2 (And.intro hv2 hr2)))
      have hS2 := HS.out _ hb2
      clear hv1 hv2 hr2 hk2 hb2 hb1 hown' hgrow hS
      go_simp
      refine hK.out _ _ hS2 (fun hS => ?_)
      clear hK K hc1 hf1 hS2
      refine wpAnyH_done (by kernel_rfl) ?_ _
      gi_wp2_with fail
      refine ⟨(HKO.out.trans HF.out.1).from _, ⟨HBV.out.trans HF.out.2.1, HKS.out.1.trans (by rw [HWD.out]), HKS.out.2.1.trans (by rw [HWD.out])⟩, ⟨_, HF.out.2.2.1, ?_, trivial⟩, HKS.out.2.2, (hB.trans HBV.out).trans HF.out.2.1⟩
      rw [List.map_append, List.map_cons, List.map_nil, svs_append2, List.length_append, HX.out]
      exact HF.out.2.2.2
    · skip
      go_simp
      refine hK.out _ _ hB1.out (fun hS => ?_)
      clear hK K
      refine wpAnyH_ready (rs := [0]) (by kernel_rfl) (by simp) ?_
      refine AllReadyH.cons rfl (fun K hK => ?_) (AllReadyH.nil)
      have hc := (hv.alloc (.cells #[.int .i64 a, .int .i64 b] 37)).cell
      go_simp
      refine hK.out _ _ hS (fun hS => ?_)
      clear hK K hc
      refine wpAnyH_ready (rs := [11]) (by kernel_rfl) (by simp) ?_
      refine AllReadyH.cons rfl (fun K hK => ?_) (AllReadyH.nil)
      refine step_append_any _ rfl (.tmp 8) (.tmp 18) 25 rfl w.heap.size 37 i0 (.agg #[.int .i64 0, .int .i64 0]) 2 16 Try.underlying25 hi0 hz0 hz1 hz2 rfl (by decide) _ pre.length _ rfl (hrow.alloc _) _ (some ⟨V.heap.size, 0, none⟩) 1 1 [.int .i64 a, .int .i64 b] rfl (reads_two (Blk.new V 37 #[.int .i64 a, .int .i64 b])) (by simp [Value.oneCell']) (by simp only [maxLen]; omega) (by omega) (by simp; omega) ?_
      intro v' w1 hown' hgrow _
      obtain ⟨g', cap', rfl⟩ := ownsRow_succ hown'
      obtain ⟨hv1, hv2, hr2, hk2, hb2⟩ := hv.appended (by decide) hrow hsz (Nat.le_refl _) hown' hgrow
      have HKS := Lib.hid (kept_two bS' bN' hrow hgrow hown')
      have hb1 : Below w.heap.size V w1 := ((Below.refl _ V).alloc hsz _).grown hgrow (by simp; omega) (fun g hg => (hrow.lt g hg).1)
      refine hK.out _ _ (HS.out _ hb1) (fun hS => ?_)
      clear hK K
      refine wpAnyH_ready (rs := [12]) (by kernel_rfl) (by simp) ?_
      refine AllReadyH.cons rfl (fun K hK => ?_) (AllReadyH.nil)
      have hc1 := hv1.cell
      have hf1 := hv1.frozen
      have HF := Lib.hid (And.intro hk2 (And.intro hb2 (And.intro hv2 hr2)))
      have hS2 := HS.out _ hb2
      clear hv1 hv2 hr2 hk2 hb2 hb1 hown' hgrow hS
      go_simp
      refine hK.out _ _ hS2 (fun hS => ?_)
      clear hK K hc1 hf1 hS2
      refine wpAnyH_done (by kernel_rfl) ?_ _
      gi_wp2_with fail
      refine ⟨(HKO.out.trans HF.out.1).from _, ⟨HBV.out.trans HF.out.2.1, HKS.out.1.trans (by rw [HWD.out]), HKS.out.2.1.trans (by rw [HWD.out])⟩, ⟨_, HF.out.2.2.1, ?_, trivial⟩, HKS.out.2.2, (hB.trans HBV.out).trans HF.out.2.1⟩
      rw [List.map_append, List.map_cons, List.map_nil, svs_append2, List.length_append, HX.out]
      exact HF.out.2.2.2
  case done =>
    rintro D ys W hD rfl ⟨⟨v, hv, hrow, _⟩, ⟨bS, bN⟩, hB⟩ hK
    have hc := hv.cell
    gi_wp2
    refine ⟨by simp, .inl ⟨_, _, rfl, run_takeDeferred hK, ?_⟩⟩
    exact ⟨_, results_tmp rfl _ _ _, seats_of (by rw [List.length_map]) (ownsRow_putObj hrow _ hK rfl) (hB.trans (belowK_b (w := w) (Nat.le_refl _) W D _ _ (by omega) hK rfl rfl))⟩
  case stop =>
    rintro D c pre W _ _ h _
    exact h.elim

end Go.Proofs.Ytfalkiinlkfanaa
