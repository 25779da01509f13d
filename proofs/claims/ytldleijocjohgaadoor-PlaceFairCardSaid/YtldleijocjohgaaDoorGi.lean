/-
  The landed place: Place. No statement is proved here.
-/
import Derived.Test.YtldleijocjohgaaDoorGh
import Derived.RangeFuncNested
import Derived.Maps.AppendAt
namespace Go.Proofs.YtldleijocjohgaaDoor
open Go.RowKit Go.Shelf

attribute [local go_sem] Oper.semAt_some

theorem Boxed.below' {W W' : World} {B : Nat} {t : TypeId} {v : Value} (h : Boxed W B t v) (hb : Below W.heap.size W W') : Boxed W' B t v := (hb.block B (Boxed.lt h)).trans h
theorem put_info : (Tryd.prog.info? 52).map (fun i => (i.zero, i.size, i.bytes)) = some (some (.agg #[.int .i64 0, .int .i64 0]), 2, 16) := by kernel_rfl
theorem reads_two {w : World} {g : Nat} {t : TypeId} {a b : Value} (h : Blk w g t #[a, b]) : Reads w (g + 1) 2 (some ⟨g, 0, none⟩) 1 [a, b] :=
  ⟨rfl, fun _ => ⟨_, rfl, Nat.lt_succ_self g, fun j u hu => by
    match j, hu with
    | 0, hu => exact (h.cell 0).trans hu
    | 1, hu => exact (h.cell 1).trans hu
    | j + 2, hu => simp at hu⟩⟩
theorem svs_append2 (a : List (Int × Int)) (x : Int × Int) : svs (a ++ [x]) = svs a ++ sv x := by unfold svs; rw [flat_append, flat_one]
/-- placements in a row of one's own, a set, and a word -/
def PutsOf (ps : List (Int × Int)) (s E : Int) (w : World) (e : Ending) (w' : World) : Prop := ∃ v, e = .returned (.tuple #[v, .int .u32 s, .int .i64 E]) ∧ w'.ownsRow w.heap.size 52 2 v ps.length (svs ps) ∧ Below w.heap.size w w'
def placesL (l : List Wi) (s : Int) : List (Int × Int) := if whyE l s = 0 then putsOf (tus bestW l s.toNat) else []
def placesS (l : List Wi) (s : Int) : Int := if whyE l s = 0 then (lefts bestW l s.toNat : Int) else 0

set_option maxRecDepth 100000 in
set_option maxHeartbeats 4000000 in
theorem place_any (A : Option Addr) (n c : Nat) (l : List Wi) (s : Int) (w : World) (hs : U32 s) (hR : Reads w w.heap.size 4 A n (wivs l)) (hU : ∀ (k : Nat) (x : Wi), l[k]? = some x → UW x) (hn : n ≤ 1000) (hD : Db w) :
    Calls Tryd.prog 9 #[.slice A n c, .int .u32 s] w (PutsOf (placesL l s) (placesS l s) (whyE l s) w) := by
  have HL := wishes_len hR
  have HF := Lib.hid (prefused_any A n c l s w hs hR hU hn)
  unfold placesL placesS
  have h256 : whyE l s = 0 → s < 256 := why_small
  by_cases hE : whyE l s = 0
  · obtain ⟨S, hS⟩ := Int.eq_ofNat_of_zero_le hs.1
    have hS256 : S < 256 := by have := h256 hE; omega
    subst hS
    rw [if_pos hE, if_pos hE, hE, Int.toNat_natCast]
    rw [hE] at HF
    obtain ⟨i0, hi, hz0, hz1, hz2⟩ := info_parts put_info
    have HU := Lib.hid hU
    have HR := Lib.hid hR
    have HT := Lib.hid (fun u => turns_any A n c (S : Int) (.func 28) #[] u)
    have HD := Lib.hid hD
    have HN := Lib.hid hn
    have HS := Lib.hid hS256
    have HLL := Lib.hid HL
    clear hE h256 hs hR hU hD hn hS256 HL
    refine (callsIn_wide (n := 5)).1 ?_
    refine callsIn_of_wp_marks Tryd.func9 rfl trivial ?_ rfl
    simp only [Tryd.ntmps9, List.size_toArray, List.length_cons, List.length_nil, Nat.reduceAdd, Nat.reduceSub, Array.replicate_succ, Array.replicate_zero, List.push_toArray, List.append_toArray, List.nil_append, List.cons_append]
    gi_wp2_with fail
    refine ⟨trivial, ?_⟩
    refine (callsIn_wide.2 HF.out).mono ?_
    rintro e X ⟨rfl, h2⟩
    have HX := Lib.hid h2
    have hszX := h2.size
    clear h2
    gi_wp2_with fail
    refine ⟨trivial, ?_⟩
    refine (callsIn_wide.2 (HT.out _)).mono ?_
    rintro e V ⟨rfl, hV⟩
    gi_wp2_with fail
    clear hV
    obtain ⟨K8, K9, K2, K1, K3, hB4⟩ := blks5 X 26 24 22 24 87 #[.slice none 0 0] #[.int .u32 (S : Int)] #[.slice A n c] #[.int .u32 (S : Int)] #[.func (.func 28) #[] #[]]
    generalize ((((X.alloc (.cells #[.slice none 0 0] 26)).alloc (.cells #[.int .u32 (S : Int)] 24)).alloc (.cells #[.slice A n c] 22)).alloc (.cells #[.int .u32 (S : Int)] 24)).alloc (.cells #[.func (.func 28) #[] #[]] 87) = V at K8 K9 K2 K1 K3 hB4 ⊢
    have hgl : 0 < X.heap.size := Nat.lt_of_lt_of_le HD.out.lt hszX
    have hDV : Db V := (HD.out.below HX.out HD.out.lt).below hB4 hgl
    have hs := turnsBest_stops 4 (by decide) (X.heap.size + 1 + 1 + 1) (X.heap.size + 1 + 1) (X.heap.size + 1 + 1 + 1 + 1) X.heap.size (X.heap.size + 1 + 1 + 1 + 1) (X.heap.size + 1 + 1 + 1 + 1) A n c l S bestW V hB4.size K1 K2 K3 rfl K3.lt HS.out (((HR.out.below HX.out).more hszX).below hB4) HN.out (best_asked hDV hgl HU.out)
    have hlenT : (tus bestW l S).length ≤ 1000 := by rw [tus_length, HLL.out]; exact HN.out
    refine wpIn_rangeFunc_ownH rfl (by decide) (gf := 48) (lb := #[.pointer (some ⟨X.heap.size + 1 + 1 + 1, 0, none⟩), .pointer (some ⟨X.heap.size + 1 + 1, 0, none⟩), .pointer (some ⟨X.heap.size + 1 + 1 + 1 + 1, 0, none⟩)]) rfl trivial (enters_of Tryd.func48 (by kernel_rfl) rfl)
      hs keeps2_t (keeps2_b hB4.size K3.lt K3.lt) (Below.refl _ _) (fun _ => rfl)
      (fun pre W => (∃ v, Boxed W X.heap.size 26 v ∧ W.ownsRow X.heap.size 52 2 v (putsOf pre).length (svs (putsOf pre)) ∧ True) ∧ Blk W (X.heap.size + 1) 24 #[.int .u32 (stillOf pre S : Int)] ∧ Blk W (X.heap.size + 1 + 1 + 1 + 1) 87 #[.func (.func 28) #[] #[]] ∧ Below X.heap.size X W)
      (fun _ _ _ => False)
      (OwnFrom.and (Own.from (holdsRow_own X.heap.size X.heap.size 26 52 2 (fun (pre : List Tu) => (putsOf pre).length) (fun pre => svs (putsOf pre)) (fun _ _ => True)) _) (OwnFrom.and (fun pre W W' row h hg hr => own_blk _ _ _ () W W' row h hg (fun r e => (hr r e).2)) (OwnFrom.and (Own.from (own_blk _ _ _) _) (ownFrom_below (Nat.le_refl _) hB4.size))))
      (fun _ _ _ _ _ hs _ _ => hs)
      ⟨⟨_, K8, World.ownsRow_nil _ _ _ _, trivial⟩, K9, K3, hB4⟩
      (fun x a' W => ∃ g, a' = { tmps := #[.slice A n c, .int .u32 (S : Int), undef, undef, .slice none 0 0, .int .u32 0, .int .i64 0, .int .i64 0, .pointer (some ⟨X.heap.size, 0, none⟩), .pointer (some ⟨X.heap.size + 1, 0, none⟩), .pointer (some ⟨g, 0, none⟩), .slice A n c, .int .u32 (S : Int), .int .i64 0, .int .i64 0, .bool false, undef, .int .u32 (S : Int), .slice A n c, .int .u32 (S : Int), .func (.func 48) #[] #[.pointer (some ⟨X.heap.size + 1 + 1 + 1, 0, none⟩), .pointer (some ⟨X.heap.size + 1 + 1, 0, none⟩), .pointer (some ⟨X.heap.size + 1 + 1 + 1 + 1, 0, none⟩)], .agg (tuA x), .int .u32 (x.left : Int), undef, undef, undef, undef, undef, undef, undef, undef, undef, undef, undef, undef, undef, undef, undef, undef], defers := [] } ∧ Blk W g 66 (tuA x) ∧ X.heap.size + 1 + 1 + 1 + 1 < g)
      (fun x a' _ W W' row ⟨g, e, hk, hlt⟩ hg hr => ⟨g, e, own_blk g _ _ () W W' row hk hg (fun r er => (hr r er).2), hlt⟩) ?assign ?body ?done ?stop
    case assign =>
      rintro l' pre x W K ⟨⟨v, hv, hrow, _⟩, h9, hT, hB⟩ hK
      have hszW := hB.size
      have hT3 := hT.lt
      obtain ⟨⟨xv, xa, xh, xs⟩, xc, xp, xl⟩ := x
      unfold tuv tuA at *
      dsimp only at *
      gi_wp2
      exact hK _ _ ((KeepsOthers.alloc _ _).from _) (keeps2_of ((Below.refl _ _).alloc (Nat.le_refl _) _) hszW hT3 hT3) ⟨⟨v, hv.alloc _, hrow.alloc _, trivial⟩, h9.alloc _, hT.alloc _, hB.alloc hszW _⟩ ⟨W.heap.size, rfl, Blk.new _ _ _, hT3⟩
    case body =>
      rintro l' pre x a' W _ _ ⟨⟨v, hv, hrow, _⟩, hv9, hT, hB⟩ ⟨g, rfl, hk, hlt⟩ hlen
      have hplen : (putsOf pre).length < 1000 := by have := puts_le pre; omega
      clear hlen
      have hszW := hB.size
      have HYES := Lib.hid (fun (h : x.p = true) => puts_yes (ts := pre) h)
      have HNO := Lib.hid (fun (h : x.p = false) => puts_no (ts := pre) h)
      have HST := Lib.hid (still_step pre x S)
      have HS256 := Lib.hid (still_small pre S HS.out)
      have HPUT := Lib.hid (fun u => put_any x u)
      obtain ⟨⟨xv, xa, xh, xs⟩, xc, xp, xl⟩ := x
      unfold tuA at *
      dsimp only at *
      cases xp with
      | false =>
        have z5 := hk.cell 5
        have HV := Lib.hid (HNO.out rfl)
        rw [after_no] at HST
        clear HYES HNO
        gi_wp2
        exact ⟨KeepsFrom.refl _ _, ⟨Below.refl _ _, rfl, rfl⟩, ⟨v, hv, by rw [HV.out]; exact hrow, trivial⟩, by rw [HST.out]; exact hv9, hT, hB⟩
      | true =>
        have HV := Lib.hid (HYES.out rfl)
        rw [after_yes] at HST
        have HO := Lib.hid (fun u => out_any ((stillOf pre S : Nat) : Int) xc u (by omega) (by have := HS256.out; omega))
        rw [out_nonneg] at HO
        clear HYES HNO
        obtain ⟨A1, c1, rfl, _, _⟩ := own_reads hrow
        have z5 := hk.cell 5
        gi_wp2_with fail
        have hv : Boxed W.drew X.heap.size 26 (.slice A1 (putsOf pre).length c1) := hv
        have hrow : W.drew.ownsRow X.heap.size 52 2 (.slice A1 (putsOf pre).length c1) (putsOf pre).length (svs (putsOf pre)) := hrow
        have hv9 : Boxed W.drew (X.heap.size + 1) 24 (.int .u32 (stillOf pre S : Int)) := hv9
        have hT : Boxed W.drew (X.heap.size + 1 + 1 + 1 + 1) 87 (.func (.func 28) #[] #[]) := hT
        have hk : Blk W.drew g 66 #[.int .i64 xv, .int .i64 xa, .int .u32 xh, .int .u32 xs, .int .i64 xc, .bool true] := hk
        have HKD := Lib.hid (KeepsOthers.drew W)
        have HBD := Lib.hid ((Below.refl X.heap.size W).drew)
        have HTE : Hid (W.drew.heap[X.heap.size + 1 + 1 + 1 + 1]? = W.heap[X.heap.size + 1 + 1 + 1 + 1]?) := Lib.hid rfl
        replace hB := hB.drew
        clear z5
        refine region_in (S := fun u => Blk u g 66 #[.int .i64 xv, .int .i64 xa, .int .u32 xh, .int .u32 xs, .int .i64 xc, .bool true]) l' _ (fun _ _ h => h) (by kernel_rfl) (by kernel_rfl) hk (fun hS => ?_)
        have HTV := Lib.hid hT
        generalize W.drew = V2 at *
        have hszV := hB.size
        refine wpAnyH_take (i := 1) (v := .agg #[.int .i64 xv, .int .i64 xa, .int .u32 xh, .int .u32 xs, .int .i64 xc, .bool true]) rfl (by kernel_rfl) (by kernel_rfl) (by kernel_rfl) (fun _ _ _ h => h) (Or.inl ⟨by kernel_rfl, fun u hSw => (by have c0 := hSw.cell 0; have c1 := hSw.cell 1; have c2 := hSw.cell 2; have c3 := hSw.cell 3; have c4 := hSw.cell 4; have c5 := hSw.cell 5; go_simp)⟩) hS ?_
        refine wpAnyH_ready (rs := [0, 2]) (by kernel_rfl) (by simp) ?_
        refine AllReadyH.cons rfl (fun K hK => ?_) (AllReadyH.cons rfl (fun K hK => ?_) (AllReadyH.nil))
        · skip
          have hc := hv.cell
          go_simp
          refine hK.out _ _ hS (fun hS => ?_)
          clear hK K hc
          refine wpAnyH_ready (rs := [2]) (by kernel_rfl) (by simp) ?_
          refine AllReadyH.cons rfl (fun K hK => ?_) (AllReadyH.nil)
          go_simp
          refine (HPUT.out _).mono ?_
          rintro e W2 ⟨rfl, h2⟩
          have HKO2 := Lib.hid (KeepsOthers.of_grownBy (row := none) ⟨h2.os, h2.tape, h2.output, h2.size, fun k hk' _ => h2.block k hk'⟩ (fun j o e => by cases e))
          have hv2' := Boxed.below' hv h2
          have hv9' := Boxed.below' hv9 h2
          have hT' := Boxed.below' hT h2
          have hk' : Blk W2 g 66 #[.int .i64 xv, .int .i64 xa, .int .u32 xh, .int .u32 xs, .int .i64 xc, .bool true] := hk.below h2 hk.lt
          have hrow' := own_below hrow h2
          have hB2 := hB.trans (h2.mono hszV)
          have hszW2 := hB2.size
          have hBX := h2.mono hszV
          refine hK.out _ _ hk' (fun hS => ?_)
          clear hK K hv hv9 hT hk hrow h2
          refine wpAnyH_ready (rs := [3]) (by kernel_rfl) (by simp) ?_
          refine AllReadyH.cons rfl (fun K hK => ?_) (AllReadyH.nil)
          go_simp
          refine hK.out _ _ (hk'.alloc _) (fun hS => ?_)
          clear hK K
          refine wpAnyH_ready (rs := [4]) (by kernel_rfl) (by simp) ?_
          refine AllReadyH.cons rfl (fun K hK => ?_) (AllReadyH.nil)
          refine step_append_any _ rfl (.tmp 25) (.tmp 28) 26 rfl X.heap.size 52 i0 (.agg #[.int .i64 0, .int .i64 0]) 2 16 Tryd.underlying26 hi hz0 hz1 hz2 rfl (by decide) _ (putsOf pre).length _ rfl (hrow'.alloc _) _ (some ⟨W2.heap.size, 0, none⟩) 1 1 [.int .i64 xv, .int .i64 xc] rfl (reads_two (Blk.new W2 52 #[.int .i64 xv, .int .i64 xc])) (by simp [Value.oneCell']) (by simp only [maxLen]; omega) (by omega) (by simp; omega) ?_
          intro v' w1 hown' hgrow _
          obtain ⟨g', cap', rfl⟩ := ownsRow_succ hown'
          obtain ⟨hv1, hvn, hr2, hk2, hb2⟩ := Boxed.appended hv2' (by decide) hrow' hszW2 (by omega) hown' hgrow
          have hT1 : Boxed w1 (X.heap.size + 1 + 1 + 1 + 1) 87 _ := (Boxed.alloc hT' _).kept hgrow (Boxed.not_row hT' (by decide) hrow')
          have hT2 := Lib.hid (hT1.kept (grownBy_setCell' w1 (X.heap.size) (.slice (some ⟨g', 0, none⟩) ((putsOf pre).length + 1) cap')) (by intro e; injection e with e; omega))
          have hN1 : Boxed w1 (X.heap.size + 1) 24 _ := (Boxed.alloc hv9' _).kept hgrow (Boxed.not_row hv9' (by decide) hrow')
          have hN2 := Lib.hid (hN1.kept (grownBy_setCell' w1 (X.heap.size) (.slice (some ⟨g', 0, none⟩) ((putsOf pre).length + 1) cap')) (by intro e; injection e with e; omega))
          have hk1 : Blk w1 g 66 #[.int .i64 xv, .int .i64 xa, .int .u32 xh, .int .u32 xs, .int .i64 xc, .bool true] := (hk'.alloc _).grown hgrow (hk'.not_row (by decide) hrow')
          have hkn := Lib.hid (hk1.far (p := ⟨X.heap.size, 0, none⟩) (by dsimp only; omega) (.slice (some ⟨g', 0, none⟩) ((putsOf pre).length + 1) cap'))
          have HF := Lib.hid (And.intro (HKO2.out.trans hk2) (And.intro (hBX.trans hb2) (And.intro hvn hr2)))
          have HBn := Lib.hid (hB2.trans hb2)
          refine hK.out _ _ hk1 (fun hS => ?_)
          clear hK K
          refine wpAnyH_ready (rs := [5]) (by kernel_rfl) (by simp) ?_
          refine AllReadyH.cons rfl (fun K hK => ?_) (AllReadyH.nil)
          have hc1 := hv1.cell
          have hf1 := hv1.frozen
          clear hv1 hvn hr2 hk2 hb2 hown' hgrow hS hT1 hN1 hk1 hB2 hBX
          go_simp
          refine hK.out _ _ hkn.out (fun hS => ?_)
          clear hK K hc1 hf1
          refine wpAnyH_done (by kernel_rfl) ?_ _
          clear hS
          generalize World.setCell w1 _ _ = Wn at HF HBn hT2 hN2 hkn ⊢
          have z4 := hkn.out.cell 4
          have y9 := hN2.out.cell
          have f9 := hN2.out.frozen
          generalize (outV ((stillOf pre S : Nat) : Int) xc).2 = oe at *
          gi_wp2_with fail
          refine ⟨trivial, ?_⟩
          refine (callsIn_wide.2 (HO.out _)).mono ?_
          rintro e w4 ⟨rfl, rfl⟩
          gi_wp2
          have hT4 : Boxed (Wn.setCell ⟨X.heap.size + 1, 0, none⟩ (.int .u32 (outN (stillOf pre S) xc : Int))) (X.heap.size + 1 + 1 + 1 + 1) 87 _ := hT2.out.kept (grownBy_setCell' _ _ _) (by intro e; injection e with e; omega)
          have hTe := (show _ = _ from hT4).trans ((show _ = _ from HTV.out).symm.trans HTE.out)
          refine ⟨((HKD.out.trans HF.out.1).trans (KeepsOthers.setCell _ _ _)).from _, ⟨(HBD.out.trans HF.out.2.1).setCell (p := ⟨X.heap.size + 1, 0, none⟩) (by dsimp only; omega) _, hTe, hTe⟩, ⟨_, HF.out.2.2.1.kept (grownBy_setCell' _ _ _) (by intro e; injection e with e; omega), ?_, trivial⟩, ?_, hT4, HBn.out.setCell (p := ⟨X.heap.size + 1, 0, none⟩) (by dsimp only; omega) _⟩
          · rw [HV.out, svs_append2, List.length_append]
            exact HF.out.2.2.2.kept (grownBy_setCell' _ _ _) (.inr (Boxed.not_row hN2.out (by decide) HF.out.2.2.2).symm)
          · rw [HST.out]; exact Boxed.set _ hN2.out
        · skip
          go_simp
          refine (HPUT.out _).mono ?_
          rintro e W2 ⟨rfl, h2⟩
          have HKO2 := Lib.hid (KeepsOthers.of_grownBy (row := none) ⟨h2.os, h2.tape, h2.output, h2.size, fun k hk' _ => h2.block k hk'⟩ (fun j o e => by cases e))
          have hv2' := Boxed.below' hv h2
          have hv9' := Boxed.below' hv9 h2
          have hT' := Boxed.below' hT h2
          have hk' : Blk W2 g 66 #[.int .i64 xv, .int .i64 xa, .int .u32 xh, .int .u32 xs, .int .i64 xc, .bool true] := hk.below h2 hk.lt
          have hrow' := own_below hrow h2
          have hB2 := hB.trans (h2.mono hszV)
          have hszW2 := hB2.size
          have hBX := h2.mono hszV
          refine hK.out _ _ hk' (fun hS => ?_)
          clear hK K hv hv9 hT hk hrow h2
          refine wpAnyH_ready (rs := [0, 3]) (by kernel_rfl) (by simp) ?_
          refine AllReadyH.cons rfl (fun K hK => ?_) (AllReadyH.cons rfl (fun K hK => ?_) (AllReadyH.nil))
          · skip
            have hc := hv2'.cell
            go_simp
            refine hK.out _ _ hS (fun hS => ?_)
            clear hK K hc
            refine wpAnyH_ready (rs := [3]) (by kernel_rfl) (by simp) ?_
            refine AllReadyH.cons rfl (fun K hK => ?_) (AllReadyH.nil)
            go_simp
            refine hK.out _ _ (hk'.alloc _) (fun hS => ?_)
            clear hK K
            refine wpAnyH_ready (rs := [4]) (by kernel_rfl) (by simp) ?_
            refine AllReadyH.cons rfl (fun K hK => ?_) (AllReadyH.nil)
            refine step_append_any _ rfl (.tmp 25) (.tmp 28) 26 rfl X.heap.size 52 i0 (.agg #[.int .i64 0, .int .i64 0]) 2 16 Tryd.underlying26 hi hz0 hz1 hz2 rfl (by decide) _ (putsOf pre).length _ rfl (hrow'.alloc _) _ (some ⟨W2.heap.size, 0, none⟩) 1 1 [.int .i64 xv, .int .i64 xc] rfl (reads_two (Blk.new W2 52 #[.int .i64 xv, .int .i64 xc])) (by simp [Value.oneCell']) (by simp only [maxLen]; omega) (by omega) (by simp; omega) ?_
            intro v' w1 hown' hgrow _
            obtain ⟨g', cap', rfl⟩ := ownsRow_succ hown'
            obtain ⟨hv1, hvn, hr2, hk2, hb2⟩ := Boxed.appended hv2' (by decide) hrow' hszW2 (by omega) hown' hgrow
            have hT1 : Boxed w1 (X.heap.size + 1 + 1 + 1 + 1) 87 _ := (Boxed.alloc hT' _).kept hgrow (Boxed.not_row hT' (by decide) hrow')
            have hT2 := Lib.hid (hT1.kept (grownBy_setCell' w1 (X.heap.size) (.slice (some ⟨g', 0, none⟩) ((putsOf pre).length + 1) cap')) (by intro e; injection e with e; omega))
            have hN1 : Boxed w1 (X.heap.size + 1) 24 _ := (Boxed.alloc hv9' _).kept hgrow (Boxed.not_row hv9' (by decide) hrow')
            have hN2 := Lib.hid (hN1.kept (grownBy_setCell' w1 (X.heap.size) (.slice (some ⟨g', 0, none⟩) ((putsOf pre).length + 1) cap')) (by intro e; injection e with e; omega))
            have hk1 : Blk w1 g 66 #[.int .i64 xv, .int .i64 xa, .int .u32 xh, .int .u32 xs, .int .i64 xc, .bool true] := (hk'.alloc _).grown hgrow (hk'.not_row (by decide) hrow')
            have hkn := Lib.hid (hk1.far (p := ⟨X.heap.size, 0, none⟩) (by dsimp only; omega) (.slice (some ⟨g', 0, none⟩) ((putsOf pre).length + 1) cap'))
            have HF := Lib.hid (And.intro (HKO2.out.trans hk2) (And.intro (hBX.trans hb2) (And.intro hvn hr2)))
            have HBn := Lib.hid (hB2.trans hb2)
            refine hK.out _ _ hk1 (fun hS => ?_)
            clear hK K
            refine wpAnyH_ready (rs := [5]) (by kernel_rfl) (by simp) ?_
            refine AllReadyH.cons rfl (fun K hK => ?_) (AllReadyH.nil)
            have hc1 := hv1.cell
            have hf1 := hv1.frozen
            clear hv1 hvn hr2 hk2 hb2 hown' hgrow hS hT1 hN1 hk1 hB2 hBX
            go_simp
            refine hK.out _ _ hkn.out (fun hS => ?_)
            clear hK K hc1 hf1
            refine wpAnyH_done (by kernel_rfl) ?_ _
            clear hS
            generalize World.setCell w1 _ _ = Wn at HF HBn hT2 hN2 hkn ⊢
            have z4 := hkn.out.cell 4
            have y9 := hN2.out.cell
            have f9 := hN2.out.frozen
            generalize (outV ((stillOf pre S : Nat) : Int) xc).2 = oe at *
            gi_wp2_with fail
            refine ⟨trivial, ?_⟩
            refine (callsIn_wide.2 (HO.out _)).mono ?_
            rintro e w4 ⟨rfl, rfl⟩
            gi_wp2
            have hT4 : Boxed (Wn.setCell ⟨X.heap.size + 1, 0, none⟩ (.int .u32 (outN (stillOf pre S) xc : Int))) (X.heap.size + 1 + 1 + 1 + 1) 87 _ := hT2.out.kept (grownBy_setCell' _ _ _) (by intro e; injection e with e; omega)
            have hTe := (show _ = _ from hT4).trans ((show _ = _ from HTV.out).symm.trans HTE.out)
            refine ⟨((HKD.out.trans HF.out.1).trans (KeepsOthers.setCell _ _ _)).from _, ⟨(HBD.out.trans HF.out.2.1).setCell (p := ⟨X.heap.size + 1, 0, none⟩) (by dsimp only; omega) _, hTe, hTe⟩, ⟨_, HF.out.2.2.1.kept (grownBy_setCell' _ _ _) (by intro e; injection e with e; omega), ?_, trivial⟩, ?_, hT4, HBn.out.setCell (p := ⟨X.heap.size + 1, 0, none⟩) (by dsimp only; omega) _⟩
            · rw [HV.out, svs_append2, List.length_append]
              exact HF.out.2.2.2.kept (grownBy_setCell' _ _ _) (.inr (Boxed.not_row hN2.out (by decide) HF.out.2.2.2).symm)
            · rw [HST.out]; exact Boxed.set _ hN2.out
          · skip
            go_simp
            refine hK.out _ _ (hk'.alloc _) (fun hS => ?_)
            clear hK K
            refine wpAnyH_ready (rs := [0]) (by kernel_rfl) (by simp) ?_
            refine AllReadyH.cons rfl (fun K hK => ?_) (AllReadyH.nil)
            have hc := (Boxed.alloc hv2' (.cells #[.int .i64 xv, .int .i64 xc] 52)).cell
            go_simp
            refine hK.out _ _ hS (fun hS => ?_)
            clear hK K hc
            refine wpAnyH_ready (rs := [4]) (by kernel_rfl) (by simp) ?_
            refine AllReadyH.cons rfl (fun K hK => ?_) (AllReadyH.nil)
            refine step_append_any _ rfl (.tmp 25) (.tmp 28) 26 rfl X.heap.size 52 i0 (.agg #[.int .i64 0, .int .i64 0]) 2 16 Tryd.underlying26 hi hz0 hz1 hz2 rfl (by decide) _ (putsOf pre).length _ rfl (hrow'.alloc _) _ (some ⟨W2.heap.size, 0, none⟩) 1 1 [.int .i64 xv, .int .i64 xc] rfl (reads_two (Blk.new W2 52 #[.int .i64 xv, .int .i64 xc])) (by simp [Value.oneCell']) (by simp only [maxLen]; omega) (by omega) (by simp; omega) ?_
            intro v' w1 hown' hgrow _
            obtain ⟨g', cap', rfl⟩ := ownsRow_succ hown'
            obtain ⟨hv1, hvn, hr2, hk2, hb2⟩ := Boxed.appended hv2' (by decide) hrow' hszW2 (by omega) hown' hgrow
            have hT1 : Boxed w1 (X.heap.size + 1 + 1 + 1 + 1) 87 _ := (Boxed.alloc hT' _).kept hgrow (Boxed.not_row hT' (by decide) hrow')
            have hT2 := Lib.hid (hT1.kept (grownBy_setCell' w1 (X.heap.size) (.slice (some ⟨g', 0, none⟩) ((putsOf pre).length + 1) cap')) (by intro e; injection e with e; omega))
            have hN1 : Boxed w1 (X.heap.size + 1) 24 _ := (Boxed.alloc hv9' _).kept hgrow (Boxed.not_row hv9' (by decide) hrow')
            have hN2 := Lib.hid (hN1.kept (grownBy_setCell' w1 (X.heap.size) (.slice (some ⟨g', 0, none⟩) ((putsOf pre).length + 1) cap')) (by intro e; injection e with e; omega))
            have hk1 : Blk w1 g 66 #[.int .i64 xv, .int .i64 xa, .int .u32 xh, .int .u32 xs, .int .i64 xc, .bool true] := (hk'.alloc _).grown hgrow (hk'.not_row (by decide) hrow')
            have hkn := Lib.hid (hk1.far (p := ⟨X.heap.size, 0, none⟩) (by dsimp only; omega) (.slice (some ⟨g', 0, none⟩) ((putsOf pre).length + 1) cap'))
            have HF := Lib.hid (And.intro (HKO2.out.trans hk2) (And.intro (hBX.trans hb2) (And.intro hvn hr2)))
            have HBn := Lib.hid (hB2.trans hb2)
            refine hK.out _ _ hk1 (fun hS => ?_)
            clear hK K
            refine wpAnyH_ready (rs := [5]) (by kernel_rfl) (by simp) ?_
            refine AllReadyH.cons rfl (fun K hK => ?_) (AllReadyH.nil)
            have hc1 := hv1.cell
            have hf1 := hv1.frozen
            clear hv1 hvn hr2 hk2 hb2 hown' hgrow hS hT1 hN1 hk1 hB2 hBX
            go_simp
            refine hK.out _ _ hkn.out (fun hS => ?_)
            clear hK K hc1 hf1
            refine wpAnyH_done (by kernel_rfl) ?_ _
            clear hS
            generalize World.setCell w1 _ _ = Wn at HF HBn hT2 hN2 hkn ⊢
            have z4 := hkn.out.cell 4
            have y9 := hN2.out.cell
            have f9 := hN2.out.frozen
            generalize (outV ((stillOf pre S : Nat) : Int) xc).2 = oe at *
            gi_wp2_with fail
            refine ⟨trivial, ?_⟩
            refine (callsIn_wide.2 (HO.out _)).mono ?_
            rintro e w4 ⟨rfl, rfl⟩
            gi_wp2
            have hT4 : Boxed (Wn.setCell ⟨X.heap.size + 1, 0, none⟩ (.int .u32 (outN (stillOf pre S) xc : Int))) (X.heap.size + 1 + 1 + 1 + 1) 87 _ := hT2.out.kept (grownBy_setCell' _ _ _) (by intro e; injection e with e; omega)
            have hTe := (show _ = _ from hT4).trans ((show _ = _ from HTV.out).symm.trans HTE.out)
            refine ⟨((HKD.out.trans HF.out.1).trans (KeepsOthers.setCell _ _ _)).from _, ⟨(HBD.out.trans HF.out.2.1).setCell (p := ⟨X.heap.size + 1, 0, none⟩) (by dsimp only; omega) _, hTe, hTe⟩, ⟨_, HF.out.2.2.1.kept (grownBy_setCell' _ _ _) (by intro e; injection e with e; omega), ?_, trivial⟩, ?_, hT4, HBn.out.setCell (p := ⟨X.heap.size + 1, 0, none⟩) (by dsimp only; omega) _⟩
            · rw [HV.out, svs_append2, List.length_append]
              exact HF.out.2.2.2.kept (grownBy_setCell' _ _ _) (.inr (Boxed.not_row hN2.out (by decide) HF.out.2.2.2).symm)
            · rw [HST.out]; exact Boxed.set _ hN2.out
    case done =>
      rintro D ys W hD rfl ⟨⟨v, hv, hrow, _⟩, hv9, hT, hB⟩ hK
      have y8 := hv.cell
      have y9 := hv9.cell 0
      have hszX' := hB4.size
      have HST := Lib.hid (still_lefts bestW l S)
      gi_wp2_with fail
      gi_region
      gi_wp2
      refine ⟨by simp, .inl ⟨_, _, rfl, run_takeDeferred (by exact hK), ?_⟩⟩
      exact ⟨_, results_tmp3 rfl _ _ _, _, by rw [← HST.out]; rfl, own_down (ownsRow_putObj (W := W.drew) hrow _ hK rfl) hszX, HX.out.trans ((hB.drew.trans (belowK_b (w := X) (Nat.le_refl _) W.drew D _ _ (by omega) hK rfl rfl)).mono hszX)⟩
    case stop =>
      rintro D c pre W _ _ h _
      exact h.elim
  · rw [if_neg hE, if_neg hE]
    have q : (whyE l s != 0) = true := by simpa using hE
    generalize whyE l s = E at *
    clear hE h256 hs hR hU hn hD HL
    refine (callsIn_wide (n := 5)).1 ?_
    refine callsIn_of_wp_marks Tryd.func9 rfl trivial ?_ rfl
    simp only [Tryd.ntmps9, List.size_toArray, List.length_cons, List.length_nil, Nat.reduceAdd, Nat.reduceSub, Array.replicate_succ, Array.replicate_zero, List.push_toArray, List.append_toArray, List.nil_append, List.cons_append]
    gi_wp2_with fail
    refine ⟨trivial, ?_⟩
    refine (callsIn_wide.2 HF.out).mono ?_
    rintro e X ⟨rfl, h2⟩
    gi_wp2
    exact ⟨_, results_tmp3 rfl _ _ _, _, rfl, World.ownsRow_nil _ _ _ _, h2⟩

end Go.Proofs.YtldleijocjohgaaDoor
