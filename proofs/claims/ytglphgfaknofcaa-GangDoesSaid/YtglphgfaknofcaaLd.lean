/-
  The document's Leave. No statement is proved here.
-/
import Derived.Test.YtglphgfaknofcaaLc
namespace Go.Proofs.Ytglphgfaknofcaa
open Go.RowKit Go.Maps

theorem erase_filter {l : List Gm} (h : AllG l) {k : Nat} {g : Gm} (hk : l[k]? = some g) : l.filter (notV g.1) = l.eraseIdx k := by
  have e : l = l.take k ++ g :: l.drop (k + 1) := by rw [← drop_cons hk, List.take_append_drop]
  have hne : ∀ (j : Nat) (x : Gm), j ≠ k → l[j]? = some x → notV g.1 x = true := fun j x hj hx => by
    unfold notV
    have : x.1 ≠ g.1 := by
      rcases Nat.lt_or_gt_of_ne hj with h1 | h1
      · have := ids_rise h hx hk h1; omega
      · have := ids_rise h hk hx h1; omega
    simp [this]
  have h1 : (l.take k).filter (notV g.1) = l.take k := List.filter_eq_self.2 fun x hx => by
    obtain ⟨j, hj⟩ := List.mem_iff_getElem?.1 hx
    rw [List.getElem?_take] at hj
    split at hj
    · rename_i hlt; exact hne j x (by omega) hj
    · cases hj
  have h2 : (l.drop (k + 1)).filter (notV g.1) = l.drop (k + 1) := List.filter_eq_self.2 fun x hx => by
    obtain ⟨j, hj⟩ := List.mem_iff_getElem?.1 hx
    rw [List.getElem?_drop] at hj
    exact hne _ x (by omega) hj
  have h3 : notV g.1 g = false := by unfold notV; simp
  rw [List.eraseIdx_eq_take_drop_succ]
  conv => lhs; rw [e]
  rw [List.filter_append, List.filter_cons, h3, h1, h2]
  rfl
theorem am_of {l : List Gm} (h : rightG l = true) (p : Gm → Bool) : (l.find? p = none ∧ amV p l = (0, 4)) ∨ ∃ (k : Nat) (g : Gm), l[k]? = some g ∧ l.find? p = some g ∧ amV p l = ((k : Int), 0) ∧ p g = true := by
  rcases am_fnd p l with ⟨e, h1, h2, h3, h4⟩ | ⟨k, g, h1, h2, h3, h4, _, _⟩
  · left
    unfold fndV at h3
    rw [if_pos h] at h3
    rw [if_pos h] at h4
    exact ⟨h3, by rw [h1, h4]⟩
  · right
    unfold fndV at h3
    rw [if_pos h] at h3
    exact ⟨k, g, h2, h3, h1, h4⟩
theorem part_run {l : List Gm} (h : rightG l = true) (i : Int) : dpartV l i = ((amV (isV i) l).2, if (amV (isV i) l).2 = 0 then l.eraseIdx (plV (isV i) l) else []) := by
  unfold dpartV
  rcases am_of h (isV i) with ⟨h1, h2⟩ | ⟨k, g, h1, h2, h3, h4⟩
  · rw [h1, h2]; rfl
  · have hp : plV (isV i) l = k := by unfold plV; rw [h3]; rfl
    have hg : g.1 = i := by unfold isV at h4; simpa using h4
    rw [h2, h3, hp, if_pos rfl, ← hg]
    dsimp only
    rw [erase_filter (right_all h) h1]
def dleaveV (l : List Gm) (v : Int) : Int × List Gm := ((amV (hasV v) l).2, if (amV (hasV v) l).2 = 0 then leaveL v l else [])
theorem own_set1 {W w1 : World} {B n c k : Nat} {A : Option Addr} {G : List Gn} (h : NO W B A n c G) {id : Int} {A3 : Option Addr} {m c3 : Nat} {is : List Int} (hx : G[k]? = some (id, A3, m, c3, is)) (hb : Below W.heap.size W w1) (hn : n ≤ 100) (hm : ∀ g ∈ G, g.2.2.1 ≤ 100)
    {Al : Option Addr} {nl cl : Nat} {ls : List Int} (hl : IR w1 Al nl ls) (hl9 : nl ≤ 100) (hf : ∀ ad, Al = some ad → 0 < nl → W.heap.size ≤ ad.block) :
    ∃ gr, A = some ⟨gr, 0, none⟩ ∧ B ≤ gr ∧ gr < W.heap.size ∧ (∃ u, w1.cell? ⟨gr, k * 2 + 1, none⟩ = some u) ∧ w1.frozen? ⟨gr, k * 2 + 1, none⟩ = false ∧ NW (w1.setCell ⟨gr, k * 2 + 1, none⟩ (.slice Al nl cl)) A n (G.set k (id, Al, nl, cl, ls)) := by
  have hkl := (List.getElem?_eq_some_iff.1 hx).1
  have hlen := h.len
  have h1 := h.below hb
  obtain ⟨gr, cur, rfl, hbg, K, hnc, hcm, hsz, ht⟩ := blk_own h1.row (by omega)
  have hgr : gr < W.heap.size := (h.row.lt gr rfl).2
  refine ⟨gr, rfl, hbg, hgr, ⟨_, by rw [K.cell]; exact Array.getElem?_eq_getElem (by rw [hsz]; omega)⟩, K.frozen _, ⟨?_, hn, fun z hz => ?_⟩⟩
  · refine Reads.of_own (own_blk (b := B) (c := c) (K.set_ (k * 2 + 1) _) hbg hcm (by rw [Array.size_setIfInBounds, hsz]) hnc ?_)
    rw [Array.toList_setIfInBounds, List.take_set, ht, flat_set2 _ k (id, A3, m, c3, is) (Al, nl, cl, ls) hx]
  · have hset : ∀ (v : Value), w1.grownBy (w1.setCell ⟨gr, k * 2 + 1, none⟩ v) (some gr) := fun v => ⟨rfl, rfl, rfl, by simp [World.setCell], fun j _ hne => Below.heap_setCell w1 _ v j (fun he => hne (by rw [he]))⟩
    rcases set_mem_split hz hkl with rfl | hz
    · exact ⟨ir_grown (g := gr) hl (fun ad hA h0 => by have := hf ad hA h0; omega) (hset _), hl9⟩
    · have hzm := List.mem_of_mem_eraseIdx hz
      refine ⟨ir_grown (g := gr) ⟨Reads.of_own (h1.mem z hzm), by have := hm z hzm; omega⟩ (fun ad hA h0 he => ?_) (hset _), hm z hzm⟩
      have hk : (slG z.2).ownBlock = some ad.block := by
        unfold slG
        rcases (h1.mem z hzm).2 with ⟨h5, h6⟩ | ⟨k2, cap, cur2, h5, h6, _⟩
        · omega
        · unfold slG at h5
          injection h5 with e1 e2 e3
          rw [hA] at e1
          injection e1 with e1
          subst e1
          rw [hA]
          rfl
      exact h.ne z hzm _ gr hk rfl he

theorem at_zero (g j : Nat) : (⟨g, 0, none⟩ : Addr).add j = ⟨g, j, none⟩ := by simp [Addr.add]; exact fun h => h.symm
theorem own_from {w : World} {B b n s : Nat} {e : TypeId} {A : Option Addr} {c m : Nat} {xs : List Value} (h : w.ownsRow B e s (.slice A m c) n xs) (hb : b ≤ B) : ∀ ad, A = some ad → 0 < n → b ≤ ad.block := by
  intro ad hA h0
  have hk : (Value.slice A m c).ownBlock = some ad.block := by
    rcases h.2 with ⟨h1, h2⟩ | ⟨k, cap, cur, h1, h2, _⟩
    · omega
    · injection h1 with e1 e2 e3
      rw [hA] at e1
      injection e1 with e1
      subst e1
      rw [hA]
      rfl
  have := (h.lt _ hk).1
  omega
theorem off_set {b n k : Nat} {A : Option Addr} {G : List Gn} {x : Gn} (h : OffB b A n G) (hx : ∀ ad, x.2.1 = some ad → 0 < x.2.2.1 → ad.block ≠ b) : OffB b A n (G.set k x) :=
  ⟨h.row, fun z hz => by
    rcases List.mem_or_eq_of_mem_set hz with hz | rfl
    · exact h.mem z hz
    · exact hx⟩
/-- what has been changed: the gangs that lie there now, and the variables -/
def LvR (w : World) (A : Option Addr) (n c g7 : Nat) (L : List Gm) (wr : World) : Prop :=
  ∃ G', NW wr A n G' ∧ gsM G' = L ∧ (∀ b, b < w.heap.size → OffB b A n G') ∧ OffB (w.heap.size + 1) A n G' ∧ Blk wr (w.heap.size + 1) 24 #[.slice none 0 0] ∧ Blk wr g7 24 #[.slice A n c] ∧ Below w.heap.size w wr

set_option maxRecDepth 100000 in
set_option maxHeartbeats 32000000 in
theorem dleave_any (A : Option Addr) (n c : Nat) (gs : List Gn) (v : Int) (w : World) (hG : NW w A n gs) (hr : rightG (gsM gs) = true) :
    Calls Try.prog 36 #[.agg #[.slice A n c], .int .i64 v] w (DSaid (dleaveV (gsM gs) v) w) := by
  obtain ⟨i0, ii, hz0, hz1, hz2⟩ := info_parts9 int_info
  obtain ⟨K0, K1, GB⟩ := blks2 w 24 24 #[.slice A n c] #[.slice none 0 0]
  have hAll := right_all hr
  have HG := Lib.hid hG
  have HAll := Lib.hid hAll
  have HOf := Lib.hid (fun (u : World) (h : Below w.heap.size w u) => dof_any A n c gs v u (hG.below h))
  have HGe := Lib.hid (fun (i : Int) (u : World) (h : Below w.heap.size w u) => dget_any A n c gs i u (hG.below h))
  have HCo := Lib.hid (fun (u : World) (h : Below w.heap.size w u) => dcopy_any A n c gs u (hG.below h))
  have HPt := Lib.hid (fun (i : Int) (u : World) (h : Below w.heap.size w u) => dpart_any A n c gs i u (hG.below h) (right_each hr))
  have hw1 : w.heap.size + 1 < ((w.alloc (.cells #[.slice A n c] 24)).alloc (.cells #[.slice none 0 0] 24)).heap.size := K1.lt
  have z0 := K0.cell 0
  rcases am_of hr (hasV v) with ⟨hf, ham⟩ | ⟨kk, g, hkk, hf, ham, hpg⟩
  · have HV : Hid (dleaveV (gsM gs) v = (4, [])) := Lib.hid (by unfold dleaveV; rw [ham]; rfl)
    rw [show dofV (gsM gs) v = 0 from by unfold dofV; rw [hf]] at HOf
    clear hG hr hAll hf ham HG HAll HGe HCo HPt hw1
    go_enter Try.func36, Try.ntmps36
    go_wp2_with fail
    refine (HOf.out _ GB).mono ?_
    rintro e w1 ⟨rfl, h9⟩
    replace K1 := K1.below h9 K1.lt
    replace GB := GB.trans (h9.mono GB.size)
    clear h9 z0 K0
    have d0 := K1.cell 0
    have f0 := K1.frozen 0
    have HP := Lib.hid (put1 (x := .slice none 0 0) K1 GB (by omega))
    clear K1 GB
    go_wp2_with fail
    exact bodyPost_ret (v := .tuple #[.agg #[.slice none 0 0], .int .i64 4]) (results_cell_row_tmp Try.results36 _ _ _ _ _ _ rfl HP.out.1 Try.underlying24 rfl (by kernel_rfl)) rfl ⟨none, 0, 0, [], by rw [HV.out], nw_nil, by rw [HV.out]; rfl, Nat.le_refl _, fun _ _ => offb_nil, HP.out.2⟩
  · obtain ⟨gi, ig⟩ := g
    have hgm := List.mem_of_getElem? hkk
    have hmb := (hAll.1 _ hgm).2.2
    have hid0 := (hAll.1 _ hgm).1
    have hvg : v ∈ ig := has_iff.1 hpg
    have hll := less_len (members_nodup hmb) hvg
    have hml := members_len hmb
    have hfi : (gsM gs).find? (isV gi) = some (gi, ig) := by have q := find_is hAll hgm; unfold fndV at q; rwa [if_pos hr] at q
    obtain ⟨adg, mg, cg, isg, hgv, hIg, hisg, _⟩ := dget_some hG (right_each hr) hfi
    dsimp only at hmb hid0 hml hll hisg
    subst hisg
    have hmg : mg = ig.length := hIg.len.symm
    have HD0 : Hid ((gi == 0) = false) := Lib.hid (by simp; omega)
    rw [show dofV (gsM gs) v = gi from by unfold dofV; rw [hf]] at HOf
    have HGe2 : Hid (∀ u, Below w.heap.size w u → Calls Try.prog 21 #[.agg #[.slice A n c], .int .i64 gi] u (Said (.slice (some adg) mg cg) u)) := Lib.hid (fun u h => by have q := HGe.out gi u h; rwa [hgv] at q)
    by_cases h2 : ig.length = 2
    · have HV : Hid (dleaveV (gsM gs) v = dpartV (gsM gs) gi) := Lib.hid (by
        unfold dleaveV dpartV
        rw [ham, if_pos rfl, leaveL_at ham rfl hkk, hfi]
        unfold leftG
        dsimp only
        rw [if_pos (by omega), erase_filter hAll hkk])
      obtain ⟨PV, hPV⟩ : ∃ PV, dpartV (gsM gs) gi = PV := ⟨_, rfl⟩
      have HP0 := Lib.hid (fun (u : World) (h : Below w.heap.size w u) => HPt.out gi u h)
      rw [hPV] at HP0 HV
      have q2 : ((mg : Int) == 2) = true := by simp; omega
      have g9 := HD0.out
      clear hG hr hAll hf ham hpg hkk hgm hmb hid0 hvg hll hml hfi hgv hIg hmg h2 hPV HG HAll HGe HCo HPt HD0
      go_enter Try.func36, Try.ntmps36
      go_wp2_with fail
      refine (HOf.out _ GB).mono ?_
      rintro e w1 ⟨rfl, h9⟩
      replace K0 := K0.below h9 K0.lt
      replace K1 := K1.below h9 K1.lt
      replace GB := GB.trans (h9.mono GB.size)
      clear h9 z0
      have z0 := K0.cell 0
      go_wp2_with fail
      refine (HGe2.out _ GB).mono ?_
      rintro e w2 ⟨rfl, h9⟩
      replace K0 := K0.below h9 K0.lt
      replace K1 := K1.below h9 K1.lt
      replace GB := GB.trans (h9.mono GB.size)
      clear h9 z0
      have z0 := K0.cell 0
      go_wp2_with fail
      have HL1 := Lib.hid K1.lt
      have HL2 := Lib.hid GB.size
      refine (HP0.out _ GB).mono ?_
      rintro e w3 ⟨Ap, np, cp, Gp, rfl, hNp, hEp, hcp, hOp, h9⟩
      replace K1 := K1.below h9 K1.lt
      replace GB := GB.trans (h9.mono GB.size)
      clear z0 K0
      have d0 := K1.cell 0
      have f0 := K1.frozen 0
      have HP := Lib.hid (put1 (x := .slice Ap np cp) K1 GB (by omega))
      have HNN := Lib.hid (nw_kept hNp (hOp _ HL1.out) (grownBy_setCell0 w3 (w.heap.size + 1) (.slice Ap np cp)))
      have HEP := Lib.hid hEp
      have HCP := Lib.hid hcp
      have HOP : Hid (∀ b, b < w.heap.size → OffB b Ap np Gp) := Lib.hid (fun b hb => hOp b (by have := HL2.out; omega))
      clear K1 GB hNp hEp hcp hOp h9
      go_wp2_with fail
      exact bodyPost_ret (v := .tuple #[.agg #[.slice Ap np cp], .int .i64 PV.1]) (results_cell_row_tmp Try.results36 _ _ _ _ _ _ rfl HP.out.1 Try.underlying24 rfl (by kernel_rfl)) rfl ⟨Ap, np, cp, Gp, by rw [HV.out], HNN.out, by rw [HV.out]; exact HEP.out, HCP.out, HOP.out, HP.out.2⟩
    · have HV : Hid (dleaveV (gsM gs) v = (0, (gsM gs).set kk (gi, lessL v ig))) := Lib.hid (by
        unfold dleaveV
        rw [ham, if_pos rfl, leaveL_at ham rfl hkk]
        unfold leftG
        dsimp only
        rw [if_neg (by omega)])
      have q2 : ((mg : Int) == 2) = false := by simp; omega
      have g9 := HD0.out
      have HKK := Lib.hid hkk
      have HM8 : Hid (ig.length ≤ 8) := Lib.hid hml.2
      clear hG hr hAll hf ham hpg hkk hgm hmb hid0 hvg hll hml hfi hgv hIg hmg h2 HG HGe HPt HD0
      go_enter Try.func36, Try.ntmps36
      go_wp2_with fail
      refine (HOf.out _ GB).mono ?_
      rintro e w1 ⟨rfl, h9⟩
      replace K0 := K0.below h9 K0.lt
      replace K1 := K1.below h9 K1.lt
      replace GB := GB.trans (h9.mono GB.size)
      clear h9 z0
      have z0 := K0.cell 0
      go_wp2_with fail
      refine (HGe2.out _ GB).mono ?_
      rintro e w2 ⟨rfl, h9⟩
      replace K0 := K0.below h9 K0.lt
      replace K1 := K1.below h9 K1.lt
      replace GB := GB.trans (h9.mono GB.size)
      clear h9 z0
      have z0 := K0.cell 0
      go_wp2_with fail
      have HL1 := Lib.hid K1.lt
      refine (HCo.out _ GB).mono ?_
      rintro e W ⟨Ac, nc, cc, GC, rfl, Oc, Ec, hnc, hmc, h9⟩
      replace K1 := K1.below h9 K1.lt
      replace GB := GB.trans (h9.mono GB.size)
      have HL2 := Lib.hid h9.size
      have hlc : (gsM gs).length = nc := by rw [← Ec, gsM_len]; exact Oc.len
      have hkn : kk < nc := by have := (List.getElem?_eq_some_iff.1 HKK.out).1; omega
      obtain ⟨gr, cur, rfl, hbg, _, _, _, _, _⟩ := blk_own Oc.row (by omega)
      have hgr : gr < W.heap.size := (Oc.row.lt gr rfl).2
      have HGR : Hid (w.heap.size + 1 < gr ∧ gr < W.heap.size ∧ w.heap.size ≤ w2.heap.size) := Lib.hid ⟨by have := HL1.out; omega, hgr, by have := HL1.out; omega⟩
      have K7 := Blk.new W 24 #[.slice (some ⟨gr, 0, none⟩) nc cc]
      replace K1 := K1.alloc (.cells #[.slice (some ⟨gr, 0, none⟩) nc cc] 24)
      replace GB := GB.alloc GB.size (.cells #[.slice (some ⟨gr, 0, none⟩) nc cc] 24)
      have OZ := Oc.below ((Below.refl W.heap.size W).alloc (Nat.le_refl _) (.cells #[.slice (some ⟨gr, 0, none⟩) nc cc] 24))
      have z7 := K7.cell 0
      clear h9 z0 K0 HOf HGe2 HCo hbg
      go_upto_region 7 with fail
      obtain ⟨g7, hg7⟩ : ∃ g, W.heap.size = g := ⟨_, rfl⟩
      obtain ⟨Z, hZ⟩ : ∃ Z, W.alloc (.cells #[.slice (some ⟨gr, 0, none⟩) nc cc] 24) = Z := ⟨_, rfl⟩
      rw [hZ] at K1 K7 GB OZ z7 ⊢
      rw [hg7] at K7 HGR hgr z7 ⊢
      have HOZ := Lib.hid OZ
      have HOFA : Hid (∀ b, b < w2.heap.size → OffB b (some ⟨gr, 0, none⟩) nc GC) := Lib.hid (fun b hb => OffB.far Oc hb)
      have HEC := Lib.hid Ec
      have HLC := Lib.hid Oc.len
      have HNC := Lib.hid (And.intro hnc hmc)
      have HCC := Lib.hid (own_nc Oc.row)
      have HKN := Lib.hid hkn
      have nc9 : nc ≤ 100 := hnc
      clear hZ hg7 Oc OZ Ec hnc hmc hkn hlc hgr
      go_wp2_with fail
      clear z7
      have HBASE := Lib.hid (And.intro K1 (And.intro K7 GB))
      clear K1 K7 GB
      go_loopw [34] (fun iv wr => ∃ q : Nat, q ≤ nc ∧ iv = .int .i64 (q : Int) ∧ Hid ((q ≤ kk ∧ Below Z.heap.size Z wr) ∨ (kk < q ∧ LvR w (some ⟨gr, 0, none⟩) nc cc g7 ((gsM gs).set kk (gi, lessL v ig)) wr))) (fun iv _ => nc - (intOf iv).toNat)
      case atStart => exact ⟨0, by omega, rfl, Lib.hid (.inl ⟨Nat.zero_le _, Below.refl _ _⟩)⟩
      case round =>
        obtain ⟨q, hq, rfl, HQ⟩ := hrel
        by_cases hlt : q < nc
        · have i1 : (0 : Int) ≤ (q : Int) := by omega
          have i2 : (q : Int) < (nc : Int) := by omega
          have l1 : decide ((q : Int) < (nc : Int)) = true := decide_eq_true i2
          have HQN := Lib.hid (show q + 1 ≤ nc by omega)
          rcases HQ.out with ⟨hqk, hB⟩ | ⟨hqk, hL⟩
          · by_cases hqe : q = kk
            · obtain ⟨A3, m, c3, hx⟩ := gsM_back (G := GC) (k := q) (g := (gi, ig)) (by rw [HEC.out, hqe]; exact HKK.out)
              dsimp only at hx
              have hO := HOZ.out.below hB
              have hN := hO.nw HNC.out.1 HNC.out.2
              obtain ⟨ad, ea, _, d0, d1⟩ := hN.at_ hx
              obtain rfl := Option.some.inj ea
              rw [at_zero] at d0 d1
              dsimp only at d0 d1
              have HIm := Lib.hid (hN.each _ (List.mem_of_getElem? hx))
              have HX2 := Lib.hid hx
              have HOW := Lib.hid hO
              have HB0 := Lib.hid hB
              have K7 := (HBASE.out.2.1.below hB HBASE.out.2.1.lt).alloc (.cells #[.int .i64 gi, .slice A3 m c3] 36)
              have KB := Blk.new wr 36 #[.int .i64 gi, .slice A3 m c3]
              have x0 := KB.cell 0
              have x1 := KB.cell 1
              have g1 : (gi != gi) = false := by simp
              have m9 : m ≤ 100 := HIm.out.2
              have HQK := Lib.hid hqe
              have HIX := Lib.hid (HIm.out.1.below ((Below.refl wr.heap.size wr).alloc (Nat.le_refl _) (.cells #[.int .i64 gi, .slice A3 m c3] 36)))
              have HLI : Hid (ig.length = m) := Lib.hid HIm.out.1.len
              have HSW : Hid ((wr.alloc (.cells #[.int .i64 gi, .slice A3 m c3] 36)).heap.size = wr.heap.size + 1) := Lib.hid (by simp)
              clear hqk hB hqe hx hO hN HQ hq hlt
              go_upto_region 12 with fail
              obtain ⟨X1, hX1⟩ : ∃ X1, wr.alloc (.cells #[.int .i64 gi, .slice A3 m c3] 36) = X1 := ⟨_, rfl⟩
              have HX1 : Hid (Below wr.heap.size wr X1) := Lib.hid (by rw [← hX1]; exact (Below.refl _ _).alloc (Nat.le_refl _) _)
              rw [hX1] at HIX HSW KB K7 x0 x1 ⊢
              clear hX1 d0 d1
              go_wp2_with fail
              clear x0 x1
              have HB7 := Lib.hid K7
              clear K7 KB
              go_loopw [10, 46] (fun lv iv wr => ∃ (j : Nat) (A5 : Option Addr) (n5 c5 : Nat), j ≤ m ∧ lv = .slice A5 n5 c5 ∧ iv = .int .i64 (j : Int) ∧ Hid (wr.ownsRow X1.heap.size 3 1 (.slice A5 n5 c5) n5 (vs (lessL v (ig.take j)))) ∧ Below X1.heap.size X1 wr) (fun _ iv _ => m - (intOf iv).toNat)
              case atStart => exact ⟨0, none, 0, 0, Nat.zero_le _, rfl, rfl, Lib.hid (World.ownsRow_nil _ _ _ _), Below.refl _ _⟩
              case round =>
                rename World => wq
                obtain ⟨j, A5, n5, c5, hj, rfl, rfl, HO, HB⟩ := hrel
                have HN5 : Hid (n5 ≤ 100) := Lib.hid (by
                  have h1 := HO.out.1
                  rw [length_vs] at h1
                  have h2 := List.length_filter_le (fun x => !(x == v)) (ig.take j)
                  have h3 := List.length_take_le j ig
                  unfold lessL at h1
                  omega)
                by_cases hjm : j < m
                · obtain ⟨x, hx⟩ := elem_at (l := ig) (k := j) (by rw [HLI.out]; exact hjm)
                  obtain ⟨ai, rfl, _, v0⟩ := (HIX.out.below HB).at_ hx
                  have HST := Lib.hid (filter_step (p := fun x => !(x == v)) hx)
                  have j1 : (0 : Int) ≤ (j : Int) := by omega
                  have j2 : (j : Int) < (m : Int) := by omega
                  have l2 : decide ((j : Int) < (m : Int)) = true := decide_eq_true j2
                  have n5b : n5 ≤ 100 := HN5.out
                  clear hx
                  by_cases hxv : x = v
                  · have g2 : (x != v) = false := by simp [hxv]
                    have HO2 : Hid (wq.ownsRow X1.heap.size 3 1 (.slice A5 n5 c5) n5 (vs (lessL v (ig.take (j + 1))))) := Lib.hid (by unfold lessL; rw [HST.out, hxv]; simpa [lessL] using HO.out)
                    clear hxv HO HST
                    go_wp2_with fail
                    go_roundw
                    case rel => exact ⟨j + 1, A5, n5, c5, by omega, rfl, by go_num, HO2, HB⟩
                    case measure => simp [intOf] <;> omega
                  · have g2 : (x != v) = true := by simp [hxv]
                    have HO2 : Hid (lessL v (ig.take j) ++ [x] = lessL v (ig.take (j + 1))) := Lib.hid (by unfold lessL; rw [HST.out]; simp [hxv])
                    clear hxv HST
                    go_wp2_with (
                      at_builtin
                      refine wpList_append_any _ rfl (.tmp 53) (.tmp 55) 28 rfl X1.heap.size 3 i0 (.int .i64 0) 1 8 Try.underlying28 ii hz0 hz1 hz2 rfl (by decide) (.slice A5 n5 c5) n5 (vs (lessL v (ig.take j))) rfl (HO.out.alloc (.cells #[.int .i64 x] 3)) _ (some ⟨wq.heap.size, 0, none⟩) 1 1 (vs [x]) rfl (reads_int1 wq 3 x rfl) (vs_ones _) (by simp only [maxLen]; omega) (by omega) (Nat.le_trans HB.size (by simp)) ?_
                      intro v9 w9 own9 grow9 hw9
                      rw [← vs_append, HO2.out] at own9
                      have HB9 := (HB.alloc HB.size (.cells #[.int .i64 x] 3)).grown grow9 (Nat.le_trans HB.size (by simp)) (fun g hg => (HO.out.lt g hg).1)
                      obtain ⟨A9, c9, rfl, _, _⟩ := own_reads own9
                      have HT := Lib.hid (And.intro own9 HB9)
                      clear own9 grow9 hw9 HB9)
                    have HO9 := Lib.hid HT.out.1
                    have HB9 := HT.out.2
                    clear HT HO HB
                    go_roundw
                    case rel => exact ⟨j + 1, A9, n5 + 1, c9, by omega, rfl, by go_num, HO9, HB9⟩
                    case measure => simp [intOf] <;> omega
                · obtain rfl : m = j := by omega
                  have l2 : decide ((m : Int) < (m : Int)) = false := decide_eq_false (by omega)
                  have hT : ig.take m = ig := List.take_of_length_le (Nat.le_of_eq HLI.out)
                  rw [hT] at HO
                  have HBW := Lib.hid (HX1.out.trans (HB.mono HX1.out.size))
                  have hset := own_set1 HOW.out HX2.out HBW.out HNC.out.1 HNC.out.2 (Al := A5) (nl := n5) (cl := c5) ⟨Reads.of_own HO.out, by have := HN5.out; omega⟩ HN5.out (own_from HO.out (by have := HSW.out; omega))
                  obtain ⟨gr2, e2, _, _, ⟨u, hu⟩, hfz, hNW⟩ := hset
                  obtain rfl : gr = gr2 := by injection e2 with e2; injection e2
                  have K7 := HB7.out.below HB HB7.out.lt
                  have z7 := K7.cell 0
                  have HLV : Hid (LvR w (some ⟨gr, 0, none⟩) nc cc g7 ((gsM gs).set kk (gi, lessL v ig)) (wq.setCell ⟨gr, q * 2 + 1, none⟩ (.slice A5 n5 c5))) := Lib.hid (by
                    have hZW := HB0.out.trans (HBW.out.mono HB0.out.size)
                    have K1 := HBASE.out.1.below hZW HBASE.out.1.lt
                    have GB := HBASE.out.2.2.trans (hZW.mono HBASE.out.2.2.size)
                    have h1 := HGR.out
                    refine ⟨_, hNW, ?_, fun b hb => off_set (HOFA.out b (by omega)) (own_farB HO.out (by have := HBW.out.size; have := HSW.out; have := HB0.out.size; have := HOZ.out.row.lt gr rfl; omega)), off_set (HOFA.out _ HL1.out) (own_farB HO.out (by have := HBW.out.size; have := HSW.out; have := HB0.out.size; have := HOZ.out.row.lt gr rfl; omega)), K1.far (p := ⟨gr, q * 2 + 1, none⟩) (by simp; omega) _, K7.far (p := ⟨gr, q * 2 + 1, none⟩) (by simp; omega) _, GB.setCell (p := ⟨gr, q * 2 + 1, none⟩) (by show w.heap.size ≤ gr; omega) _⟩
                    unfold gsM
                    rw [List.map_set]
                    show (gsM GC).set q _ = _
                    rw [HEC.out, HQK.out]
                    rfl)
                  have HQ9 : Hid ((q + 1 ≤ kk ∧ Below Z.heap.size Z (wq.setCell ⟨gr, q * 2 + 1, none⟩ (.slice A5 n5 c5))) ∨ (kk < q + 1 ∧ LvR w (some ⟨gr, 0, none⟩) nc cc g7 ((gsM gs).set kk (gi, lessL v ig)) (wq.setCell ⟨gr, q * 2 + 1, none⟩ (.slice A5 n5 c5)))) := Lib.hid (.inr ⟨by have := HQK.out; omega, HLV.out⟩)
                  clear hNW HO HB hT hjm hj e2 K7 HLV
                  go_wp2_with fail
                  go_roundw
                  case rel => exact ⟨q + 1, HQN.out, by go_num, HQ9⟩
                  case measure => have := HQN.out; simp [intOf] <;> omega
            · have hN := (HOZ.out.below hB).nw HNC.out.1 HNC.out.2
              obtain ⟨⟨id, A3, m, c3, is⟩, hx⟩ := elem_at (l := GC) (k := q) (by rw [HLC.out]; exact hlt)
              obtain ⟨ad, ea, _, d0, d1⟩ := hN.at_ hx
              obtain rfl := Option.some.inj ea
              rw [at_zero] at d0 d1
              dsimp only at d0 d1
              have hne : id < gi := ids_rise HAll.out (by rw [← HEC.out]; exact gsM_at hx) HKK.out (by omega)
              have g1 : (id != gi) = true := by simp; omega
              have KB := Blk.new wr 36 #[.int .i64 id, .slice A3 m c3]
              have x0 := KB.cell 0
              have x1 := KB.cell 1
              have HNX : Hid ((q + 1 ≤ kk ∧ Below Z.heap.size Z (wr.alloc (.cells #[.int .i64 id, .slice A3 m c3] 36))) ∨ (kk < q + 1 ∧ LvR w (some ⟨gr, 0, none⟩) nc cc g7 ((gsM gs).set kk (gi, lessL v ig)) (wr.alloc (.cells #[.int .i64 id, .slice A3 m c3] 36)))) := Lib.hid (.inl ⟨by omega, hB.alloc hB.size _⟩)
              clear hN hx hne hqk hqe hB HQ hq hlt
              go_wp2_with fail
              go_roundw
              case rel => exact ⟨q + 1, HQN.out, by go_num, HNX⟩
              case measure => have := HQN.out; simp [intOf] <;> omega
          · obtain ⟨G', hN, hE, hO1, hO2, hK1, hK7, hBw⟩ := hL
            obtain ⟨⟨id, A3, m, c3, is⟩, hx⟩ := elem_at (l := G') (k := q) (by rw [hN.len]; exact hlt)
            obtain ⟨ad, ea, _, d0, d1⟩ := hN.at_ hx
            obtain rfl := Option.some.inj ea
            rw [at_zero] at d0 d1
            dsimp only at d0 d1
            have hne : gi < id := by
              have h1 : (gsM gs)[q]? = some (id, is) := by
                have h2 := gsM_at hx
                rw [hE, List.getElem?_set_ne (by omega)] at h2
                exact h2
              exact ids_rise HAll.out HKK.out h1 hqk
            have g1 : (id != gi) = true := by simp; omega
            have KB := Blk.new wr 36 #[.int .i64 id, .slice A3 m c3]
            have x0 := KB.cell 0
            have x1 := KB.cell 1
            have HNX : Hid ((q + 1 ≤ kk ∧ Below Z.heap.size Z (wr.alloc (.cells #[.int .i64 id, .slice A3 m c3] 36))) ∨ (kk < q + 1 ∧ LvR w (some ⟨gr, 0, none⟩) nc cc g7 ((gsM gs).set kk (gi, lessL v ig)) (wr.alloc (.cells #[.int .i64 id, .slice A3 m c3] 36)))) := Lib.hid (.inr ⟨by omega, G', hN.below ((Below.refl _ _).alloc (Nat.le_refl _) _), hE, hO1, hO2, hK1.alloc _, hK7.alloc _, hBw.alloc hBw.size _⟩)
            clear hN hE hO1 hO2 hK1 hK7 hBw hx hne hqk HQ hq hlt
            go_wp2_with fail
            go_roundw
            case rel => exact ⟨q + 1, HQN.out, by go_num, HNX⟩
            case measure => have := HQN.out; simp [intOf] <;> omega
        · obtain rfl : nc = q := by omega
          have l1 : decide ((nc : Int) < (nc : Int)) = false := decide_eq_false (by omega)
          rcases HQ.out with ⟨hqk, _⟩ | ⟨hqk, hL⟩
          · exact absurd HKN.out (by omega)
          · obtain ⟨G', hN, hE, hO1, hO2, hK1, hK7, hBw⟩ := hL
            have z7 := hK7.cell 0
            have d0 := hK1.cell 0
            have f0 := hK1.frozen 0
            have HP := Lib.hid (put1 (x := .slice (some ⟨gr, 0, none⟩) nc cc) hK1 hBw (by omega))
            have HNN := Lib.hid (nw_kept hN hO2 (grownBy_setCell0 wr (w.heap.size + 1) (.slice (some ⟨gr, 0, none⟩) nc cc)))
            have HE := Lib.hid hE
            have HOP := Lib.hid hO1
            clear hN hE hO1 hO2 hK1 hK7 hBw hqk hlt HQ
            go_wp2_with fail
            exact bodyPost_ret (v := .tuple #[.agg #[.slice (some ⟨gr, 0, none⟩) nc cc], .int .i64 0]) (results_cell_row_tmp Try.results36 _ _ _ _ _ _ rfl HP.out.1 Try.underlying24 rfl (by kernel_rfl)) rfl ⟨some ⟨gr, 0, none⟩, nc, cc, G', by rw [HV.out], HNN.out, by rw [HV.out]; exact HE.out, HCC.out, HOP.out, HP.out.2⟩

end Go.Proofs.Ytglphgfaknofcaa
