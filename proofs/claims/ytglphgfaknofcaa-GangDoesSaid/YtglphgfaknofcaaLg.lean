/-
  GangDoes' walk. No statement is proved here.
-/
import Derived.Test.YtglphgfaknofcaaLf
namespace Go.Proofs.Ytglphgfaknofcaa
open Go.RowKit Go.Maps

theorem NO.setOff {w : World} {B n c g E : Nat} {A : Option Addr} {G : List Gn} (h : NO w B A n c G) (h1 : ∀ j, (Value.slice A n c).ownBlock = some j → j < E) (h2 : ∀ x ∈ G, ∀ j, (slG x.2).ownBlock = some j → j < E) (hg : E ≤ g) (v : Value) : NO (w.setCell ⟨g, 0, none⟩ v) B A n c G :=
  ⟨own_off h.row (fun j hj => by have := h1 j hj; omega) _ _, fun x hx => own_off (h.mem x hx) (fun j hj => by have := h2 x hx j hj; omega) _ _, h.ne, h.apart⟩
theorem HR.head {u w9 wr : World} {E n c k : Nat} {A : Option Addr} {G : List Gn} (h : HR u w9 E A n c G wr) {id : Int} {A3 : Option Addr} {m c3 : Nat} {is : List Int} (hx : G[k]? = some (id, A3, m, c3, is)) : ∃ gr, A = some ⟨gr, 0, none⟩ ∧ wr.cell? ⟨gr, k * 2 + 1, none⟩ = some (.slice A3 m c3) := by
  have hkl := (List.getElem?_eq_some_iff.1 hx).1
  have hlen := h.no.len
  obtain ⟨gr, cur, rfl, hbg, K, hnc, hcm, hsz, ht⟩ := blk_own h.no.row (by omega)
  obtain ⟨ad, ea, _, _, d1⟩ := (show NA wr (some ⟨gr, 0, none⟩) n G from ⟨Reads.of_own h.no.row, by omega, fun g hg => ⟨Reads.of_own (h.no.mem g hg), own_nc (h.no.mem g hg)⟩⟩).at_ hx
  obtain rfl := Option.some.inj ea
  rw [at_zero] at d1
  exact ⟨gr, rfl, d1⟩
theorem HR.below2 {u w9 wr w' : World} {E n c : Nat} {A : Option Addr} {G : List Gn} (h : HR u w9 E A n c G wr) (hb : Below wr.heap.size wr w') : HR u w9 E A n c G w' :=
  ⟨h.no.below hb, h.rb, h.mb, h.lo.trans (hb.mono h.lo.size), fun k hk hkl => (hb.block k (Nat.lt_of_lt_of_le hkl h.sz)).trans (h.hi k hk hkl), Nat.le_trans h.sz hb.size⟩

set_option maxRecDepth 100000 in
set_option maxHeartbeats 64000000 in
theorem does_walk (A : Option Addr) (n c : Nat) (gx : List Gn) (A1 : Option Addr) (n1 c1 : Nat) (l : List OpT) (w : World) (hG : NA w A n gx) (hA : OA w A1 n1 l) (hn1 : n1 ≤ maxLen) :
    Calls Try.prog 3 #[.agg #[.slice A n c], .slice A1 n1 c1] w (Said (.bool true) w) := by
  obtain ⟨K0, GB⟩ := box1 w 24 #[.slice A n c]
  have HWk := Lib.hid (fun (u : World) => wakes_any u)
  have HSx := Lib.hid (fun (u : World) (h : Below w.heap.size w u) => short_any A n c gx u (hG.below h))
  have HA := Lib.hid hA
  have HL := Lib.hid hA.len
  have HN1 := Lib.hid hn1
  clear hG hA
  unfold maxLen at hn1
  go_enter Try.func3, Try.ntmps3
  go_wp2_with fail
  refine (HWk.out _).mono ?_
  rintro e u1 ⟨rfl, h9⟩
  replace K0 := K0.below h9 K0.lt
  replace GB := GB.trans (h9.mono GB.size)
  clear h9
  have z0 := K0.cell 0
  go_wp2_with fail
  refine (HSx.out _ GB).mono ?_
  rintro e u2 ⟨Ag, ng, cg, Gg, rfl, Og, Eg, h9g, hmg, h9⟩
  replace GB := GB.trans (h9.mono GB.size)
  have hgv := GV.own Og (by omega) (fun g hg => by have := hmg g hg; omega)
  have K5 := Blk.new u2 24 #[.slice Ag ng cg]
  have HDR : Hid (DR w u2.heap.size Ag ng cg Gg (u2.alloc (.cells #[.slice Ag ng cg] 24))) := Lib.hid ⟨K5, hgv.below ((Below.refl _ _).alloc (Nat.le_refl _) _), by rw [Eg, short_short], GB.alloc GB.size _⟩
  have HG5 := Lib.hid GB.size
  clear h9 z0 K0 K5 GB Og Eg h9g hmg hgv
  go_upto_region 4 with fail
  generalize u2.alloc (.cells #[.slice Ag ng cg] 24) = u3 at HDR ⊢
  generalize u2.heap.size = g5 at HDR HG5 ⊢
  go_wp2_with fail
  go_loopw [23] (fun iv wr => ∃ (k : Nat) (Ag : Option Addr) (ng cg : Nat) (Gg : List Gn), k ≤ n1 ∧ k ≤ 30 ∧ iv = .int .i64 (k : Int) ∧ Hid (DR w g5 Ag ng cg Gg wr)) (fun iv _ => n1 - (intOf iv).toNat)
  case atStart => exact ⟨0, Ag, ng, cg, Gg, by omega, by omega, rfl, HDR⟩
  case round =>
    clear HDR
    obtain ⟨k, Ag, ng, cg, Gg, hk, hk30, rfl, HDR⟩ := hrel
    by_cases hlt : k < n1
    · obtain ⟨⟨K, N, A2, m, c2, ms⟩, hx⟩ := elem_at (l := l) (k := k) (by rw [HL.out]; exact hlt)
      obtain ⟨ad, rfl, _, d0, d1, d2⟩ := (HA.out.below HDR.out.bel).at_ hx
      have hM := HA.out.mem _ (List.mem_of_getElem? hx)
      have i1 : (0 : Int) ≤ (k : Int) := by omega
      have i2 : (k : Int) < (n1 : Int) := by omega
      have l1 : decide ((k : Int) < (n1 : Int)) = true := decide_eq_true i2
      by_cases h30 : k = 30
      · have g30 : ((k : Int) == 30) = true := by simp; omega
        have HB2 := HDR.out.bel.alloc HDR.out.bel.size (.cells #[.int .i64 K, .int .i64 N, .slice A2 m c2] 30)
        clear h30 hk30 hx hM
        go_wp2_with fail
        go_ret
        exact ⟨rfl, HB2⟩
      · have g30 : ((k : Int) == 30) = false := by simp; omega
        have HJ := Lib.hid (show k + 1 ≤ n1 ∧ k + 1 ≤ 30 by omega)
        have j9 : k < 100 := by omega
        have HMm := Lib.hid (fun (u : World) (h : Below w.heap.size w u) => ((hM.1.below h).more h.size : Reads u u.heap.size 1 A2 m (vs ms)))
        have HMc := Lib.hid hM.2
        have K7 := Blk.new wr 30 #[.int .i64 K, .int .i64 N, .slice A2 m c2]
        have DA := (Below.refl wr.heap.size wr).alloc (Nat.le_refl _) (.cells #[.int .i64 K, .int .i64 N, .slice A2 m c2] 30)
        have HBw := Lib.hid HDR.out.bel
        have HSH := Lib.hid HDR.out.sh
        have K5 := HDR.out.box.below DA HDR.out.box.lt
        have HV := HDR.out.gv.below DA
        have HL5 := Lib.hid HDR.out.box.lt
        have hB := HDR.out.bel.trans (DA.mono HDR.out.bel.size)
        clear h30 hk30 hx hM HDR DA
        go_upto_region 8 with fail
        clear d0 d1 d2
        obtain ⟨W0, hW0⟩ : ∃ W0, wr.alloc (.cells #[.int .i64 K, .int .i64 N, .slice A2 m c2] 30) = W0 := ⟨_, rfl⟩
        have hg7 : wr.heap.size < W0.heap.size := by rw [← hW0]; simp
        rw [hW0] at K7 K5 HV hB ⊢
        have HG7 := Lib.hid (show g5 < wr.heap.size ∧ wr.heap.size < W0.heap.size from ⟨HL5.out, hg7⟩)
        generalize wr.heap.size = g7 at K7 HG7 ⊢
        clear hW0 hg7 HL5
        have HSg := Lib.hid (fun (u : World) (h : Below W0.heap.size W0 u) => short_any Ag ng cg Gg u (HV.na.below h))
        have HVW := Lib.hid HV
        have z5 := K5.cell 0
        clear HV
        go_wp2_with fail
        refine (HSg.out _ (Below.refl _ _)).mono ?_
        rintro e W1 ⟨A8, n8, c8, G8, rfl, O8, E8, h98, hm8, h9⟩
        have K8 := Blk.new W1 24 #[.slice A8 n8 c8]
        have DB := h9.alloc h9.size (.cells #[.slice A8 n8 c8] 24)
        replace K5 := K5.below DB K5.lt
        replace K7 := K7.below DB K7.lt
        have hB2 := hB.trans (DB.mono hB.size)
        have DC := (Below.refl W1.heap.size W1).alloc (Nat.le_refl _) (.cells #[.slice A8 n8 c8] 24)
        have HV8 := (GV.own O8 (by omega) (fun g hg => by have := hm8 g hg; omega)).below DC
        have HE8 : Hid (gsM G8 = gsM Gg) := Lib.hid (by rw [E8]; exact HSH.out)
        have HVG := HVW.out.below DB
        have HG8 := Lib.hid h9.size
        clear h9 z5 O8 E8 h98 hm8 DC DB HSg HVW hB
        go_upto_region 9 with fail
        obtain ⟨u, hu⟩ : ∃ u, W1.alloc (.cells #[.slice A8 n8 c8] 24) = u := ⟨_, rfl⟩
        have hg8 : W1.heap.size < u.heap.size := by rw [← hu]; simp
        rw [hu] at K8 K5 K7 HV8 HVG hB2 ⊢
        have HGG : Hid (g5 < g7 ∧ g7 < W1.heap.size ∧ W1.heap.size < u.heap.size) := Lib.hid ⟨HG7.out.1, Nat.lt_of_lt_of_le HG7.out.2 HG8.out, hg8⟩
        generalize W1.heap.size = g8 at K8 HGG ⊢
        clear hu hg8 HG7 HG8
        -- the world u, ahead of the call: all that is below it stays till the end
        have HF5 := Lib.hid (fun (v : World) (h : Below u.heap.size u v) => K5.below h K5.lt)
        have HF7 := Lib.hid (fun (v : World) (h : Below u.heap.size u v) => K7.below h K7.lt)
        have HF8 := Lib.hid (fun (v : World) (h : Below u.heap.size u v) => K8.below h K8.lt)
        have HVg := Lib.hid (fun (v : World) (h : Below u.heap.size u v) => HVG.below h)
        have HV8' := Lib.hid (fun (v : World) (h : Below u.heap.size u v) => HV8.below h)
        have HBU := Lib.hid hB2
        have HRn := Lib.hid (run_any K N A2 m c2 ms Ag ng cg Gg u HVG.nw HVG.nc (HMm.out u hB2) HMc.out)
        have HSa := Lib.hid (fun (v : World) (h : Below u.heap.size u v) => dsame_any Ag ng cg Gg A8 n8 c8 G8 v (HVg.out v h).nw (HV8'.out v h).nw)
        rw [decide_eq_true HE8.out.symm] at HSa
        obtain ⟨q, hq⟩ : ∃ q, kindQ K = q := ⟨_, rfl⟩
        have H6 := Lib.hid (six_of hq)
        obtain ⟨⟨FE, FI, FL⟩, hV⟩ : ∃ V, runV q N (intsL ms) (gsM Gg) = V := ⟨_, rfl⟩
        have HRV := Lib.hid hV
        rw [hq, hV] at HRn
        have HWa := Lib.hid (fun (v : World) (A3 : Option Addr) (n3 c3 : Nat) (G3 : List Gn) (h : Below w.heap.size w v) (hN : NW v A3 n3 G3) (hc : n3 ≤ c3) (hE : gsM G3 = shortL (gsM G8)) => (by
          have z := wants_any K N A2 m c2 ms A3 n3 c3 G3 v hN hc (HMm.out v h) HMc.out
          rw [hE, HE8.out, HSH.out, hq, hV] at z
          exact z : Calls Try.prog 12 #[.agg #[.int .i64 K, .int .i64 N, .slice A2 m c2], .agg #[.slice A3 n3 c3]] v (WSaid (FE, FI, FL) v)))
        have HS8 := Lib.hid (fun (v : World) (h : Below u.heap.size u v) => short_any A8 n8 c8 G8 v (HV8'.out v h).na)
        have z5 := K5.cell 0
        have z70 := K7.cell 0
        have z71 := K7.cell 1
        have z72 := K7.cell 2
        clear K5 K7 K8 HV8 HVG hB2 hV hq HMm HMc
        go_wp2_with fail
        refine HRn.out.mono ?_
        rintro e w2 ⟨Ah, nh, ch, Gh, rfl, Oh, Eh, h2⟩
        dsimp only at Eh
        have HUE := Lib.hid h2.size
        have K9 := Blk.new w2 24 #[.slice Ah nh ch]
        have GU := h2.alloc h2.size (.cells #[.slice Ah nh ch] 24)
        have DH := (Below.refl w2.heap.size w2).alloc (Nat.le_refl _) (.cells #[.slice Ah nh ch] 24)
        have HOB : Hid ((∀ j, (Value.slice Ah nh ch).ownBlock = some j → j < w2.heap.size) ∧ ∀ x ∈ Gh, ∀ j, (slG x.2).ownBlock = some j → j < w2.heap.size) := Lib.hid ⟨fun j hj => (Oh.row.lt j hj).2, fun x hx j hj => ((Oh.mem x hx).lt j hj).2⟩
        have HNh := (no_run Oh H6.out (Eh.trans (by rw [HRV.out]))).below DH
        have HO := Oh.below DH
        have HEH := Lib.hid Eh
        clear h2 z5 z70 z71 z72 Oh Eh DH HRn
        go_upto_region 10 with fail
        obtain ⟨X, hX⟩ : ∃ X, w2.alloc (.cells #[.slice Ah nh ch] 24) = X := ⟨_, rfl⟩
        have hEX : w2.heap.size + 1 = X.heap.size := by rw [← hX]; simp
        rw [hX] at K9 GU HNh HO ⊢
        have HEX := Lib.hid hEX
        generalize w2.heap.size = E at K9 HOB HEX HUE ⊢
        clear hX hEX
        replace K9 : Blk X.drew _ _ _ := K9
        replace GU := GU.drew
        have KA := HF7.out _ GU
        have KW := HF8.out _ GU
        have HUX := Lib.hid GU
        have HBV := Lib.hid (HBU.out.trans (HUX.out.mono HBU.out.size))
        have HEV : Hid (E + 1 = X.drew.heap.size) := HEX
        replace HNh := HNh.below ((Below.refl X.heap.size X).drew)
        replace HO := HO.below ((Below.refl X.heap.size X).drew)
        obtain ⟨V, hV⟩ : ∃ V, X.drew = V := ⟨_, rfl⟩
        rw [hV] at K9 GU KA KW HUX HBV HEV HNh HO
        have HDV := Lib.hid hV
        clear hV
        obtain ⟨b0, hb0⟩ : ∃ b, V.heap.size = b := ⟨_, rfl⟩
        have HB0 := Lib.hid hb0
        have GX : Below b0 V V := Below.refl _ _
        have HGB : Hid (g7 < b0 ∧ g8 < b0 ∧ g5 < b0 ∧ E + 1 = b0 ∧ u.heap.size ≤ b0) := Lib.hid (by
          have h1 := KA.lt; have h2 := KW.lt; have h3 := HGG.out; have h4 := HEV.out; have h5 := GU.size
          omega)
        have HS2 := Lib.hid (fun (v : World) (h : Below b0 V v) => HS8.out v (HUX.out.trans ((hb0 ▸ h : Below V.heap.size V v).mono HUX.out.size)))
        have HWa2 := Lib.hid (fun (v : World) (A3 : Option Addr) (n3 c3 : Nat) (G3 : List Gn) (h : Below b0 V v) (hN : NW v A3 n3 G3) (hc : n3 ≤ c3) (hE : gsM G3 = shortL (gsM G8)) => HWa.out v A3 n3 c3 G3 (HBV.out.trans ((hb0 ▸ h : Below V.heap.size V v).mono HBV.out.size)) hN hc hE)
        clear hb0 HEX HEV
        go_cut [12, 13, 14] (fun s12 s13 s14 Y => ∃ (g12 : Nat) (Aw : Option Addr) (nw cw : Nat) (Gw : List Gn), s12 = .pointer (some ⟨g12, 0, none⟩) ∧ s13 = .int .i64 FI ∧ s14 = .int .i64 FE ∧ Hid (b0 ≤ g12) ∧ Blk Y g12 24 #[.slice Aw nw cw] ∧ NW Y Aw nw Gw ∧ Hid (gsM Gw = FL) ∧ Below b0 V Y)
        case first =>
          as_aux_lemma =>
            refine wp_region_held_drew (S := fun W => Below b0 V W ∧ Blk W g7 30 #[.int .i64 K, .int .i64 N, .slice A2 m c2] ∧ Blk W g8 24 #[.slice A8 n8 c8]) (by kernel_rfl) (by rw [HDV.out]; exact ⟨GX, KA, KW⟩) (fun hS => ?_)
            rw [HDV.out] at hS ⊢
            refine wpAnyH_take (i := 0) (v := .agg #[.int .i64 K, .int .i64 N, .slice A2 m c2]) rfl (by kernel_rfl) (by kernel_rfl) (by kernel_rfl) (fun _ _ _ h => h) (Or.inl ⟨by kernel_rfl, fun u hSw => (by have q0 := hSw.2.1.cell 0; have q1 := hSw.2.1.cell 1; have q2 := hSw.2.1.cell 2; go_simp)⟩) hS ?_
            change wpAnyH _ _ _ _ _ _ _ (Act.put _ (some 40) _) _
            simp only [Act.put]
            try simp only [List.setIfInBounds_toArray, List.set_cons_zero, List.set_cons_succ]
            refine wpAnyH_take (i := 1) (v := .agg #[.slice A8 n8 c8]) rfl (by kernel_rfl) (by kernel_rfl) (by kernel_rfl) (fun _ _ _ h => h) (Or.inl ⟨by kernel_rfl, fun u hSw => (by have q0 := hSw.2.2.cell 0; go_simp)⟩) hS ?_
            change wpAnyH _ _ _ _ _ _ _ (Act.put _ (some 41) _) _
            simp only [Act.put]
            try simp only [List.setIfInBounds_toArray, List.set_cons_zero, List.set_cons_succ]
            refine wpAnyH_ready (rs := [2, 8]) (by kernel_rfl) (by simp) ?_
            refine AllReadyH.cons rfl (fun K hK => ?_) (AllReadyH.cons rfl (fun K hK => ?_) (AllReadyH.nil))
            · skip
              go_simp
              refine (HS2.out _ GX).mono ?_
              rintro e1 w1 ⟨A3, n3, c3, G3, rfl, O3, E3, h39, hm3, h9⟩
              replace KA := KA.below h9 KA.lt
              replace KW := KW.below h9 KW.lt
              replace GX := GX.trans (h9.mono (by have := GX.size; have := HB0.out; omega))
              have HW3 := O3.nw (by omega) (fun g hg => by have := hm3 g hg; omega)
              have HC3 := Lib.hid (And.intro (own_nc O3.row) E3)
              clear h9 O3 E3 h39 hm3
              refine hK.out _ _ ⟨GX, KA, KW⟩ (fun hS => ?_)
              clear hK K
              refine wpAnyH_ready (rs := [3, 8]) (by kernel_rfl) (by simp) ?_
              refine AllReadyH.cons rfl (fun K hK => ?_) (AllReadyH.cons rfl (fun K hK => ?_) (AllReadyH.nil))
              · skip
                go_simp
                refine (HWa2.out _ A3 n3 c3 G3 GX HW3 HC3.out.1 HC3.out.2).mono ?_
                rintro e2 w2 ⟨Aw, nw, cw, Gw, rfl, Nw, Ew, Cw, Ow, h9⟩
                replace KA := KA.below h9 KA.lt
                replace KW := KW.below h9 KW.lt
                replace GX := GX.trans (h9.mono (by have := GX.size; have := HB0.out; omega))
                have HEw := Lib.hid Ew
                clear h9 Ew Cw Ow HW3
                refine hK.out _ _ ⟨GX, KA, KW⟩ (fun hS => ?_)
                clear hK K
                refine wpAnyH_take (i := 4) (v := .tuple #[.agg #[.slice Aw nw cw], .int .i64 FI, .int .i64 FE]) rfl (by kernel_rfl) (by kernel_rfl) (by kernel_rfl) (fun _ _ _ h => h) (Or.inl ⟨by kernel_rfl, fun u hSw => (by go_simp)⟩) hS ?_
                change wpAnyH _ _ _ _ _ _ _ (Act.put _ (some 39) _) _
                simp only [Act.put]
                try simp only [List.setIfInBounds_toArray, List.set_cons_zero, List.set_cons_succ]
                refine wpAnyH_take (i := 5) (v := .agg #[.slice Aw nw cw]) rfl (by kernel_rfl) (by kernel_rfl) (by kernel_rfl) (fun _ _ _ h => h) (Or.inl ⟨by kernel_rfl, fun u hSw => (by go_simp)⟩) hS ?_
                change wpAnyH _ _ _ _ _ _ _ (Act.put _ (some 44) _) _
                simp only [Act.put]
                try simp only [List.setIfInBounds_toArray, List.set_cons_zero, List.set_cons_succ]
                refine wpAnyH_take (i := 6) (v := .int .i64 FI) rfl (by kernel_rfl) (by kernel_rfl) (by kernel_rfl) (fun _ _ _ h => h) (Or.inl ⟨by kernel_rfl, fun u hSw => (by go_simp)⟩) hS ?_
                change wpAnyH _ _ _ _ _ _ _ (Act.put _ (some 45) _) _
                simp only [Act.put]
                try simp only [List.setIfInBounds_toArray, List.set_cons_zero, List.set_cons_succ]
                refine wpAnyH_take (i := 7) (v := .int .i64 FE) rfl (by kernel_rfl) (by kernel_rfl) (by kernel_rfl) (fun _ _ _ h => h) (Or.inl ⟨by kernel_rfl, fun u hSw => (by go_simp)⟩) hS ?_
                change wpAnyH _ _ _ _ _ _ _ (Act.put _ (some 46) _) _
                simp only [Act.put]
                try simp only [List.setIfInBounds_toArray, List.set_cons_zero, List.set_cons_succ]
                refine wpAnyH_ready (rs := [8]) (by kernel_rfl) (by simp) ?_
                refine AllReadyH.cons rfl (fun K hK => ?_) AllReadyH.nil
                go_simp
                have F12 := Blk.new w2 24 #[.slice none 0 0]
                have l12 : b0 ≤ w2.heap.size := by have := GX.size; have := HB0.out; omega
                have hx12 := offb_new Nw
                replace KA := KA.alloc (.cells #[.slice none 0 0] 24)
                replace KW := KW.alloc (.cells #[.slice none 0 0] 24)
                replace GX := GX.alloc l12 (.cells #[.slice none 0 0] 24)
                replace Nw := Nw.below ((Below.refl _ _).alloc (Nat.le_refl _) (.cells #[.slice none 0 0] 24))
                refine hK.out _ _ ⟨GX, KA, KW⟩ (fun hS => ?_)
                clear hK K
                generalize w2.alloc (.cells #[.slice none 0 0] 24) = U3 at KA KW GX hS F12  Nw ⊢
                generalize w2.heap.size = g12 at F12 l12 hx12 ⊢
                refine wpAnyH_ready (rs := [9]) (by kernel_rfl) (by simp) ?_
                refine AllReadyH.cons rfl (fun K hK => ?_) AllReadyH.nil
                have d0 := F12.cell 0
                have f0 := F12.frozen 0
                have HP := put1 (x := (.slice Aw nw cw)) F12 GX l12
                have KA2 := KA.far (p := ⟨g12, 0, none⟩) (by have := HGB.out; simp; omega) (.slice Aw nw cw)
                have KW2 := KW.far (p := ⟨g12, 0, none⟩) (by have := HGB.out; simp; omega) (.slice Aw nw cw)
                have Nw2 := nw_kept Nw hx12 (grownBy_setCell0 U3 g12 (.slice Aw nw cw))
                go_simp
                refine hK.out _ _ ⟨HP.2, KA2, KW2⟩ (fun hS => ?_)
                clear hK K d0 f0
                refine wpAnyH_take (i := 10) (v := .int .i64 FI) rfl (by kernel_rfl) (by kernel_rfl) (by kernel_rfl) (fun _ _ _ h => h) (Or.inl ⟨by kernel_rfl, fun u hSw => (by go_simp)⟩) hS ?_
                change wpAnyH _ _ _ _ _ _ _ (Act.put _ (some 13) _) _
                simp only [Act.put]
                try simp only [List.setIfInBounds_toArray, List.set_cons_zero, List.set_cons_succ]
                refine wpAnyH_take (i := 11) (v := .int .i64 FE) rfl (by kernel_rfl) (by kernel_rfl) (by kernel_rfl) (fun _ _ _ h => h) (Or.inl ⟨by kernel_rfl, fun u hSw => (by go_simp)⟩) hS ?_
                change wpAnyH _ _ _ _ _ _ _ (Act.put _ (some 14) _) _
                simp only [Act.put]
                try simp only [List.setIfInBounds_toArray, List.set_cons_zero, List.set_cons_succ]
                refine wpAnyH_done (by kernel_rfl) ?_ _
                clear hS
                go_wp2_with fail
                go_meet
                exact ⟨g12, Aw, nw, cw, Gw, rfl, rfl, rfl, Lib.hid l12, HP.1, Nw2, HEw, HP.2⟩
              · skip
                go_simp
                have F12 := Blk.new w1 24 #[.slice none 0 0]
                have l12 : b0 ≤ w1.heap.size := by have := GX.size; have := HB0.out; omega
                replace KA := KA.alloc (.cells #[.slice none 0 0] 24)
                replace KW := KW.alloc (.cells #[.slice none 0 0] 24)
                replace GX := GX.alloc l12 (.cells #[.slice none 0 0] 24)
                replace HW3 := HW3.below ((Below.refl _ _).alloc (Nat.le_refl _) (.cells #[.slice none 0 0] 24))
                refine hK.out _ _ ⟨GX, KA, KW⟩ (fun hS => ?_)
                clear hK K
                generalize w1.alloc (.cells #[.slice none 0 0] 24) = U5 at KA KW GX hS F12 HW3  ⊢
                generalize w1.heap.size = g12 at F12 l12  ⊢
                refine wpAnyH_ready (rs := [3]) (by kernel_rfl) (by simp) ?_
                refine AllReadyH.cons rfl (fun K hK => ?_) AllReadyH.nil
                go_simp
                have L12 := F12.lt
                refine (HWa2.out _ A3 n3 c3 G3 GX HW3 HC3.out.1 HC3.out.2).mono ?_
                rintro e6 w6 ⟨Aw, nw, cw, Gw, rfl, Nw, Ew, Cw, Ow, h9⟩
                have hx12 := Ow _ L12
                clear L12
                replace KA := KA.below h9 KA.lt
                replace KW := KW.below h9 KW.lt
                replace GX := GX.trans (h9.mono (by have := GX.size; have := HB0.out; omega))
                replace F12 := F12.below h9 F12.lt
                have HEw := Lib.hid Ew
                clear h9 Ew Cw Ow HW3
                refine hK.out _ _ ⟨GX, KA, KW⟩ (fun hS => ?_)
                clear hK K
                refine wpAnyH_take (i := 4) (v := .tuple #[.agg #[.slice Aw nw cw], .int .i64 FI, .int .i64 FE]) rfl (by kernel_rfl) (by kernel_rfl) (by kernel_rfl) (fun _ _ _ h => h) (Or.inl ⟨by kernel_rfl, fun u hSw => (by go_simp)⟩) hS ?_
                change wpAnyH _ _ _ _ _ _ _ (Act.put _ (some 39) _) _
                simp only [Act.put]
                try simp only [List.setIfInBounds_toArray, List.set_cons_zero, List.set_cons_succ]
                refine wpAnyH_take (i := 5) (v := .agg #[.slice Aw nw cw]) rfl (by kernel_rfl) (by kernel_rfl) (by kernel_rfl) (fun _ _ _ h => h) (Or.inl ⟨by kernel_rfl, fun u hSw => (by go_simp)⟩) hS ?_
                change wpAnyH _ _ _ _ _ _ _ (Act.put _ (some 44) _) _
                simp only [Act.put]
                try simp only [List.setIfInBounds_toArray, List.set_cons_zero, List.set_cons_succ]
                refine wpAnyH_take (i := 6) (v := .int .i64 FI) rfl (by kernel_rfl) (by kernel_rfl) (by kernel_rfl) (fun _ _ _ h => h) (Or.inl ⟨by kernel_rfl, fun u hSw => (by go_simp)⟩) hS ?_
                change wpAnyH _ _ _ _ _ _ _ (Act.put _ (some 45) _) _
                simp only [Act.put]
                try simp only [List.setIfInBounds_toArray, List.set_cons_zero, List.set_cons_succ]
                refine wpAnyH_take (i := 7) (v := .int .i64 FE) rfl (by kernel_rfl) (by kernel_rfl) (by kernel_rfl) (fun _ _ _ h => h) (Or.inl ⟨by kernel_rfl, fun u hSw => (by go_simp)⟩) hS ?_
                change wpAnyH _ _ _ _ _ _ _ (Act.put _ (some 46) _) _
                simp only [Act.put]
                try simp only [List.setIfInBounds_toArray, List.set_cons_zero, List.set_cons_succ]
                refine wpAnyH_ready (rs := [9]) (by kernel_rfl) (by simp) ?_
                refine AllReadyH.cons rfl (fun K hK => ?_) AllReadyH.nil
                have d0 := F12.cell 0
                have f0 := F12.frozen 0
                have HP := put1 (x := (.slice Aw nw cw)) F12 GX l12
                have KA2 := KA.far (p := ⟨g12, 0, none⟩) (by have := HGB.out; simp; omega) (.slice Aw nw cw)
                have KW2 := KW.far (p := ⟨g12, 0, none⟩) (by have := HGB.out; simp; omega) (.slice Aw nw cw)
                have Nw2 := nw_kept Nw hx12 (grownBy_setCell0 w6 g12 (.slice Aw nw cw))
                go_simp
                refine hK.out _ _ ⟨HP.2, KA2, KW2⟩ (fun hS => ?_)
                clear hK K d0 f0
                refine wpAnyH_take (i := 10) (v := .int .i64 FI) rfl (by kernel_rfl) (by kernel_rfl) (by kernel_rfl) (fun _ _ _ h => h) (Or.inl ⟨by kernel_rfl, fun u hSw => (by go_simp)⟩) hS ?_
                change wpAnyH _ _ _ _ _ _ _ (Act.put _ (some 13) _) _
                simp only [Act.put]
                try simp only [List.setIfInBounds_toArray, List.set_cons_zero, List.set_cons_succ]
                refine wpAnyH_take (i := 11) (v := .int .i64 FE) rfl (by kernel_rfl) (by kernel_rfl) (by kernel_rfl) (fun _ _ _ h => h) (Or.inl ⟨by kernel_rfl, fun u hSw => (by go_simp)⟩) hS ?_
                change wpAnyH _ _ _ _ _ _ _ (Act.put _ (some 14) _) _
                simp only [Act.put]
                try simp only [List.setIfInBounds_toArray, List.set_cons_zero, List.set_cons_succ]
                refine wpAnyH_done (by kernel_rfl) ?_ _
                clear hS
                go_wp2_with fail
                go_meet
                exact ⟨g12, Aw, nw, cw, Gw, rfl, rfl, rfl, Lib.hid l12, HP.1, Nw2, HEw, HP.2⟩
            · skip
              go_simp
              have F12 := Blk.new V 24 #[.slice none 0 0]
              have l12 : b0 ≤ V.heap.size := by have := GX.size; have := HB0.out; omega
              replace KA := KA.alloc (.cells #[.slice none 0 0] 24)
              replace KW := KW.alloc (.cells #[.slice none 0 0] 24)
              replace GX := GX.alloc l12 (.cells #[.slice none 0 0] 24)
              refine hK.out _ _ ⟨GX, KA, KW⟩ (fun hS => ?_)
              clear hK K
              generalize V.alloc (.cells #[.slice none 0 0] 24) = U8 at KA KW GX hS F12   ⊢
              generalize V.heap.size = g12 at F12 l12  ⊢
              refine wpAnyH_ready (rs := [2]) (by kernel_rfl) (by simp) ?_
              refine AllReadyH.cons rfl (fun K hK => ?_) AllReadyH.nil
              go_simp
              refine (HS2.out _ GX).mono ?_
              rintro e9 w9 ⟨A3, n3, c3, G3, rfl, O3, E3, h39, hm3, h9⟩
              replace KA := KA.below h9 KA.lt
              replace KW := KW.below h9 KW.lt
              replace GX := GX.trans (h9.mono (by have := GX.size; have := HB0.out; omega))
              replace F12 := F12.below h9 F12.lt
              have HW3 := O3.nw (by omega) (fun g hg => by have := hm3 g hg; omega)
              have HC3 := Lib.hid (And.intro (own_nc O3.row) E3)
              clear h9 O3 E3 h39 hm3
              refine hK.out _ _ ⟨GX, KA, KW⟩ (fun hS => ?_)
              clear hK K
              refine wpAnyH_ready (rs := [3]) (by kernel_rfl) (by simp) ?_
              refine AllReadyH.cons rfl (fun K hK => ?_) AllReadyH.nil
              go_simp
              have L12 := F12.lt
              refine (HWa2.out _ A3 n3 c3 G3 GX HW3 HC3.out.1 HC3.out.2).mono ?_
              rintro e10 w10 ⟨Aw, nw, cw, Gw, rfl, Nw, Ew, Cw, Ow, h9⟩
              have hx12 := Ow _ L12
              clear L12
              replace KA := KA.below h9 KA.lt
              replace KW := KW.below h9 KW.lt
              replace GX := GX.trans (h9.mono (by have := GX.size; have := HB0.out; omega))
              replace F12 := F12.below h9 F12.lt
              have HEw := Lib.hid Ew
              clear h9 Ew Cw Ow HW3
              refine hK.out _ _ ⟨GX, KA, KW⟩ (fun hS => ?_)
              clear hK K
              refine wpAnyH_take (i := 4) (v := .tuple #[.agg #[.slice Aw nw cw], .int .i64 FI, .int .i64 FE]) rfl (by kernel_rfl) (by kernel_rfl) (by kernel_rfl) (fun _ _ _ h => h) (Or.inl ⟨by kernel_rfl, fun u hSw => (by go_simp)⟩) hS ?_
              change wpAnyH _ _ _ _ _ _ _ (Act.put _ (some 39) _) _
              simp only [Act.put]
              try simp only [List.setIfInBounds_toArray, List.set_cons_zero, List.set_cons_succ]
              refine wpAnyH_take (i := 5) (v := .agg #[.slice Aw nw cw]) rfl (by kernel_rfl) (by kernel_rfl) (by kernel_rfl) (fun _ _ _ h => h) (Or.inl ⟨by kernel_rfl, fun u hSw => (by go_simp)⟩) hS ?_
              change wpAnyH _ _ _ _ _ _ _ (Act.put _ (some 44) _) _
              simp only [Act.put]
              try simp only [List.setIfInBounds_toArray, List.set_cons_zero, List.set_cons_succ]
              refine wpAnyH_take (i := 6) (v := .int .i64 FI) rfl (by kernel_rfl) (by kernel_rfl) (by kernel_rfl) (fun _ _ _ h => h) (Or.inl ⟨by kernel_rfl, fun u hSw => (by go_simp)⟩) hS ?_
              change wpAnyH _ _ _ _ _ _ _ (Act.put _ (some 45) _) _
              simp only [Act.put]
              try simp only [List.setIfInBounds_toArray, List.set_cons_zero, List.set_cons_succ]
              refine wpAnyH_take (i := 7) (v := .int .i64 FE) rfl (by kernel_rfl) (by kernel_rfl) (by kernel_rfl) (fun _ _ _ h => h) (Or.inl ⟨by kernel_rfl, fun u hSw => (by go_simp)⟩) hS ?_
              change wpAnyH _ _ _ _ _ _ _ (Act.put _ (some 46) _) _
              simp only [Act.put]
              try simp only [List.setIfInBounds_toArray, List.set_cons_zero, List.set_cons_succ]
              refine wpAnyH_ready (rs := [9]) (by kernel_rfl) (by simp) ?_
              refine AllReadyH.cons rfl (fun K hK => ?_) AllReadyH.nil
              have d0 := F12.cell 0
              have f0 := F12.frozen 0
              have HP := put1 (x := (.slice Aw nw cw)) F12 GX l12
              have KA2 := KA.far (p := ⟨g12, 0, none⟩) (by have := HGB.out; simp; omega) (.slice Aw nw cw)
              have KW2 := KW.far (p := ⟨g12, 0, none⟩) (by have := HGB.out; simp; omega) (.slice Aw nw cw)
              have Nw2 := nw_kept Nw hx12 (grownBy_setCell0 w10 g12 (.slice Aw nw cw))
              go_simp
              refine hK.out _ _ ⟨HP.2, KA2, KW2⟩ (fun hS => ?_)
              clear hK K d0 f0
              refine wpAnyH_take (i := 10) (v := .int .i64 FI) rfl (by kernel_rfl) (by kernel_rfl) (by kernel_rfl) (fun _ _ _ h => h) (Or.inl ⟨by kernel_rfl, fun u hSw => (by go_simp)⟩) hS ?_
              change wpAnyH _ _ _ _ _ _ _ (Act.put _ (some 13) _) _
              simp only [Act.put]
              try simp only [List.setIfInBounds_toArray, List.set_cons_zero, List.set_cons_succ]
              refine wpAnyH_take (i := 11) (v := .int .i64 FE) rfl (by kernel_rfl) (by kernel_rfl) (by kernel_rfl) (fun _ _ _ h => h) (Or.inl ⟨by kernel_rfl, fun u hSw => (by go_simp)⟩) hS ?_
              change wpAnyH _ _ _ _ _ _ _ (Act.put _ (some 14) _) _
              simp only [Act.put]
              try simp only [List.setIfInBounds_toArray, List.set_cons_zero, List.set_cons_succ]
              refine wpAnyH_done (by kernel_rfl) ?_ _
              clear hS
              go_wp2_with fail
              go_meet
              exact ⟨g12, Aw, nw, cw, Gw, rfl, rfl, rfl, Lib.hid l12, HP.1, Nw2, HEw, HP.2⟩
        case rest =>
          obtain ⟨g12, Aw, nw, cw, Gw, rfl, rfl, rfl, HL12, K12, HNw, HEw, GY⟩ := hcut
          rename World => Y
          have GVY : Below V.heap.size V Y := by rw [HB0.out]; exact GY
          replace GU := GU.trans (GVY.mono GU.size)
          replace K9 := K9.below GVY K9.lt
          replace HNh := HNh.below GVY
          replace HO := HO.below GVY
          have HVY : Hid (b0 ≤ Y.heap.size) := Lib.hid (by have := GVY.size; have := HB0.out; omega)
          clear KA KW GX HS2 HWa2 HWa HS8 GY GVY
          have HS1 := Lib.hid (fun (v : World) (h : Below Y.heap.size Y v) => dsame_any Ah nh ch Gh Aw nw cw Gw v (HNh.below h) (HNw.below h))
          rw [decide_eq_true (HEH.out.trans HEw.out.symm)] at HS1
          have HCo := Lib.hid (fun (v : World) (h : Below Y.heap.size Y v) => dcopy_any Aw nw cw Gw v (HNw.below h))
          have HNS : Hid (nh ≤ 100 ∧ ∀ x ∈ Gh, x.2.2.1 ≤ 100) := Lib.hid ⟨HNh.small, fun x hx => (HNh.each x hx).2⟩
          have HYS := Lib.hid GU.size
          clear HNw HNh
          have e1 : (FE != FE) = false := by simp
          have e2 : (FI != FI) = false := by simp
          have GYY := Below.refl Y.heap.size Y
          have p5 := (HF5.out _ GU).cell 0
          have p8 := (HF8.out _ GU).cell 0
          have p9 := K9.cell 0
          have p12 := K12.cell 0
          go_wp2_with fail
          refine (HS1.out _ GYY).mono ?_
          rintro e w5 ⟨rfl, h2⟩
          replace K9 := K9.below h2 K9.lt
          replace K12 := K12.below h2 K12.lt
          replace GU := GU.trans (h2.mono GU.size)
          replace GYY := GYY.trans (h2.mono GYY.size)
          clear h2 p5 p8 p9 p12
          have p5 := (HF5.out _ GU).cell 0
          have p8 := (HF8.out _ GU).cell 0
          have p9 := K9.cell 0
          have p12 := K12.cell 0
          go_wp2_with fail
          refine (HSa.out _ GU).mono ?_
          rintro e w6 ⟨rfl, h2⟩
          replace K9 := K9.below h2 K9.lt
          replace K12 := K12.below h2 K12.lt
          replace GU := GU.trans (h2.mono GU.size)
          replace GYY := GYY.trans (h2.mono GYY.size)
          clear h2 p5 p8 p9 p12
          have p12 := K12.cell 0
          go_wp2_with fail
          have HOl := Lib.hid GYY.size
          refine (HCo.out _ GYY).mono ?_
          rintro e w7 ⟨Ac, nc, cc, GC, rfl, Oc, Ec, hnc, hmc, h2⟩
          replace K9 := K9.below h2 K9.lt
          have HLw := Lib.hid K12.lt
          replace K12 := K12.below h2 K12.lt
          replace GU := GU.trans (h2.mono GU.size)
          replace GYY := GYY.trans (h2.mono GYY.size)
          have HOf := Lib.hid (OffB.far Oc HLw.out)
          have HGVC := (GV.own Oc hnc hmc).set HOf.out (.slice Ac nc cc)
          have HEC : Hid (gsM GC = FL) := Lib.hid (Ec.trans HEw.out)
          have HFR : Hid ((∀ ad, Ac = some ad → 0 < nc → E ≤ ad.block) ∧ ∀ x ∈ GC, ∀ ad, x.2.1 = some ad → 0 < x.2.2.1 → E ≤ ad.block) := Lib.hid (by
            have h1 := HGB.out; have h2 := HOl.out; have h3 := HVY.out
            exact ⟨own_from Oc.row (by omega), fun x hx => own_from (Oc.mem x hx) (by omega)⟩)
          have d0 := K12.cell 0
          have f0 := K12.frozen 0
          have HP := put1 (x := .slice Ac nc cc) K12 GU (by have := HGB.out; have := HL12.out; omega)
          have K9b := K9.far (p := ⟨g12, 0, none⟩) (by have := HGB.out; have := HL12.out; simp; omega) (.slice Ac nc cc)
          have HOb := NO.setOff (HO.below GYY) HOB.out.1 HOB.out.2 (show E ≤ g12 by have := HGB.out; have := HL12.out; omega) (.slice Ac nc cc)
          clear p12 h2 Oc Ec hnc hmc K9 GU K12 HO HS1 HCo HOf GYY
          go_upto_region 14 with fail
          obtain ⟨w9, hw9⟩ : ∃ v, w7.setCell ⟨g12, 0, none⟩ (.slice Ac nc cc) = v := ⟨_, rfl⟩
          rw [hw9] at HP K9b HOb HGVC ⊢
          clear hw9 d0 f0
          have HK := Lib.hid (And.intro K9b (And.intro HP.1 HGVC))
          have HRS : Hid (HR u w9 E Ah nh ch Gh w9) := Lib.hid ⟨HOb, HOB.out.1, HOB.out.2, HP.2, fun _ _ _ => rfl, Nat.le_refl _⟩
          have p9 := K9b.cell 0
          clear K9b HP HGVC HOb
          go_wp2_with fail
          clear p9
          have nh9 : nh ≤ 100 := HNS.out.1
          have HM100 := Lib.hid HNS.out.2
          go_loopw [72] (fun iv wr => ∃ (a : Nat) (G' : List Gn), a ≤ nh ∧ iv = .int .i64 (a : Int) ∧ Hid (HR u w9 E Ah nh ch G' wr) ∧ Hid (∀ x ∈ G', x.2.2.1 ≤ 100)) (fun iv _ => nh - (intOf iv).toNat)
          case atStart => exact ⟨0, Gh, by omega, rfl, HRS, HM100⟩
          case round =>
            clear HRS HM100
            rename World => wa
            obtain ⟨a, G', ha, rfl, HH, HM⟩ := hrel
            by_cases hal : a < nh
            · obtain ⟨⟨id, A3, mm, c3, is⟩, hxa⟩ := elem_at (l := G') (k := a) (by rw [HH.out.no.len]; exact hal)
              obtain ⟨gr, rfl, hhd⟩ := HH.out.head hxa
              have p9 := (HH.out.blk HK.out.1 (Nat.le_refl _)).cell 0
              have a1 : (0 : Int) ≤ (a : Int) := by omega
              have a2 : (a : Int) < (nh : Int) := by omega
              have la : decide ((a : Int) < (nh : Int)) = true := decide_eq_true a2
              have m9 : mm ≤ 100 := HM.out _ (List.mem_of_getElem? hxa)
              have HXA := Lib.hid hxa
              have HAN := Lib.hid (show a + 1 ≤ nh by omega)
              clear hxa ha hal
              go_wp2_with fail
              clear p9 hhd
              go_loopw [82] (fun jv wr => ∃ (j : Nat) (G2 : List Gn) (is2 : List Int), j ≤ mm ∧ jv = .int .i64 (j : Int) ∧ Hid (HR u w9 E (some ⟨gr, 0, none⟩) nh ch G2 wr) ∧ Hid (G2[a]? = some (id, A3, mm, c3, is2)) ∧ Hid (∀ x ∈ G2, x.2.2.1 ≤ 100)) (fun jv _ => mm - (intOf jv).toNat)
              case atStart => exact ⟨0, G', is, by omega, rfl, HH, HXA, HM⟩
              case round =>
                clear HH HXA HM
                rename World => wj
                obtain ⟨j, G2, is2, hj, rfl, HH, HXA, HM⟩ := hrel
                by_cases hjl : j < mm
                · obtain ⟨gr2, g3, e1', rfl, hhd, ⟨y, hy⟩, hfz, HPu⟩ := HH.out.put HXA.out hjl
                  obtain rfl : gr = gr2 := by injection e1' with e1'; injection e1'
                  have p9 := (HH.out.blk HK.out.1 (Nat.le_refl _)).cell 0
                  have j1 : (0 : Int) ≤ (j : Int) := by omega
                  have j2 : (j : Int) < (mm : Int) := by omega
                  have lj : decide ((j : Int) < (mm : Int)) = true := decide_eq_true j2
                  have HXB : Hid ((G2.set a (id, some ⟨g3, 0, none⟩, mm, c3, is2.set j 99))[a]? = some (id, some ⟨g3, 0, none⟩, mm, c3, is2.set j 99)) := Lib.hid (List.getElem?_set_self (List.getElem?_eq_some_iff.1 HXA.out).1)
                  have HMB : Hid (∀ x ∈ G2.set a (id, some ⟨g3, 0, none⟩, mm, c3, is2.set j 99), x.2.2.1 ≤ 100) := Lib.hid (fun x hx => by
                    rcases List.mem_or_eq_of_mem_set hx with hx | rfl
                    · exact HM.out x hx
                    · have h7 := HM.out _ (List.mem_of_getElem? HXA.out)
                      exact h7)
                  have HJN := Lib.hid (show j + 1 ≤ mm by omega)
                  clear e1' hj hjl HH HM HXA
                  go_wp2_with fail
                  go_roundw
                  case rel => exact ⟨j + 1, _, _, HJN.out, by go_num, Lib.hid (HPu.out 99), HXB, HMB⟩
                  case measure => have := HJN.out; simp [intOf]; omega
                · obtain rfl : mm = j := by omega
                  have lj : decide ((mm : Int) < (mm : Int)) = false := decide_eq_false (by omega)
                  clear hj hjl
                  go_wp2_with fail
                  go_roundw
                  case rel => exact ⟨a + 1, G2, HAN.out, by go_num, HH, HM⟩
                  case measure => have := HAN.out; simp [intOf] <;> omega
            · obtain rfl : nh = a := by omega
              have la : decide ((nh : Int) < (nh : Int)) = false := decide_eq_false (by omega)
              have p5 := (HF5.out _ HH.out.lo).cell 0
              have p8 := (HF8.out _ HH.out.lo).cell 0
              clear ha hal
              go_wp2_with fail
              refine (HSa.out _ HH.out.lo).mono ?_
              rintro e wz ⟨rfl, h2⟩
              have HZ := Lib.hid (HH.out.below2 h2)
              clear h2 p5 p8 HH HM
              by_cases hfe : FE = 0
              · have ge : (FE == 0) = true := by simp [hfe]
                have K12 := HZ.out.blk HK.out.2.1 (show E ≤ g12 by have := HGB.out; have := HL12.out; omega)
                have K5 := HF5.out _ HZ.out.lo
                have p12 := K12.cell 0
                have d0 := K5.cell 0
                have f0 := K5.frozen 0
                have HDN : Hid (DR w g5 Ac nc cc GC (wz.setCell ⟨g5, 0, none⟩ (.slice Ac nc cc))) := Lib.hid (by
                  have hwz := HBU.out.trans (HZ.out.lo.mono HBU.out.size)
                  have hput := put1 (x := .slice Ac nc cc) K5 hwz HG5.out
                  have h3 := HGG.out
                  have h4 := HUE.out
                  refine ⟨hput.1, (GV.hr HZ.out HK.out.2.2 HFR.out.1 HFR.out.2).set ⟨fun ad hA h0 => by have := HFR.out.1 ad hA h0; omega, fun x hx ad hA h0 => by have := HFR.out.2 x hx ad hA h0; omega⟩ _, ?_, hput.2⟩
                  rw [HEC.out]
                  have hrr := run_right H6.out (N := N) (ms := intsL ms) (l := gsM Gg) (by rw [HRV.out]; exact hfe)
                  rw [HRV.out] at hrr
                  exact short_right hrr)
                clear hfe K12 K5
                go_wp2_with fail
                go_roundw
                case rel => exact ⟨k + 1, Ac, nc, cc, GC, HJ.out.1, HJ.out.2, by go_num, HDN⟩
                case measure => have := HJ.out.1; simp [intOf]; omega
              · have ge : (FE == 0) = false := by simp [hfe]
                have HDN : Hid (DR w g5 Ag ng cg Gg wz) := Lib.hid ⟨HF5.out _ HZ.out.lo, HVg.out _ HZ.out.lo, HSH.out, HBU.out.trans (HZ.out.lo.mono HBU.out.size)⟩
                clear hfe
                go_wp2_with fail
                go_roundw
                case rel => exact ⟨k + 1, Ag, ng, cg, Gg, HJ.out.1, HJ.out.2, by go_num, HDN⟩
                case measure => have := HJ.out.1; simp [intOf]; omega
    · obtain rfl : n1 = k := by omega
      have l1 : decide ((n1 : Int) < (n1 : Int)) = false := decide_eq_false (by omega)
      have HB9 := HDR.out.bel
      go_wp2_with fail
      go_ret
      exact ⟨rfl, HB9⟩

end Go.Proofs.Ytglphgfaknofcaa
