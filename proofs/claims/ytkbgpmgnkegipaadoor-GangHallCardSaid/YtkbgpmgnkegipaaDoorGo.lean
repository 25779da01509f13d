/-
  The landed gang: Form. No statement is proved here.
-/
import Derived.Test.YtkbgpmgnkegipaaDoorGn
namespace Go.Proofs.YtkbgpmgnkegipaaDoor
open Go.RowKit Go.Maps

theorem results_cell_tmp2 {P : Program} {fn : Func} {p q r : Tmp} {ty : TypeId} (h : fn.results = #[.cell p ty, .tmp q, .tmp r]) (tmps : Array Value) (w : World) (g : Nat) (t : TypeId) (cs : Array Value) (d : TypeDesc)
    (hp : tmps.getD p undef = .pointer (some ⟨g, 0, none⟩)) (hg : w.heap[g]? = some (.cells cs t (0, 0)))
    (hu : P.underlying ty = some d) (hd : (match d with | .struct _ | .array _ _ => true | _ => false) = true) (hi : (P.info? ty).map (·.size) = some cs.size) :
    (results fn tmps).run P w = .ok (.tuple #[.agg cs, tmps.getD q undef, tmps.getD r undef]) w := by
  have hp' : tmps[p]?.getD undef = .pointer (some ⟨g, 0, none⟩) := by simpa using hp
  simp [results, h, hp', asAddr, run_loadVar_row w g t ty cs (0, 0) d hg hu hd hi]

/-- what Form comes to -/
def FormSaid (l : List Gm) (ms : List Int) (w : World) (e : Ending) (w' : World) : Prop :=
  ∃ A n c G, e = .returned (.tuple #[.agg #[.slice A n c], .int .i64 (if unfV l ms = 0 then (gapG l : Int) + 1 else 0), .int .i64 (unfV l ms)]) ∧ NO w' w.heap.size A n c G ∧ gsM G = (if unfV l ms = 0 then formG l ms else []) ∧ Below w.heap.size w w'
theorem no_none (w : World) (B : Nat) : NO w B none 0 0 [] := ⟨World.ownsRow_nil _ _ _ _, fun g hg => (by cases hg), fun g hg => (by cases hg), List.Pairwise.nil⟩
def gapOf (gb : Nat) (w : World) : Nat := match w.cell? ⟨gb, 0, none⟩ with
  | some v => (intOf v).toNat
  | none => 0
theorem gapOf_at {gb : Nat} {w : World} {k : Nat} (h : w.cell? ⟨gb, 0, none⟩ = some (.int .i64 (k : Int))) : gapOf gb w = k := by
  unfold gapOf
  rw [h]
  simp [intOf]

set_option maxRecDepth 100000 in
set_option maxHeartbeats 8000000 in
theorem form_any (A : Option Addr) (n c : Nat) (gs : List Gn) (A2 : Option Addr) (m c2 : Nat) (ms : List Int) (w : World) (hG : NW w A n gs) (hc : n ≤ c) (hI : IR w A2 m ms) :
    Calls Tryd.prog 13 #[.agg #[.slice A n c], .slice A2 m c2] w (FormSaid (gsM gs) ms w) := by
  obtain ⟨K0, K1, K2, GB⟩ := blks3 w 36 27 36 #[.slice A n c] #[.slice A2 m c2] #[.slice none 0 0]
  have HU := Lib.hid (fun (u : World) (h : Below w.heap.size w u) => unformed_any A n c gs A2 m c2 ms u (hG.below h) hc (hI.below h))
  have HG := Lib.hid hG
  have HI := Lib.hid hI
  have n9 : n ≤ 100 := hG.small
  have HL := Lib.hid hG.len
  have HK0 := Lib.hid K0
  have HK1 := Lib.hid K1
  have HK2 := Lib.hid K2
  have c0 := K0.cell 0
  have c1 := K1.cell 0
  obtain ⟨V, hV⟩ : ∃ V, unfV (gsM gs) ms = V := ⟨_, rfl⟩
  have HV := Lib.hid hV
  rw [hV] at HU
  clear hG hI K0 K1 K2 hV
  by_cases h0 : V = 0
  · subst h0
    go_enter Tryd.func13, Tryd.ntmps13
    go_wp2_with fail
    refine (HU.out _ GB).mono ?_
    rintro e w1 ⟨rfl, h1⟩
    have HB1 := Lib.hid (GB.trans (h1.mono GB.size))
    have HJ0 := Lib.hid (HK0.out.below h1 HK0.out.lt)
    have HJ1 := Lib.hid (HK1.out.below h1 HK1.out.lt)
    have HJ2 := Lib.hid (HK2.out.below h1 HK2.out.lt)
    clear h1 c0 c1 GB
    have HB2 := Lib.hid ((Below.refl w1.heap.size w1).alloc (Nat.le_refl _) (.cells #[.int .i64 0] 3))
    have HBG := Lib.hid (Blk.new w1 3 #[.int .i64 0])
    go_wp2_with fail
    generalize w1.alloc (.cells #[.int .i64 0] 3) = w2 at *
    go_loopw [] (fun wr => ∃ k : Nat, k ≤ n ∧ Blk wr w1.heap.size 3 #[.int .i64 (k : Int)] ∧ Hid (gapG (gsM gs) = gapFrom k ((gsM gs).drop k)) ∧ Below w1.heap.size w1 wr) (fun wr => n - gapOf w1.heap.size wr)
    case atStart => exact ⟨0, by omega, HBG.out, Lib.hid rfl, HB2.out⟩
    case round =>
      obtain ⟨k, hk, KG, HP, hB⟩ := hrel
      have HBr := Lib.hid hB
      have J0 := HJ0.out.below hB HJ0.out.lt
      have d0 := J0.cell 0
      have g0 := KG.cell 0
      have g1 := KG.frozen 0
      have HKG := Lib.hid KG
      have hbw := HB1.out.trans (hB.mono HB1.out.size)
      have HBW := Lib.hid hbw
      have HLT : Hid (w1.heap.size < wr.heap.size ∧ w.heap.size + 1 < wr.heap.size) := Lib.hid ⟨KG.lt, (HJ1.out.below hB HJ1.out.lt).lt⟩
      clear J0 KG
      by_cases hlt : k < n
      · obtain ⟨⟨id, A3, m3, c3, is3⟩, hx⟩ := elem_at (l := gs) (k := k) (by rw [HL.out]; exact hlt)
        obtain ⟨ad, rfl, _, e0, _⟩ := (HG.out.below hbw).at_ hx
        have hst := gap_step (gsM_at hx) HP.out
        have HST : Hid ((id = (k : Int) + 1 → gapG (gsM gs) = gapFrom (k + 1) ((gsM gs).drop (k + 1))) ∧ (id ≠ (k : Int) + 1 → gapG (gsM gs) = k)) := Lib.hid hst
        have q1 : decide ((k : Int) < (n : Int)) = true := decide_eq_true (by omega)
        have i0 : (0 : Int) ≤ (k : Int) := by omega
        have i1 : (k : Int) < (n : Int) := by omega
        have HW1 : IntKind.i64.wrap ((k : Int) + 1) = (k : Int) + 1 := by rw [IntKind.wrap_i64]; omega
        clear hx hst hbw hB
        by_cases hid : id = (k : Int) + 1
        · have q2 : (id == (k : Int) + 1) = true := by simpa using hid
          have HP2 := Lib.hid (HST.out.1 hid)
          clear hid
          have HKN : Hid (∀ q, Blk ((wr.drewN q).setCell ⟨w1.heap.size, 0, none⟩ (.int .i64 ((k : Int) + 1))) w1.heap.size 3 #[.int .i64 (((k + 1 : Nat)) : Int)] ∧ Below w1.heap.size w1 ((wr.drewN q).setCell ⟨w1.heap.size, 0, none⟩ (.int .i64 ((k : Int) + 1)))) := Lib.hid (fun q => ⟨(HKG.out.drewN q).set_ 0 (.int .i64 ((k : Int) + 1)), (below_drewN HBr.out q).setCell (p := ⟨w1.heap.size, 0, none⟩) (Nat.le_refl _) _⟩)
          have HGO := Lib.hid (gapOf_at (HKG.out.cell 0))
          go_wp2_with fail
          go_quiet (fail)
          go_wp2
          go_roundw
          case rel => exact ⟨k + 1, by omega, (HKN.out _).1, HP2, (HKN.out _).2⟩
          case measure =>
            rw [HGO.out, gapOf_at ((HKN.out _).1.cell 0)]
            omega
        · have q2 : (id == (k : Int) + 1) = false := by simpa using hid
          have HGP := Lib.hid (HST.out.2 hid)
          clear hid
          have HCh := Lib.hid (fun (q : Nat) => chform_any (some ad) n c gs (wr.drewN q) (HG.out.below (below_drewN HBW.out q)) w1.heap.size (w.heap.size + 1) ((gsM gs).take k ++ ((k : Int) + 1, ms) :: (gsM gs).drop k) (fun u A' c' G hN hb hs hE => by
            have hb : Below wr.heap.size wr u := ⟨hb.os, hb.tape, hb.output, hb.size, hb.block⟩
            have := formdo_any (wr.heap.size + 1 + 1) n c' A' G w1.heap.size (w.heap.size + 1) k A2 m c2 ms u hN hs (HKG.out.below hb HKG.out.lt) ((HJ1.out.below HBr.out HJ1.out.lt).below hb HLT.out.2) (HI.out.below (HBW.out.trans (hb.mono HBW.out.size))) hk n9 (by have := HKG.out.lt; omega) (by have := HLT.out.2; omega)
            rwa [hE] at this))
          have HRF : Hid (formG (gsM gs) ms = (gsM gs).take k ++ ((k : Int) + 1, ms) :: (gsM gs).drop k ∧ gapG (gsM gs) = k) := Lib.hid (by unfold formG; rw [HGP.out]; exact ⟨rfl, rfl⟩)
          go_wp2_with fail
          go_quiet (fail)
          go_wp2_with fail
          refine (HCh.out _).mono ?_
          rintro e w5 ⟨A5, n5, c5, G5, rfl, N5, E5, h5⟩
          have h5 : Below wr.heap.size wr w5 := ⟨h5.os, h5.tape, h5.output, h5.size, h5.block⟩
          have KG5 := (HKG.out.below h5 HKG.out.lt).alloc (.cells #[.slice A5 n5 c5] 36)
          have KF5 := Blk.new w5 36 #[.slice A5 n5 c5]
          have KR5 := (HJ2.out.below (HBr.out.trans (h5.mono HBr.out.size)) HJ2.out.lt).alloc (.cells #[.slice A5 n5 c5] 36)
          have hbx := HB1.out.trans ((HBr.out.trans (h5.mono HBr.out.size)).mono HB1.out.size)
          have hby := hbx.alloc hbx.size (.cells #[.slice A5 n5 c5] 36)
          have HN5 := Lib.hid (And.intro (N5.below ((Below.refl _ _).alloc (Nat.le_refl _) (.cells #[.slice A5 n5 c5] 36))) (And.intro E5 (Nat.le_trans hbx.size (Nat.le_refl _))))
          have HW0 : Hid (w.heap.size + 1 + 1 + 1 ≤ wr.heap.size) := Lib.hid (by have := HJ2.out.below HBr.out HJ2.out.lt; exact this.lt)
          have HSZ : Hid (wr.heap.size ≤ w5.heap.size ∧ w.heap.size + 1 + 1 < w1.heap.size) := Lib.hid ⟨h5.size, HJ2.out.lt⟩
          clear N5 E5 h5 hbx d0 g0 g1
          have x0 := KF5.cell 0
          have x1 := KG5.cell 0
          have x2 := KR5.cell 0
          have x3 := KR5.frozen 0
          have HP := Lib.hid (put1 (x := .slice A5 n5 c5) KR5 hby (by omega))
          have y0 := (KF5.far (p := ⟨w.heap.size + 1 + 1, 0, none⟩) (by have := HW0.out; have := HSZ.out; simp; omega) (.slice A5 n5 c5)).cell 0
          have y1 := (KG5.far (p := ⟨w.heap.size + 1 + 1, 0, none⟩) (by have := HSZ.out; simp; omega) (.slice A5 n5 c5)).cell 0
          have HNF := Lib.hid (((HN5.out.1.set (g := w.heap.size + 1 + 1) (by exact HW0.out) 0 (.slice A5 n5 c5)).down (by have := HW0.out; exact Nat.le_trans (by omega) this)) : NO ((w5.alloc (.cells #[.slice A5 n5 c5] 36)).setCell ⟨w.heap.size + 1 + 1, 0, none⟩ (.slice A5 n5 c5)) w.heap.size A5 n5 c5 G5)
          clear KF5 KG5 KR5
          go_upto_region 8 with fail
          go_region_held3 (fun u => u.cell? ⟨w5.heap.size, 0, none⟩ = some (.slice A5 n5 c5) ∧ u.cell? ⟨w1.heap.size, 0, none⟩ = some (.int .i64 (k : Int)))
            (first | exact ⟨x0, x1⟩ | exact ⟨y0, y1⟩)
            (fail)
          clear x0 x1 x2 x3 y0 y1
          go_wp2
          exact bodyPost_ret (v := .tuple #[.agg #[.slice A5 n5 c5], .int .i64 ((k : Int) + 1), .int .i64 0]) (results_cell_tmp2 Tryd.results13 _ _ _ _ _ _ rfl HP.out.1 Tryd.underlying36 rfl (by kernel_rfl)) rfl ⟨A5, n5, c5, G5, by rw [HV.out, if_pos rfl, HRF.out.2], HNF.out.below (Below.refl _ _).drew, by rw [if_pos HV.out, HRF.out.1]; exact HN5.out.2.1, HP.out.2.drew⟩
      · obtain rfl : k = n := by omega
        have q1 : decide ((k : Int) < (k : Int)) = false := decide_eq_false (by omega)
        have HW1 : IntKind.i64.wrap ((k : Int) + 1) = (k : Int) + 1 := by rw [IntKind.wrap_i64]; omega
        have HGP : Hid (gapG (gsM gs) = k) := Lib.hid (by rw [HP.out, List.drop_of_length_le (by rw [gsM_len, HL.out]; exact Nat.le_refl _)]; rfl)
        clear hbw hB
        have HCh := Lib.hid (fun (q : Nat) => chform_any A k c gs (wr.drewN q) (HG.out.below (below_drewN HBW.out q)) w1.heap.size (w.heap.size + 1) ((gsM gs).take k ++ ((k : Int) + 1, ms) :: (gsM gs).drop k) (fun u A' c' G hN hb hs hE => by
          have hb : Below wr.heap.size wr u := ⟨hb.os, hb.tape, hb.output, hb.size, hb.block⟩
          have := formdo_any (wr.heap.size + 1 + 1) k c' A' G w1.heap.size (w.heap.size + 1) k A2 m c2 ms u hN hs (HKG.out.below hb HKG.out.lt) ((HJ1.out.below HBr.out HJ1.out.lt).below hb HLT.out.2) (HI.out.below (HBW.out.trans (hb.mono HBW.out.size))) hk n9 (by have := HKG.out.lt; omega) (by have := HLT.out.2; omega)
          rwa [hE] at this))
        have HRF : Hid (formG (gsM gs) ms = (gsM gs).take k ++ ((k : Int) + 1, ms) :: (gsM gs).drop k ∧ gapG (gsM gs) = k) := Lib.hid (by unfold formG; rw [HGP.out]; exact ⟨rfl, rfl⟩)
        go_wp2_with fail
        go_quiet (fail)
        go_wp2_with fail
        refine (HCh.out _).mono ?_
        rintro e w5 ⟨A5, n5, c5, G5, rfl, N5, E5, h5⟩
        have h5 : Below wr.heap.size wr w5 := ⟨h5.os, h5.tape, h5.output, h5.size, h5.block⟩
        have KG5 := (HKG.out.below h5 HKG.out.lt).alloc (.cells #[.slice A5 n5 c5] 36)
        have KF5 := Blk.new w5 36 #[.slice A5 n5 c5]
        have KR5 := (HJ2.out.below (HBr.out.trans (h5.mono HBr.out.size)) HJ2.out.lt).alloc (.cells #[.slice A5 n5 c5] 36)
        have hbx := HB1.out.trans ((HBr.out.trans (h5.mono HBr.out.size)).mono HB1.out.size)
        have hby := hbx.alloc hbx.size (.cells #[.slice A5 n5 c5] 36)
        have HN5 := Lib.hid (And.intro (N5.below ((Below.refl _ _).alloc (Nat.le_refl _) (.cells #[.slice A5 n5 c5] 36))) (And.intro E5 (Nat.le_trans hbx.size (Nat.le_refl _))))
        have HW0 : Hid (w.heap.size + 1 + 1 + 1 ≤ wr.heap.size) := Lib.hid (by have := HJ2.out.below HBr.out HJ2.out.lt; exact this.lt)
        have HSZ : Hid (wr.heap.size ≤ w5.heap.size ∧ w.heap.size + 1 + 1 < w1.heap.size) := Lib.hid ⟨h5.size, HJ2.out.lt⟩
        clear N5 E5 h5 hbx d0 g0 g1
        have x0 := KF5.cell 0
        have x1 := KG5.cell 0
        have x2 := KR5.cell 0
        have x3 := KR5.frozen 0
        have HP := Lib.hid (put1 (x := .slice A5 n5 c5) KR5 hby (by omega))
        have y0 := (KF5.far (p := ⟨w.heap.size + 1 + 1, 0, none⟩) (by have := HW0.out; have := HSZ.out; simp; omega) (.slice A5 n5 c5)).cell 0
        have y1 := (KG5.far (p := ⟨w.heap.size + 1 + 1, 0, none⟩) (by have := HSZ.out; simp; omega) (.slice A5 n5 c5)).cell 0
        have HNF := Lib.hid (((HN5.out.1.set (g := w.heap.size + 1 + 1) (by exact HW0.out) 0 (.slice A5 n5 c5)).down (by have := HW0.out; exact Nat.le_trans (by omega) this)) : NO ((w5.alloc (.cells #[.slice A5 n5 c5] 36)).setCell ⟨w.heap.size + 1 + 1, 0, none⟩ (.slice A5 n5 c5)) w.heap.size A5 n5 c5 G5)
        clear KF5 KG5 KR5
        go_upto_region 8 with fail
        go_region_held3 (fun u => u.cell? ⟨w5.heap.size, 0, none⟩ = some (.slice A5 n5 c5) ∧ u.cell? ⟨w1.heap.size, 0, none⟩ = some (.int .i64 (k : Int)))
          (first | exact ⟨x0, x1⟩ | exact ⟨y0, y1⟩)
          (fail)
        clear x0 x1 x2 x3 y0 y1
        go_wp2
        exact bodyPost_ret (v := .tuple #[.agg #[.slice A5 n5 c5], .int .i64 ((k : Int) + 1), .int .i64 0]) (results_cell_tmp2 Tryd.results13 _ _ _ _ _ _ rfl HP.out.1 Tryd.underlying36 rfl (by kernel_rfl)) rfl ⟨A5, n5, c5, G5, by rw [HV.out, if_pos rfl, HRF.out.2], HNF.out.below (Below.refl _ _).drew, by rw [if_pos HV.out, HRF.out.1]; exact HN5.out.2.1, HP.out.2.drew⟩
  · have q0 : (V == 0) = false := by simpa using h0
    have hv0 : ¬ unfV (gsM gs) ms = 0 := by rw [HV.out]; exact h0
    have HV0 := Lib.hid hv0
    clear h0 hv0
    go_enter Tryd.func13, Tryd.ntmps13
    go_wp2_with fail
    refine (HU.out _ GB).mono ?_
    rintro e w1 ⟨rfl, h1⟩
    have B1 := GB.trans (h1.mono GB.size)
    have J2 := HK2.out.below h1 HK2.out.lt
    have x2 := J2.cell 0
    have x3 := J2.frozen 0
    have HP := Lib.hid (put1 (x := .slice none 0 0) J2 B1 (by omega))
    clear h1 c0 c1 GB B1 J2
    go_wp2_with fail
    exact bodyPost_ret (v := .tuple #[.agg #[.slice none 0 0], .int .i64 0, .int .i64 V]) (results_cell_tmp2 Tryd.results13 _ _ _ _ _ _ rfl HP.out.1 Tryd.underlying36 rfl (by kernel_rfl)) rfl ⟨none, 0, 0, [], by rw [if_neg HV0.out, HV.out], no_none _ _, by rw [if_neg HV0.out]; rfl, HP.out.2⟩

end Go.Proofs.YtkbgpmgnkegipaaDoor
