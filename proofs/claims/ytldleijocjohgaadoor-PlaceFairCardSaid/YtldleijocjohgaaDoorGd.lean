/-
  The landed place: standing, Check, refused. No statement is proved here.
-/
import Derived.Test.YtldleijocjohgaaDoorGc
namespace Go.Proofs.YtldleijocjohgaaDoor
open Go.RowKit

theorem results_cell_row_tmp {P : Program} {fn : Func} {p q : Tmp} {ty : TypeId} (h : fn.results = #[.cell p ty, .tmp q]) (tmps : Array Value) (w : World) (g : Nat) (t : TypeId) (cs : Array Value) (d : TypeDesc)
    (hp : tmps.getD p undef = .pointer (some ⟨g, 0, none⟩)) (hg : w.heap[g]? = some (.cells cs t (0, 0)))
    (hu : P.underlying ty = some d) (hd : (match d with | .struct _ | .array _ _ => true | _ => false) = true) (hi : (P.info? ty).map (·.size) = some cs.size) :
    (results fn tmps).run P w = .ok (.tuple #[.agg cs, tmps.getD q undef]) w := by
  have hp' : tmps[p]?.getD undef = .pointer (some ⟨g, 0, none⟩) := by simpa using hp
  simp [results, h, hp', asAddr, run_loadVar_row w g t ty cs (0, 0) d hg hu hd hi]
theorem results_cell_row1 {P : Program} {fn : Func} {p : Tmp} {ty : TypeId} (h : fn.results = #[.cell p ty]) (tmps : Array Value) (w : World) (g : Nat) (t : TypeId) (cs : Array Value) (d : TypeDesc)
    (hp : tmps.getD p undef = .pointer (some ⟨g, 0, none⟩)) (hg : w.heap[g]? = some (.cells cs t (0, 0)))
    (hu : P.underlying ty = some d) (hd : (match d with | .struct _ | .array _ _ => true | _ => false) = true) (hi : (P.info? ty).map (·.size) = some cs.size) :
    (results fn tmps).run P w = .ok (.agg cs) w := by
  have hp' : tmps[p]?.getD undef = .pointer (some ⟨g, 0, none⟩) := by simpa using hp
  simp [results, h, hp', asAddr, run_loadVar_row w g t ty cs (0, 0) d hg hu hd hi]
/-- a row of eight stored whole, read whole -/
theorem size8 (F : Nat → Int) : (Tryd.prog.info? 71).map (·.size) = some (agH F).size := by kernel_rfl
theorem one8 (F : Nat → Int) : (agH F).all (·.oneCell') = true := by simp [agH, Value.oneCell']
theorem put8 {w w1 : World} {g b : Nat} {t : TypeId} {F G : Nat → Int} (K : Blk w1 g t (agH F)) (B : Below b w w1) (hg : b ≤ g) : Blk (w1.setRow g (agH G)) g t (agH G) ∧ Below b w (w1.setRow g (agH G)) := ⟨K.row, below_row B hg⟩

/-- what standing answers -/
def standF (l : List Wi) : Nat → Int := if rightW l = true then hereF l else fun _ => 0
def standE (l : List Wi) : Int := if rightW l = true then 0 else 230

set_option maxRecDepth 100000 in
set_option maxHeartbeats 4000000 in
theorem standing_any (A : Option Addr) (n c : Nat) (l : List Wi) (w : World) (hR : Reads w w.heap.size 4 A n (wivs l)) (hU : ∀ (k : Nat) (x : Wi), l[k]? = some x → UW x) (hn : n ≤ 1000) :
    Calls Tryd.prog 31 #[.slice A n c] w (Said (.tuple #[.agg (agH (standF l)), .int .i64 (standE l)]) w) := by
  have HL := Lib.hid (wishes_len hR)
  have HR := Lib.hid hR
  have HU := Lib.hid hU
  obtain ⟨K2, K4, K5, GB⟩ := blks3 w 71 71 91 (agH fun _ => 0) (agH fun _ => 0) (agM fun _ => false)
  have HM := Lib.hid (fun (x : Wi) (hx : UW x) u => may_any x hx u)
  have HHN := Lib.hid (fun F B v c u K h => hold_no F B v c u K h)
  have HHY := Lib.hid (fun F B v c u K h => hold_yes F B v c u K h)
  have hsF : ∀ r, rightW l = r → standF l = (if r = true then hereF l else fun _ => 0) := fun r h => by unfold standF; rw [h]
  have hsE : ∀ r, rightW l = r → standE l = (if r = true then 0 else 230) := fun r h => by unfold standE; rw [h]
  have HSF := Lib.hid hsF
  have HSE := Lib.hid hsE
  generalize hF : standF l = FF at *
  generalize hE : standE l = EE at *
  clear hR hU hsF hsE hF hE
  go_enter Tryd.func31, Tryd.ntmps31
  go_wp2_with fail
  go_loopw [10] (fun i wr => ∃ k : Nat, k ≤ n ∧ i = .int .i64 (k : Int) ∧ Hid (rightK l k = true) ∧ Hid (Blk wr w.heap.size 71 (agH fun _ => 0)) ∧ Hid (Blk wr (w.heap.size + 1) 71 (agH (hereF (l.take k)))) ∧
    Hid (Blk wr (w.heap.size + 1 + 1) 91 (agM (metF (l.take k)))) ∧ Below w.heap.size w wr) (fun i _ => n - (intOf i).toNat)
  case atStart => exact ⟨0, by omega, rfl, Lib.hid rfl, Lib.hid K2, Lib.hid K4, Lib.hid K5, GB⟩
  case round =>
    clear K2 K4 K5 GB
    obtain ⟨k, hk, rfl, HA, K2, K4, K5, hB⟩ := hrel
    by_cases hlt : k < n
    · obtain ⟨x, hm⟩ := elem_at (l := l) (k := k) (by rw [HL.out]; exact hlt)
      obtain ⟨ad, rfl, hb, d0, d1, d2, d3⟩ := wish_at (HR.out.below hB) hm
      have HT := Lib.hid hm
      have HX := Lib.hid (fun u => HM.out x (HU.out k x hm) u)
      have HS := Lib.hid (here_step hm)
      have HMS := Lib.hid (fun (i : Nat) (h : x.v = (i : Int)) => met_step hm h)
      obtain ⟨v, a, h, s⟩ := x
      have K7 := Lib.hid (Blk.new wr 43 #[.int .i64 v, .int .i64 a, .int .u32 h, .int .u32 s])
      have L2 := Lib.hid (K2.out.alloc (.cells #[.int .i64 v, .int .i64 a, .int .u32 h, .int .u32 s] 43))
      have L4 := Lib.hid (K4.out.alloc (.cells #[.int .i64 v, .int .i64 a, .int .u32 h, .int .u32 s] 43))
      have L5 := Lib.hid (K5.out.alloc (.cells #[.int .i64 v, .int .i64 a, .int .u32 h, .int .u32 s] 43))
      have B1 := Lib.hid (hB.alloc hB.size (.cells #[.int .i64 v, .int .i64 a, .int .u32 h, .int .u32 s] 43))
      have z0 := K7.out.cell 0
      have z1 := K7.out.cell 1
      have z2 := K7.out.cell 2
      have z3 := K7.out.cell 3
      clear hm hb K2 K4 K5 hB
      cases hmay : mayB ⟨v, a, h, s⟩ with
      | false =>
        rw [hmay] at HX
        have HN : Hid (rightW l = false) := Lib.hid (fits_no_may HT.out hmay)
        clear hmay
        go_wp2_with fail
        refine (HX.out _).mono ?_
        rintro e w2 ⟨rfl, h2⟩
        have B2 := B1.out.trans (h2.mono B1.out.size)
        have HM2 := Lib.hid (L2.out.below h2 L2.out.lt)
        clear d0 d1 d2 d3 z0 z1 z2 z3 h2
        have HP := Lib.hid (put8 (G := fun _ => 0) HM2.out B2 (Nat.le_refl _))
        go_upto_region 7 with fail
        go_step
        go_step
        go_step
        go_step
        refine wpList_store_row rfl 71 (.tmp 2) (.tmp 36) rfl _ _ rfl rfl _ _ HM2.out (size8 fun _ => 0) rfl (one8 fun _ => 0) ?_
        go_wp2
        exact bodyPost_ret (v := .tuple #[.agg (agH (fun _ => 0)), .int .i64 230]) (results_cell_row_tmp Tryd.results31 _ _ _ _ _ _ rfl HP.out.1 Tryd.underlying71 rfl (by kernel_rfl)) rfl ⟨by rw [HSF.out _ HN.out, HSE.out _ HN.out]; rfl, HP.out.2⟩
      | true =>
        obtain ⟨i, hi, i1, i17, _⟩ := may_parts hmay
        have hi : v = (i : Int) := hi
        have HMAY := Lib.hid hmay
        have HMI := Lib.hid (HMS.out i hi)
        rw [hmay] at HX
        have j1 : (0 : Int) ≤ (i : Int) := by omega
        have j2 : (i : Int) < 17 := by omega
        have HI17 := Lib.hid i17
        subst hi
        clear hmay i1
        cases hmet : metF (l.take k) i with
        | true =>
          have HN : Hid (rightW l = false) := Lib.hid (fits_no_met HT.out rfl hmet)
          have q0 := (L5.out.cell i).trans (agM_at _ i17)
          rw [hmet] at q0
          clear hmet i17
          go_wp2_with fail
          refine (HX.out _).mono ?_
          rintro e w2 ⟨rfl, h2⟩
          have B2 := B1.out.trans (h2.mono B1.out.size)
          have HM2 := Lib.hid (L2.out.below h2 L2.out.lt)
          have y0 := (h2.cell (p := ⟨wr.heap.size, 0, none⟩) K7.out.lt).trans z0
          have y5 := (h2.cell (p := ⟨w.heap.size + 1 + 1, i, none⟩) L5.out.lt).trans q0
          clear d0 d1 d2 d3 z0 z1 z2 z3 q0 h2
          have HP := Lib.hid (put8 (G := fun _ => 0) HM2.out B2 (Nat.le_refl _))
          go_upto_region 7 with fail
          go_step
          go_step
          go_step
          go_step
          refine wpList_store_row rfl 71 (.tmp 2) (.tmp 36) rfl _ _ rfl rfl _ _ HM2.out (size8 fun _ => 0) rfl (one8 fun _ => 0) ?_
          go_wp2
          exact bodyPost_ret (v := .tuple #[.agg (agH (fun _ => 0)), .int .i64 230]) (results_cell_row_tmp Tryd.results31 _ _ _ _ _ _ rfl HP.out.1 Tryd.underlying71 rfl (by kernel_rfl)) rfl ⟨by rw [HSF.out _ HN.out, HSE.out _ HN.out]; rfl, HP.out.2⟩

        | false =>
          have q0 := (L5.out.cell i).trans (agM_at _ i17)
          rw [hmet] at q0
          have HMET := Lib.hid hmet
          clear hmet i17
          by_cases ha : a = -1
          · have qa : (a != -1) = false := by simp [ha]
            have HN2 : Hid (rightK l (k + 1) = true) := Lib.hid (fits_yes HT.out HA.out HMAY.out rfl HMET.out (.inl ha))
            have HE2 : Hid (hereF (l.take (k + 1)) = hereF (l.take k)) := Lib.hid (by rw [HS.out]; exact if_pos ha)
            clear ha
            go_wp2_with fail
            refine (HX.out _).mono ?_
            rintro e w2 ⟨rfl, h2⟩
            have B2 := B1.out.trans (h2.mono B1.out.size)
            have M2 := L2.out.below h2 L2.out.lt
            have M4 := L4.out.below h2 L4.out.lt
            have M5 := L5.out.below h2 L5.out.lt
            have y0 := (h2.cell (p := ⟨wr.heap.size, 0, none⟩) K7.out.lt).trans z0
            have y1 := (h2.cell (p := ⟨wr.heap.size, 1, none⟩) K7.out.lt).trans z1
            have y5 := (h2.cell (p := ⟨w.heap.size + 1 + 1, i, none⟩) L5.out.lt).trans q0
            have f5 := M5.frozen i
            have N2 := Lib.hid (M2.far (p := ⟨w.heap.size + 1 + 1, i, none⟩) (by simp; omega) (.bool true))
            have N4 := Lib.hid (M4.far (p := ⟨w.heap.size + 1 + 1, i, none⟩) (by simp) (.bool true))
            have N5 : Hid (Blk (w2.setCell ⟨w.heap.size + 1 + 1, i, none⟩ (.bool true)) (w.heap.size + 1 + 1) 91 (agM (metF (l.take (k + 1))))) := Lib.hid (by
              rw [HMI.out, ← agM_set _ HI17.out]; exact M5.set_ i _)
            have NB := Lib.hid (B2.setCell (p := ⟨w.heap.size + 1 + 1, i, none⟩) (by simp; omega) (.bool true))
            clear d0 d1 d2 d3 z0 z1 z2 z3 q0 h2 M2 M4 M5 B2
            go_wp2_with fail
            go_roundw
            case rel => exact ⟨k + 1, by omega, by go_num, HN2, N2, by rw [HE2.out]; exact N4, N5, NB.out⟩
            case measure => simp [intOf] <;> omega
          · have qa : (a != -1) = true := by simp [ha]
            have HAN := Lib.hid ha
            clear ha
            cases hf : freeB (hereF (l.take k)) a with
            | false =>
              have HN : Hid (rightW l = false) := Lib.hid (fits_no_at HT.out HA.out HAN.out hf)
              have HF := Lib.hid hf
              clear hf
              go_wp2_with fail
              refine (HX.out _).mono ?_
              rintro e w2 ⟨rfl, h2⟩
              have B2 := B1.out.trans (h2.mono B1.out.size)
              have HM2 := Lib.hid (L2.out.below h2 L2.out.lt)
              have HM4 := Lib.hid (L4.out.below h2 L4.out.lt)
              have y0 := (h2.cell (p := ⟨wr.heap.size, 0, none⟩) K7.out.lt).trans z0
              have y1 := (h2.cell (p := ⟨wr.heap.size, 1, none⟩) K7.out.lt).trans z1
              have y5 := (h2.cell (p := ⟨w.heap.size + 1 + 1, i, none⟩) L5.out.lt).trans q0
              clear d0 d1 d2 d3 z0 z1 z2 z3 q0 h2
              have HP := Lib.hid (put8 (G := fun _ => 0) HM2.out B2 (Nat.le_refl _))
              go_wp2_with fail
              refine (HHN.out _ _ _ _ _ HM4.out HF.out).mono ?_
              rintro e w3 ⟨rfl, rfl⟩
              go_upto_region 7 with fail
              go_step
              go_step
              go_step
              go_step
              refine wpList_store_row rfl 71 (.tmp 2) (.tmp 36) rfl _ _ rfl rfl _ _ HM2.out (size8 fun _ => 0) rfl (one8 fun _ => 0) ?_
              go_wp2
              exact bodyPost_ret (v := .tuple #[.agg (agH (fun _ => 0)), .int .i64 230]) (results_cell_row_tmp Tryd.results31 _ _ _ _ _ _ rfl HP.out.1 Tryd.underlying71 rfl (by kernel_rfl)) rfl ⟨by rw [HSF.out _ HN.out, HSE.out _ HN.out]; rfl, HP.out.2⟩

            | true =>
              have HN2 : Hid (rightK l (k + 1) = true) := Lib.hid (fits_yes HT.out HA.out HMAY.out rfl HMET.out (.inr hf))
              have HE2 : Hid (hereF (l.take (k + 1)) = updH (hereF (l.take k)) a.toNat (i : Int)) := Lib.hid (by rw [HS.out]; exact if_neg HAN.out)
              have HF := Lib.hid hf
              have HA8 : Hid (a.toNat < 8) := Lib.hid (by have := free_parts hf; omega)
              clear hf
              go_wp2_with fail
              refine (HX.out _).mono ?_
              rintro e w2 ⟨rfl, h2⟩
              have B2 := Lib.hid (B1.out.trans (h2.mono B1.out.size))
              have M2 := Lib.hid (L2.out.below h2 L2.out.lt)
              have M4 := Lib.hid (L4.out.below h2 L4.out.lt)
              have M5 := Lib.hid (L5.out.below h2 L5.out.lt)
              have y0 := (h2.cell (p := ⟨wr.heap.size, 0, none⟩) K7.out.lt).trans z0
              have y1 := (h2.cell (p := ⟨wr.heap.size, 1, none⟩) K7.out.lt).trans z1
              have y5 := (h2.cell (p := ⟨w.heap.size + 1 + 1, i, none⟩) L5.out.lt).trans q0
              have HWL : Hid (w.heap.size + 1 < wr.heap.size) := Lib.hid (by have := L4.out.lt; have := L5.out.lt; simp at *; omega)
              clear d0 d1 d2 d3 z0 z1 z2 z3 q0 h2
              go_wp2_with fail
              refine (HHY.out _ _ _ _ _ M4.out HF.out).mono ?_
              rintro e w3 ⟨rfl, hw3⟩
              have N2 := Lib.hid (hw3 ▸ M2.out.far (p := ⟨w.heap.size + 1, a.toNat, none⟩) (by simp) (.int .i64 (i : Int)))
              have N4 : Hid (Blk w3 (w.heap.size + 1) 71 (agH (hereF (l.take (k + 1))))) := Lib.hid (by
                rw [HE2.out, ← agH_set _ HA8.out, hw3]; exact M4.out.set_ a.toNat _)
              have N5 := Lib.hid (hw3 ▸ M5.out.far (p := ⟨w.heap.size + 1, a.toNat, none⟩) (by simp) (.int .i64 (i : Int)))
              have NB := Lib.hid (hw3 ▸ B2.out.setCell (p := ⟨w.heap.size + 1, a.toNat, none⟩) (by simp) (.int .i64 (i : Int)))
              have x0 : w3.cell? ⟨wr.heap.size, 0, none⟩ = some (.int .i64 (i : Int)) := by
                rw [hw3, World.cell?_setCell_other _ _ _ _ (by intro e; injection e with e; have := HWL.out; omega)]; exact y0
              have f5 := N5.out.frozen i
              have x5 := (N5.out.cell i).trans (agM_at _ HI17.out)
              have O2 := Lib.hid (N2.out.far (p := ⟨w.heap.size + 1 + 1, i, none⟩) (by simp; omega) (.bool true))
              have O4 := Lib.hid (N4.out.far (p := ⟨w.heap.size + 1 + 1, i, none⟩) (by simp) (.bool true))
              have O5 : Hid (Blk (w3.setCell ⟨w.heap.size + 1 + 1, i, none⟩ (.bool true)) (w.heap.size + 1 + 1) 91 (agM (metF (l.take (k + 1))))) := Lib.hid (by
                rw [HMI.out, ← agM_set _ HI17.out]; exact N5.out.set_ i _)
              have OB := Lib.hid (NB.out.setCell (p := ⟨w.heap.size + 1 + 1, i, none⟩) (by simp; omega) (.bool true))
              clear hw3 y0 y1 y5
              go_wp2_with fail
              go_roundw
              case rel => exact ⟨k + 1, by omega, by go_num, HN2, O2, O4, O5, OB.out⟩
              case measure => simp [intOf] <;> omega
    · obtain rfl : n = k := by omega
      have HN : Hid (rightW l = true) := Lib.hid (by unfold rightW; rw [HL.out]; exact HA.out)
      have e1 : l.take n = l := by rw [← HL.out]; exact List.take_length
      rw [e1] at K4
      have M2 := K2.out
      have M4 := K4.out
      have HP := Lib.hid (put8 (G := hereF l) M2 hB (Nat.le_refl _))
      go_upto_region 10 with fail
      go_step
      refine wpList_load_row rfl 71 (.tmp 4) rfl _ rfl _ _ (0, 0) _ M4 Tryd.underlying71 rfl (size8 _) ?_
      refine wpList_store_row rfl 71 (.tmp 2) (.tmp 41) rfl _ _ rfl rfl _ _ M2 (size8 _) rfl (one8 _) ?_
      go_wp2
      exact bodyPost_ret (v := .tuple #[.agg (agH (hereF l)), .int .i64 0]) (results_cell_row_tmp Tryd.results31 _ _ _ _ _ _ rfl HP.out.1 Tryd.underlying71 rfl (by kernel_rfl)) rfl ⟨by rw [HSF.out _ HN.out, HSE.out _ HN.out]; rfl, HP.out.2⟩

end Go.Proofs.YtldleijocjohgaaDoor
