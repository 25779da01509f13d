/-
  The landed gang: fits. No statement is proved here.
-/
import Derived.Test.YtkbgpmgnkegipaaDoorGc
import Derived.Laws.EntriesVeiled
namespace Go.Proofs.YtkbgpmgnkegipaaDoor
open Go.RowKit Go.Maps

def fitsB (cs : List (List Int)) : Bool := (matchR cs []).isSome
theorem bool_zero (w : World) : (zeroValue 4).run Tryd.prog w = .ok (.bool false) w := by kernel_rfl
theorem arr_zero (w : World) : (zeroValue 69).run Tryd.prog w = .ok (.agg #[.bool false, .bool false, .bool false, .bool false, .bool false, .bool false, .bool false, .bool false]) w := by kernel_rfl
theorem run_clear_ask {w : World} {ba : Nat} {F : Nat → Bool} (K : Blk w ba 69 (askA F)) (ty : TypeId) (c : Nat) :
    (Builtin.clear_ #[71] ty #[.slice (some ⟨ba, 0, none⟩) 8 c]).run Tryd.prog w = .ok (.tuple #[]) (w.setCells ba 0 [.bool false, .bool false, .bool false, .bool false, .bool false, .bool false, .bool false, .bool false]) ∧
    Blk (w.setCells ba 0 [.bool false, .bool false, .bool false, .bool false, .bool false, .bool false, .bool false, .bool false]) ba 69 (askA noneA) := by
  refine ⟨run_clear_many w 71 4 ty (.bool false) Tryd.underlying71 bool_zero _ ba 0 8 c (by omega) (by kernel_rfl) (fun v hv => ?_) (fun j hj => ?_) (fun j hj => K.frozen _), ?_⟩
  · simp at hv; rw [hv]; rfl
  · rw [Nat.zero_add, K.cell j, askA_at F hj]; rfl
  · exact Blk.cells _ w _ 0 K
theorem two_cells (bm ba : Nat) (vs : List Value) (w : World) : Two bm ba w (w.setCells ba 0 vs) := by
  have h := grown_cells ba vs w 0
  exact ⟨h.os, h.tape, h.output, h.size, fun k hk _ h2 => h.block k hk (fun e => h2 (Option.some.inj e))⟩

theorem fits_start (A : Option Addr) (n c : Nat) (gs : List Gg) (w : World) (hG : GW w A n gs) :
    ∃ W : World, (((((w.alloc (.cells #[.slice A n c] 42)).alloc (.map #[] 0)).alloc (.cells #[.map (some (w.heap.size + 1))] 68)).alloc (.cells #[.bool false, .bool false, .bool false, .bool false, .bool false, .bool false, .bool false, .bool false] 69)).alloc (.cells #[.nilFunc] 61)) = W ∧ W.cell? ⟨w.heap.size + 1 + 1 + 1 + 1, 0, none⟩ = some .nilFunc ∧ W.frozen? ⟨w.heap.size + 1 + 1 + 1 + 1, 0, none⟩ = false ∧
    ∃ V : World, W.setCell ⟨w.heap.size + 1 + 1 + 1 + 1, 0, none⟩ (takeClo w.heap.size (w.heap.size + 1 + 1 + 1) (w.heap.size + 1 + 1) (w.heap.size + 1 + 1 + 1 + 1)) = V ∧ Kp w.heap.size (w.heap.size + 1) (w.heap.size + 1 + 1) (w.heap.size + 1 + 1 + 1) (w.heap.size + 1 + 1 + 1 + 1) A n c gs V ∧ Below w.heap.size w V ∧ MapW V (w.heap.size + 1) 0 (.map []) ∧ Blk V (w.heap.size + 1 + 1 + 1) 69 (askA noneA) ∧
      V.cell? ⟨w.heap.size + 1 + 1 + 1 + 1, 0, none⟩ = some (takeClo w.heap.size (w.heap.size + 1 + 1 + 1) (w.heap.size + 1 + 1) (w.heap.size + 1 + 1 + 1 + 1)) := by
  have k0 := ((((Blk.new w 42 #[.slice A n c]).alloc (.map #[] 0)).alloc (.cells #[.map (some (w.heap.size + 1))] 68)).alloc (.cells #[.bool false, .bool false, .bool false, .bool false, .bool false, .bool false, .bool false, .bool false] 69)).alloc (.cells #[.nilFunc] 61)
  have k2 := ((Blk.new ((w.alloc (.cells #[.slice A n c] 42)).alloc (.map #[] 0)) 68 #[.map (some (w.heap.size + 1))]).alloc (.cells #[.bool false, .bool false, .bool false, .bool false, .bool false, .bool false, .bool false, .bool false] 69)).alloc (.cells #[.nilFunc] 61)
  have k3 := (Blk.new (((w.alloc (.cells #[.slice A n c] 42)).alloc (.map #[] 0)).alloc (.cells #[.map (some (w.heap.size + 1))] 68)) 69 #[.bool false, .bool false, .bool false, .bool false, .bool false, .bool false, .bool false, .bool false]).alloc (.cells #[.nilFunc] 61)
  have k4 := Blk.new ((((w.alloc (.cells #[.slice A n c] 42)).alloc (.map #[] 0)).alloc (.cells #[.map (some (w.heap.size + 1))] 68)).alloc (.cells #[.bool false, .bool false, .bool false, .bool false, .bool false, .bool false, .bool false, .bool false] 69)) 61 #[.nilFunc]
  have km := World.ownsMap_made (H := Unit) (w.alloc (.cells #[.slice A n c] 42)) Tryd.prog 3 (plainElem (H := Unit) Tryd.prog 3)
  simp only [World.size_alloc] at k2 k3 k4 km
  have km2 := ((km.alloc (.cells #[.map (some (w.heap.size + 1))] 68)).alloc (.cells #[.bool false, .bool false, .bool false, .bool false, .bool false, .bool false, .bool false, .bool false] 69)).alloc (.cells #[.nilFunc] 61)
  have hb : Below w.heap.size w (((((w.alloc (.cells #[.slice A n c] 42)).alloc (.map #[] 0)).alloc (.cells #[.map (some (w.heap.size + 1))] 68)).alloc (.cells #[.bool false, .bool false, .bool false, .bool false, .bool false, .bool false, .bool false, .bool false] 69)).alloc (.cells #[.nilFunc] 61)) := (((((Below.refl _ w).alloc (Nat.le_refl _) _).alloc (by simp) _).alloc (by simp; omega) _).alloc (by simp; omega) _).alloc (by simp; omega) _
  have hsz : (((((w.alloc (.cells #[.slice A n c] 42)).alloc (.map #[] 0)).alloc (.cells #[.map (some (w.heap.size + 1))] 68)).alloc (.cells #[.bool false, .bool false, .bool false, .bool false, .bool false, .bool false, .bool false, .bool false] 69)).alloc (.cells #[.nilFunc] 61)).heap.size = w.heap.size + 1 + 1 + 1 + 1 + 1 := by simp
  generalize (((((w.alloc (.cells #[.slice A n c] 42)).alloc (.map #[] 0)).alloc (.cells #[.map (some (w.heap.size + 1))] 68)).alloc (.cells #[.bool false, .bool false, .bool false, .bool false, .bool false, .bool false, .bool false, .bool false] 69)).alloc (.cells #[.nilFunc] 61)) = W at *
  clear km
  have k4' := k4.set_ 0 (takeClo w.heap.size (w.heap.size + 1 + 1 + 1) (w.heap.size + 1 + 1) (w.heap.size + 1 + 1 + 1 + 1))
  have hb2 : Below w.heap.size w (W.setCell ⟨w.heap.size + 1 + 1 + 1 + 1, 0, none⟩ (takeClo w.heap.size (w.heap.size + 1 + 1 + 1) (w.heap.size + 1 + 1) (w.heap.size + 1 + 1 + 1 + 1))) := hb.setCell (p := ⟨w.heap.size + 1 + 1 + 1 + 1, 0, none⟩) (by simp; omega) _
  refine ⟨W, rfl, k4.cell 0, k4.frozen 0, _, rfl, ⟨k0.far (by simp <;> omega) _, k2.far (by simp <;> omega) _, k4', hG.row.below hb2, fun g hg => ⟨(hG.each g hg).1.row.below hb2, Nat.le_trans (hG.each g hg).2 (by omega)⟩, by simp <;> omega, Nat.le_trans hG.small (by omega)⟩, hb2, km2.setCell (by simp <;> omega) _, k3.far (by simp) _, k4'.cell 0⟩

/-- a round's state -/
structure FR (cs : List (List Int)) (bl bm bf ba bk : Nat) (A : Option Addr) (N c : Nat) (gs : List Gg) (w : World) (k : Nat) (D : DataW Unit) (H : Nat → Option Nat) (B : Nat → Bool) (n : Nat) (wr : World) : Prop where
  kp : Kp bl bm bf ba bk A N c gs wr
  map : MapW wr bm n D
  rep : Rep D H
  ask : Blk wr ba 69 (askA B)
  fit : FitH cs H k
  cost : n ≤ k * 8
  bel : Below w.heap.size w wr

set_option maxRecDepth 100000 in
set_option maxHeartbeats 8000000 in
theorem fits_any (A : Option Addr) (n c : Nat) (gs : List Gg) (w : World) (hG : GW w A n gs) (hR : RowsG (gsI gs)) :
    Calls Tryd.prog 17 #[.slice A n c] w (Said (.bool (fitsB (gsI gs))) w) := by
  have hmm := @run_makeMap Tryd.prog
  have hz := arr_zero
  have n9 : n ≤ 100 := hG.small
  have HL := Lib.hid hG.len
  have HO : Hid (Ord5 w.heap.size (w.heap.size + 1) (w.heap.size + 1 + 1) (w.heap.size + 1 + 1 + 1) (w.heap.size + 1 + 1 + 1 + 1)) := Lib.hid ⟨by omega, by omega, by omega, by omega⟩
  have HC := Lib.hid (take_any w.heap.size (w.heap.size + 1) (w.heap.size + 1 + 1) (w.heap.size + 1 + 1 + 1) (w.heap.size + 1 + 1 + 1 + 1) A n c gs HO.out hR 8)
  have HRG := Lib.hid hR
  obtain ⟨W, hW, c0, f0, V, hV, LV, BV, MV, KV, c1⟩ := fits_start A n c gs w hG
  have HI : Hid (FR (gsI gs) w.heap.size (w.heap.size + 1) (w.heap.size + 1 + 1) (w.heap.size + 1 + 1 + 1) (w.heap.size + 1 + 1 + 1 + 1) A n c gs w 0 (.map []) (fun _ => none) noneA 0 V) := Lib.hid ⟨LV, MV, rep_empty, KV, fit_zero _, Nat.le_refl _, BV⟩
  have c2 : V.cell? ⟨w.heap.size, 0, none⟩ = some (.slice A n c) := LV.atL.cell 0
  clear LV BV MV KV hG hR
  unfold takeClo at *
  go_enter Tryd.func17, Tryd.ntmps17
  go_wp2_with fail
  clear c0 f0 c1 c2 hW hV hmm hz
  go_loopw [11] (fun i wr => ∃ (k : Nat) (D : DataW Unit) (H : Nat → Option Nat) (B : Nat → Bool) (m : Nat), k ≤ n ∧ i = .int .i64 (k : Int) ∧ Hid (FR (gsI gs) w.heap.size (w.heap.size + 1) (w.heap.size + 1 + 1) (w.heap.size + 1 + 1 + 1) (w.heap.size + 1 + 1 + 1 + 1) A n c gs w k D H B m wr)) (fun i _ => n - (intOf i).toNat)
  case atStart => exact ⟨0, _, _, _, _, by omega, rfl, HI⟩
  case round =>
    clear HI
    obtain ⟨k, D, H, B, m, hk, rfl, HF⟩ := hrel
    by_cases hlt : k < n
    · obtain ⟨hcl, K1⟩ := And.intro (fun ty c => (run_clear_ask HF.out.ask ty c).1) (run_clear_ask HF.out.ask 0 0).2
      obtain ⟨X, hX⟩ : ∃ X, wr.setCells (w.heap.size + 1 + 1 + 1) 0 [.bool false, .bool false, .bool false, .bool false, .bool false, .bool false, .bool false, .bool false] = X := ⟨_, rfl⟩
      have t1 := two_cells (w.heap.size + 1) (w.heap.size + 1 + 1 + 1) [.bool false, .bool false, .bool false, .bool false, .bool false, .bool false, .bool false, .bool false] wr
      rw [hX] at K1 t1
      have hcl2 : ∀ ty c, (Builtin.clear_ #[71] ty #[.slice (some ⟨w.heap.size + 1 + 1 + 1, 0, none⟩) 8 c]).run Tryd.prog wr = .ok (.tuple #[]) X := fun ty c => by rw [hcl, hX]
      have S1 := HF.out.kp.two HO.out t1
      have hbm : w.heap.size + 1 < wr.heap.size := HF.out.kp.lt
      have M1 : MapW X (w.heap.size + 1) m D := by
        obtain ⟨es, clock, hh, F, hs, hD⟩ := HF.out.map
        refine ⟨es, clock, ?_, F, hs, hD⟩
        rw [← hX]
        exact ((grown_cells (w.heap.size + 1 + 1 + 1) _ wr 0).block _ hbm (by simp)).trans hh
      have B1 := Lib.hid (HF.out.bel.trans (t1.below (b := w.heap.size) (by omega) (by omega) HF.out.bel.size))
      have HCt := Lib.hid (HC.out H noneA k m D X (by unfold leftN; exact cnt_le _ _) (by have := HF.out.cost; omega) (fit_pre HF.out.fit) S1 M1 HF.out.rep K1 hlt)
      have d1 : X.cell? ⟨w.heap.size + 1 + 1 + 1 + 1, 0, none⟩ = some (takeClo w.heap.size (w.heap.size + 1 + 1 + 1) (w.heap.size + 1 + 1) (w.heap.size + 1 + 1 + 1 + 1)) := S1.atK.cell 0
      unfold takeClo at d1
      have HS1 := Lib.hid S1
      have HX := Lib.hid hX
      obtain ⟨row, hrow⟩ := elem_at (l := gsI gs) (k := k) (by rw [gsI_len, HL.out]; exact hlt)
      have HRow := Lib.hid hrow
      have HK := Lib.hid HF.out.fit
      have HCo := Lib.hid HF.out.cost
      clear hcl K1 t1 S1 M1 hX HF hrow
      go_wp2_with fail
      refine HCt.out.mono ?_
      rintro e w4 ⟨b, D4, H4, A4, n4, rfl, t4, M4, R4, K4, hn4, hok, hno⟩
      have S4 := HS1.out.two HO.out t4
      have B4 := B1.out.trans (t4.below (b := w.heap.size) (by omega) (by omega) B1.out.size)
      cases b with
      | true =>
        have HFn : Hid (FR (gsI gs) w.heap.size (w.heap.size + 1) (w.heap.size + 1 + 1) (w.heap.size + 1 + 1 + 1) (w.heap.size + 1 + 1 + 1 + 1) A n c gs w (k + 1) D4 H4 A4 n4 w4) := Lib.hid ⟨S4, M4, R4, K4, fit_step HK.out (hok rfl), by rw [if_pos rfl] at hn4; have := HCo.out; omega, B4⟩
        clear t4 M4 R4 K4 hn4 hok hno S4 B4 d1
        go_wp2
        go_roundw
        case rel => exact ⟨k + 1, _, _, _, _, by omega, by go_num, HFn⟩
        case measure => simp [intOf] <;> omega
      | false =>
        obtain ⟨_, row', hr', hno'⟩ := hno rfl
        have HV : Hid (fitsB (gsI gs) = false) := Lib.hid (by unfold fitsB; rw [fit_no HRG.out HK.out hr' hno']; rfl)
        have HB4 := Lib.hid B4
        clear t4 M4 R4 K4 hn4 hok hno S4 B4 d1 hr' hno'
        go_wp2
        go_ret
        exact ⟨retB HV.out.symm, HB4.out⟩
    · obtain rfl : k = n := by omega
      have HV : Hid (fitsB (gsI gs) = true) := Lib.hid (fit_end (H := H) (by have := HF.out.fit; rwa [gsI_len, HL.out]))
      go_wp2
      go_ret
      exact ⟨retB HV.out.symm, HF.out.bel⟩

end Go.Proofs.YtkbgpmgnkegipaaDoor
