/-
  The landed place: the library's Equal at placements; holding, Home. No statement is proved here.
-/
import Derived.Test.YtldleijocjohgaaDoorGi
namespace Go.Proofs.YtldleijocjohgaaDoor
open Go.RowKit

def sameB (l m : List (Int × Int)) : Bool := decide (l = m)
theorem take_same {l m : List (Int × Int)} {k : Nat} {s : Int × Int} (h1 : l[k]? = some s) (h2 : m[k]? = some s) (h : l.take k = m.take k) : l.take (k + 1) = m.take (k + 1) := by
  rw [List.take_add_one, List.take_add_one, h1, h2, h]
theorem same_no {l m : List (Int × Int)} {k : Nat} {s t : Int × Int} (h1 : l[k]? = some s) (h2 : m[k]? = some t) (h : s ≠ t) : sameB l m = false := by
  unfold sameB
  rw [decide_eq_false]
  rintro rfl
  rw [h1] at h2
  exact h (Option.some.inj h2)
theorem same_long {l m : List (Int × Int)} (h : l.length ≠ m.length) : sameB l m = false := by
  unfold sameB
  rw [decide_eq_false]
  rintro rfl
  exact h rfl

set_option maxRecDepth 100000 in
set_option maxHeartbeats 4000000 in
theorem equal_any (A A' : Option Addr) (n c n' c' : Nat) (l m : List (Int × Int)) (w : World) (hR : Reads w w.heap.size 2 A n (svs l)) (hR' : Reads w w.heap.size 2 A' n' (svs m)) (hn : n ≤ maxLen) :
    Calls Tryd.prog 39 #[.slice A n c, .slice A' n' c'] w (Said (.bool (sameB l m)) w) := by
  unfold maxLen at hn
  have hl := reads_len hR
  have hl' := reads_len hR'
  by_cases hnn : n = n'
  · have g : ((n : Int) == (n' : Int)) = true := by simp; omega
    have HL := Lib.hid hl
    have HL' : Hid (m.length = n) := Lib.hid (by omega)
    have HR := Lib.hid hR
    have HR' := Lib.hid hR'
    have HN : Hid (n = n') := Lib.hid hnn
    clear hl hl' hR hR' hnn
    go_enter Tryd.func39, Tryd.ntmps39
    go_wp2_with fail
    go_loopw [13] (fun i wr => ∃ k : Nat, k ≤ n ∧ i = .int .i64 (k : Int) ∧ Hid (l.take k = m.take k) ∧ Below w.heap.size w wr) (fun i _ => n - (intOf i).toNat)
    case atStart => exact ⟨0, by omega, rfl, Lib.hid (by rw [List.take_zero, List.take_zero]), Below.refl _ _⟩
    case round =>
      obtain ⟨k, hk, rfl, HA, hB⟩ := hrel
      by_cases hlt : k < n
      · obtain ⟨⟨x, y⟩, hm⟩ := elem_at (l := l) (k := k) (by rw [HL.out]; exact hlt)
        obtain ⟨⟨p, q⟩, hm'⟩ := elem_at (l := m) (k := k) (by rw [HL'.out]; exact hlt)
        obtain ⟨ad, rfl, hb1, c0, c1⟩ := seat_at (HR.out.below hB) hm
        obtain ⟨ad', rfl, hb2, d0, d1⟩ := seat_at (HR'.out.below hB) hm'
        have i1 : (0 : Int) ≤ (k : Int) := by omega
        have i2 : (k : Int) < (n : Int) := by omega
        have i3 : (k : Int) < (n' : Int) := by have := HN.out; omega
        have HM := Lib.hid hm
        have HM' := Lib.hid hm'
        have hsz := hB.size
        clear hm hm'
        by_cases hs : (x, y) = (p, q)
        · obtain ⟨rfl, rfl⟩ := Prod.mk.inj hs
          have HS := Lib.hid (take_same HM.out HM'.out HA.out)
          clear hs
          go_wp2_with fail
          go_quiet (fail)
          go_wp2
          go_roundw
          case rel => exact ⟨k + 1, by omega, by go_num, HS, below_drewN hB _⟩
          case measure => simp [intOf]; omega
        · have HV := Lib.hid (same_no HM.out HM'.out hs)
          by_cases hx : x = p
          · subst hx
            have g2 : (y == q) = false := by
              have : y ≠ q := fun h => hs (by rw [h])
              simpa using this
            clear hs
            go_wp2_with fail
            go_quiet (fail)
            go_wp2
            go_ret
            exact ⟨retB HV.out.symm, below_drewN hB _⟩
          · have g2 : (x == p) = false := by simpa using hx
            clear hs hx
            go_wp2_with fail
            go_quiet (fail)
            go_wp2
            go_ret
            exact ⟨retB HV.out.symm, below_drewN hB _⟩
      · obtain rfl : n = k := by omega
        have HV : Hid (sameB l m = true) := Lib.hid (by
          have := HA.out
          rw [show l.take n = l by rw [← HL.out]; exact List.take_length, show m.take n = m by rw [← HL'.out]; exact List.take_length] at this
          unfold sameB
          exact decide_eq_true this)
        go_wp2
        go_ret
        exact ⟨retB HV.out.symm, hB⟩
  · have g : ((n : Int) == (n' : Int)) = false := by simp; omega
    have HV := Lib.hid (same_long (l := l) (m := m) (by omega))
    clear hl hl' hR hR' hnn
    go_enter Tryd.func39, Tryd.ntmps39
    go_wp2
    go_ret
    exact ⟨retB HV.out.symm, Below.refl _ _⟩


/-! ### holding -/
def holdG : Option (Nat → Int) → Nat → Int
  | some F => F
  | none => fun _ => 0
def holdF (ps : List (Int × Int)) : Nat → Int := holdG (heldO ps)
def holdB (ps : List (Int × Int)) : Bool := (heldO ps).isSome

set_option maxRecDepth 100000 in
set_option maxHeartbeats 4000000 in
theorem holding_any (A : Option Addr) (n c : Nat) (ps : List (Int × Int)) (w : World) (hR : Reads w w.heap.size 2 A n (svs ps)) (hn : n ≤ 1000) :
    Calls Tryd.prog 36 #[.slice A n c] w (Said (.tuple #[.agg (agH (holdF ps)), .bool (holdB ps)]) w) := by
  have HL := Lib.hid (reads_len hR)
  have HR := Lib.hid hR
  obtain ⟨K2, K4, GB⟩ := blks2 w 71 71 (agH fun _ => 0) (agH fun _ => 0)
  have HHN := Lib.hid (fun F B v c u K h => hold_no F B v c u K h)
  have HHY := Lib.hid (fun F B v c u K h => hold_yes F B v c u K h)
  have HSF := Lib.hid (fun (r : Option (Nat → Int)) (h : heldO ps = r) => show holdF ps = holdG r from by unfold holdF; rw [h])
  have HSE := Lib.hid (fun (r : Option (Nat → Int)) (h : heldO ps = r) => show holdB ps = r.isSome from by unfold holdB; rw [h])
  generalize holdF ps = FF at *
  generalize holdB ps = EE at *
  clear hR
  go_enter Tryd.func36, Tryd.ntmps36
  go_wp2_with fail
  go_loopw [9] (fun i wr => ∃ (k : Nat) (F : Nat → Int), k ≤ n ∧ i = .int .i64 (k : Int) ∧ Hid (heldO (ps.take k) = some F) ∧ Hid (Blk wr w.heap.size 71 (agH fun _ => 0)) ∧ Hid (Blk wr (w.heap.size + 1) 71 (agH F)) ∧
    Below w.heap.size w wr) (fun i _ => n - (intOf i).toNat)
  case atStart => exact ⟨0, _, by omega, rfl, Lib.hid rfl, Lib.hid K2, Lib.hid K4, GB⟩
  case round =>
    clear K2 K4 GB
    obtain ⟨k, F, hk, rfl, HA, K2, K4, hB⟩ := hrel
    by_cases hlt : k < n
    · obtain ⟨⟨x, y⟩, hm⟩ := elem_at (l := ps) (k := k) (by rw [HL.out]; exact hlt)
      obtain ⟨ad, rfl, hb, d0, d1⟩ := seat_at (HR.out.below hB) hm
      have HST := Lib.hid (held_step hm)
      rw [HA.out] at HST
      have HNO := Lib.hid (fun (h : heldO (ps.take (k + 1)) = none) => held_none h)
      have K7 := Lib.hid (Blk.new wr 52 #[.int .i64 x, .int .i64 y])
      have L2 := Lib.hid (K2.out.alloc (.cells #[.int .i64 x, .int .i64 y] 52))
      have L4 := Lib.hid (K4.out.alloc (.cells #[.int .i64 x, .int .i64 y] 52))
      have B1 := Lib.hid (hB.alloc hB.size (.cells #[.int .i64 x, .int .i64 y] 52))
      have z0 := K7.out.cell 0
      have z1 := K7.out.cell 1
      clear hm hb K2 K4 hB
      cases hf : freeB F y with
      | false =>
        have HF := Lib.hid hf
        have HN : Hid (heldO ps = none) := Lib.hid (HNO.out (by rw [HST.out]; show (if freeB F y = true then _ else none) = none; rw [hf]; rfl))
        clear hf
        go_wp2_with fail
        refine (HHN.out _ _ _ _ _ L4.out HF.out).mono ?_
        rintro e w3 ⟨rfl, rfl⟩
        have HP := Lib.hid (put8 (G := fun _ => 0) L2.out B1.out (Nat.le_refl _))
        clear d0 d1 z0 z1
        go_upto_region 6 with fail
        go_step
        go_step
        go_step
        go_step
        refine wpList_store_row rfl 71 (.tmp 2) (.tmp 19) rfl _ _ rfl rfl _ _ L2.out (size8 fun _ => 0) rfl (one8 fun _ => 0) ?_
        go_wp2
        exact bodyPost_ret (v := .tuple #[.agg (agH (fun _ => 0)), .bool false]) (results_cell_row_tmp Tryd.results36 _ _ _ _ _ _ rfl HP.out.1 Tryd.underlying71 rfl (by kernel_rfl)) rfl ⟨by rw [HSF.out _ HN.out, HSE.out _ HN.out]; rfl, HP.out.2⟩
      | true =>
        have HF := Lib.hid hf
        have HY8 : Hid (y.toNat < 8) := Lib.hid (by have := free_parts hf; omega)
        have HN : Hid (heldO (ps.take (k + 1)) = some (updH F y.toNat x)) := Lib.hid (by rw [HST.out]; show (if freeB F y = true then _ else none) = _; rw [hf]; rfl)
        clear hf
        go_wp2_with fail
        refine (HHY.out _ _ _ _ _ L4.out HF.out).mono ?_
        rintro e w3 ⟨rfl, hw3⟩
        have N2 := Lib.hid (hw3 ▸ L2.out.far (p := ⟨w.heap.size + 1, y.toNat, none⟩) (by dsimp only; omega) (.int .i64 x))
        have N4 : Hid (Blk w3 (w.heap.size + 1) 71 (agH (updH F y.toNat x))) := Lib.hid (by
          rw [← agH_set _ HY8.out, hw3]; exact L4.out.set_ y.toNat _)
        have NB := Lib.hid (hw3 ▸ B1.out.setCell (p := ⟨w.heap.size + 1, y.toNat, none⟩) (by dsimp only; omega) (.int .i64 x))
        clear hw3 d0 d1 z0 z1
        go_wp2_with fail
        go_roundw
        case rel => exact ⟨k + 1, _, by omega, by go_num, HN, N2, N4, NB.out⟩
        case measure => simp [intOf] <;> omega
    · obtain rfl : n = k := by omega
      have HN : Hid (heldO ps = some F) := Lib.hid (by have := HA.out; rwa [show ps.take n = ps by rw [← HL.out]; exact List.take_length] at this)
      have M2 := K2.out
      have M4 := K4.out
      have HP := Lib.hid (put8 (G := F) M2 hB (Nat.le_refl _))
      go_upto_region 8 with fail
      go_step
      refine wpList_load_row rfl 71 (.tmp 4) rfl _ rfl _ _ (0, 0) _ M4 Tryd.underlying71 rfl (size8 _) ?_
      refine wpList_store_row rfl 71 (.tmp 2) (.tmp 21) rfl _ _ rfl rfl _ _ M2 (size8 _) rfl (one8 _) ?_
      go_wp2
      exact bodyPost_ret (v := .tuple #[.agg (agH F), .bool true]) (results_cell_row_tmp Tryd.results36 _ _ _ _ _ _ rfl HP.out.1 Tryd.underlying71 rfl (by kernel_rfl)) rfl ⟨by rw [HSF.out _ HN.out, HSE.out _ HN.out]; rfl, HP.out.2⟩

end Go.Proofs.YtldleijocjohgaaDoor
