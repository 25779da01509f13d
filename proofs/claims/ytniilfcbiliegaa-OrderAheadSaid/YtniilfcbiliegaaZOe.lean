/-
  The document's SameOne, of two entities that are one. No statement is proved here.
-/
import Derived.Test.YtniilfcbiliegaaZOd
namespace Go.Proofs.Ytniilfcbiliegaa
open Go.RowKit

set_option maxRecDepth 100000 in
set_option maxHeartbeats 4000000 in
theorem esame_one (A : Option Addr) (n c : Nat) (A' : Option Addr) (c' h l x o : Nat) (f : Bool) (is : List Int) (w : World) (hR : IR w A n is) (hR' : IR w A' n is) :
    Calls Try.prog 22 #[.agg (agE A n c h l x o f), .agg (agE A' n c' h l x o f)] w (Said (.bool true) w) := by
  obtain ⟨K0, K1, GB⟩ := blks2 w 47 47 (agE A n c h l x o f) (agE A' n c' h l x o f)
  have HR := Lib.hid hR
  have HR' := Lib.hid hR'
  have HN : Hid (n ≤ 1000) := Lib.hid hR.small
  have HL := Lib.hid hR.len
  have HB := Lib.hid GB
  unfold agE at *
  have HK := Lib.hid K0
  have HK' := Lib.hid K1
  have z0 := K0.cell 0
  have z1 := K0.cell 1
  have z2 := K0.cell 2
  have z3 := K0.cell 3
  have z4 := K0.cell 4
  have z5 := K0.cell 5
  have y0 := K1.cell 0
  have y1 := K1.cell 1
  have y2 := K1.cell 2
  have y3 := K1.cell 3
  have y4 := K1.cell 4
  have y5 := K1.cell 5
  clear hR hR' K0 K1 GB
  go_enter Try.func22, Try.ntmps22
  go_wp2_with fail
  clear z0 z1 z2 z3 z4 z5 y0 y1 y2 y3 y4 y5
  generalize hV : (w.alloc _).alloc _ = V at HB HK HK' ⊢
  clear hV
  go_loopw [37] (fun iv wr => ∃ k : Nat, k ≤ n ∧ iv = .int .i64 (k : Int) ∧ Below V.heap.size V wr) (fun iv _ => n - (intOf iv).toNat)
  case atStart => exact ⟨0, by omega, rfl, Below.refl _ _⟩
  case round =>
    obtain ⟨k, hk, rfl, hB⟩ := hrel
    by_cases hlt : k < n
    · obtain ⟨i, hx⟩ := elem_at (l := is) (k := k) (by rw [HL.out]; exact hlt)
      have hw := HB.out.trans (hB.mono HB.out.size)
      obtain ⟨ad, rfl, _, d0⟩ := (HR.out.below hw).at_ hx
      obtain ⟨ad', rfl, _, d1⟩ := (HR'.out.below hw).at_ hx
      have K0 := HK.out.below hB HK.out.lt
      have K1 := HK'.out.below hB HK'.out.lt
      have z0 := K0.cell 0
      have y0 := K1.cell 0
      have HW := Lib.hid hB
      have i1 : (0 : Int) ≤ (k : Int) := by omega
      have i2 : (k : Int) < (n : Int) := by omega
      have hn := HN.out
      clear hx K0 K1 hw
      go_wp2_with fail
      go_quiet (fail)
      go_wp2_with fail
      go_roundw
      case rel => exact ⟨k + 1, by omega, by go_num, below_drewN HW.out _⟩
      case measure => simp [intOf]; omega
    · obtain rfl : k = n := by omega
      go_wp2
      go_ret
      exact ⟨rfl, HB.out.trans (hB.mono HB.out.size)⟩

end Go.Proofs.Ytniilfcbiliegaa
