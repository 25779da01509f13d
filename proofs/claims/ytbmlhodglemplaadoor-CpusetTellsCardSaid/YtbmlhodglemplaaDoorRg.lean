/-
  The contract of the document's own Parse. No statement is proved here.
-/
import Derived.Test.YtbmlhodglemplaaDoorRf
namespace Go.Proofs.YtbmlhodglemplaaDoor
open Go.RowKit

/-- the first set of so many, from s on, whose text it is -/
def parF (T : ByteArray) : Nat → Nat → Option Nat
  | 0, _ => none
  | f + 1, s => if (textB (s : Int)).toList = T.toList then some s else parF T f (s + 1)
def parV (T : ByteArray) : Option Nat := parF T 256 0
/-- as two values -/
def twoV : Option Nat → Int × Bool
  | some s => ((s : Int), true)
  | none => (0, false)
theorem par_hit {T : ByteArray} {f s : Nat} (h : (textB (s : Int)).toList = T.toList) : parF T (f + 1) s = some s := if_pos h
theorem par_miss {T : ByteArray} {f s : Nat} (h : ¬ (textB (s : Int)).toList = T.toList) : parF T (f + 1) s = parF T f (s + 1) := if_neg h

set_option maxRecDepth 100000 in
set_option maxHeartbeats 1000000 in
theorem rparse_any (T : ByteArray) (w : World) : Calls Tryd.prog 33 #[.string T] w fun e w' => e = .returned (.tuple #[.int .u32 (twoV (parV T)).1, .bool (twoV (parV T)).2]) ∧ w = w' := by
  have HT := Lib.hid (fun (k : Nat) u => rtext_any (k : Int) u (by omega))
  go_enter Tryd.func33, Tryd.ntmps33
  go_wp2_with fail
  go_loop [5] (fun v => ∃ k f : Nat, k + f = 256 ∧ v = .int .u32 k ∧ parV T = parF T f k) (fun v => 256 - (intOf v).toNat)
  case atStart => exact ⟨0, 256, rfl, rfl, rfl⟩
  case round =>
    obtain ⟨k, f, hk, rfl, hN⟩ := hrel
    by_cases hlt : k < 256
    · obtain ⟨f, rfl⟩ : ∃ g, f = g + 1 := ⟨f - 1, by omega⟩
      have HX := Lib.hid (fun u => HT.out k u)
      have HK := Lib.hid hk
      have hlt' : (k : Int) < 256 := by omega
      have HL := Lib.hid hlt
      clear hk hlt
      by_cases he : (textB (k : Int)).toList = T.toList
      · have HV := Lib.hid (hN.trans (par_hit (f := f) he))
        clear hN
        generalize textB (k : Int) = X at HX he
        clear HT
        go_wp2_with fail
        refine (HX.out _).mono ?_
        rintro e w' ⟨rfl, rfl⟩
        go_wp2
        go_ret2
        rw [HV.out]
        exact ⟨rfl, rfl⟩
      · have HV := Lib.hid (hN.trans (par_miss (f := f) he))
        clear hN
        generalize textB (k : Int) = X at HX he
        clear HT
        go_wp2_with fail
        refine (HX.out _).mono ?_
        rintro e w' ⟨rfl, rfl⟩
        have he2 : (X.toList == T.toList) = false := by simpa using he
        have h9 : (k : Int) + 1 ≤ 4294967295 := by omega
        clear hlt' he
        go_wp2
        go_round
        case rel => exact ⟨k + 1, f, by have := HK.out; omega, by go_num, HV.out⟩
        case measure => have := HL.out; simp [intOf]; omega
    · obtain rfl : k = 256 := by omega
      obtain rfl : f = 0 := by omega
      clear hk
      have HV : Hid (parV T = none) := Lib.hid hN
      clear hN
      go_wp2
      go_ret2
      rw [HV.out]
      exact ⟨rfl, rfl⟩

end Go.Proofs.YtbmlhodglemplaaDoor
