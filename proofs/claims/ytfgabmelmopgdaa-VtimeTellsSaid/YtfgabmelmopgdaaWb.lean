/-
  The contracts of the landed wide's quarters and comparison. No statement is proved here.
-/
import Derived.Test.YtfgabmelmopgdaaWa
import Derived.Deep.RegionHeld3
import Derived.Deep.DeepCutAuto
import Derived.IntWalk
namespace Go.Proofs.Ytfgabmelmopgdaa
open Go.RowKit

/-- a number's quarters, the highest first -/
def qs (f : Nat → Nat) : Array Value := #[.int .u32 (f 0 : Int), .int .u32 (f 1 : Int), .int .u32 (f 2 : Int), .int .u32 (f 3 : Int)]
set_option maxRecDepth 100000 in
theorem qs_at (f : Nat → Nat) {k : Nat} (h : k < 4) : (qs f)[k]? = some (.int .u32 (f k : Int)) := by
  have : k = 0 ∨ k = 1 ∨ k = 2 ∨ k = 3 := by omega
  rcases this with rfl | rfl | rfl | rfl <;> rfl
/-- the quarters of hi, lo -/
def qf (hi lo : Nat) : Nat → Nat
  | 0 => hi / 4294967296
  | 1 => hi % 4294967296
  | 2 => lo / 4294967296
  | _ => lo % 4294967296
set_option maxRecDepth 100000 in
theorem qf_lt {hi lo : Nat} (hh : hi < 18446744073709551616) (hl : lo < 18446744073709551616) (k : Nat) : qf hi lo k < 4294967296 := by
  unfold qf
  split <;> omega

set_option maxRecDepth 100000 in
theorem wrap32 (n : Int) : IntKind.u32.wrap n = n % 4294967296 := by simp [IntKind.wrap, IntKind.bits, IntKind.signed]

set_option maxRecDepth 100000 in
theorem split_any (hi lo : Nat) (hh : hi < 18446744073709551616) (hl : lo < 18446744073709551616) (w : World) :
    Calls Try.prog 98 #[.agg #[.int .u64 (hi : Int), .int .u64 (lo : Int)]] w (Ans (.agg (qs (qf hi lo))) w) := by
  have e0 : IntKind.u32.wrap ((hi : Int) / 4294967296) = ((hi / 4294967296 : Nat) : Int) := by rw [wrap32]; omega
  have e1 : IntKind.u32.wrap (hi : Int) = ((hi % 4294967296 : Nat) : Int) := by rw [wrap32]; omega
  have e2 : IntKind.u32.wrap ((lo : Int) / 4294967296) = ((lo / 4294967296 : Nat) : Int) := by rw [wrap32]; omega
  have e3 : IntKind.u32.wrap (lo : Int) = ((lo % 4294967296 : Nat) : Int) := by rw [wrap32]; omega
  unfold qs qf
  go_enter Try.func98, Try.ntmps98
  go_wp2
  exact bodyPost_ret (v := .agg (qs (qf hi lo))) (by simp [results, Try.results98, go_sem, qs, qf]) rfl ⟨rfl, (blks2 w _ _ _ _).2.2⟩

set_option maxRecDepth 100000 in
theorem nan_any (x : Nat) (w : World) : Calls Try.prog 105 #[.int .u32 (x : Int)] w fun e w' => e = .returned (.bool false) ∧ w = w' := by
  go_enter Try.func105, Try.ntmps105
  go_wp2
  go_ret
  simp

set_option maxRecDepth 100000 in
theorem cmp_less (x y : Nat) (h : x < y) (w : World) : Calls Try.prog 99 #[.int .u32 (x : Int), .int .u32 (y : Int)] w fun e w' => e = .returned (.int .i64 (-1)) ∧ w' = w := by
  go_enter Try.func99, Try.ntmps99
  go_wp2_with (first | (go_at_call 105; refine (nan_any _ _).mono ?_; rintro e w' ⟨rfl, rfl⟩))
  go_ret
  simp
set_option maxRecDepth 100000 in
theorem cmp_more (x y : Nat) (h : y < x) (w : World) : Calls Try.prog 99 #[.int .u32 (x : Int), .int .u32 (y : Int)] w fun e w' => e = .returned (.int .i64 1) ∧ w' = w := by
  have hn : ¬ x < y := by omega
  go_enter Try.func99, Try.ntmps99
  go_wp2_with (first | (go_at_call 105; refine (nan_any _ _).mono ?_; rintro e w' ⟨rfl, rfl⟩))
  go_ret
  simp

end Go.Proofs.Ytfgabmelmopgdaa
