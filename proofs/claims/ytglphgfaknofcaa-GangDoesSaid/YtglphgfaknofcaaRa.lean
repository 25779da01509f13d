/-
  The contracts of the document's words on sets (Cpu, Right, Has). No statement is proved here.
-/
import Derived.Test.YtglphgfaknofcaaBl
import Derived.Lib.Hide
namespace Go.Proofs.Ytglphgfaknofcaa
open Go.RowKit

def cpuB (c : Int) : Bool := decide (0 ≤ c) && decide (c < 8)
def hasB (s c : Int) : Bool := cpuB c && decide (s / 2 ^ c.toNat % 2 = 1)
theorem cpuB_yes {c : Int} (h0 : 0 ≤ c) (h1 : c < 8) : cpuB c = true := by unfold cpuB; simp [h0, h1]
theorem cpuB_no {c : Int} (h : c < 0 ∨ 8 ≤ c) : cpuB c = false := by
  unfold cpuB
  rcases h with h | h
  · have : ¬ 0 ≤ c := by omega
    simp [this]
  · have : ¬ c < 8 := by omega
    simp [this]
theorem cpuB_true {c : Int} (h : cpuB c = true) : 0 ≤ c ∧ c < 8 := by unfold cpuB at h; simpa using h

theorem retB {a b : Bool} (h : a = b) : Ending.returned (.bool a) = .returned (.bool b) := by rw [h]

set_option maxRecDepth 100000 in
set_option maxHeartbeats 400000 in
theorem rcpu_any (c : Int) (w : World) : Calls Try.prog 52 #[.int .i64 c] w fun e w' => e = .returned (.bool (cpuB c)) ∧ w = w' := by
  by_cases h0 : 0 ≤ c
  · by_cases h1 : c < 8
    · have H := Lib.hid (cpuB_yes h0 h1)
      go_enter Try.func52, Try.ntmps52
      go_wp2
      go_ret
      exact ⟨retB H.out.symm, rfl⟩
    · have H := Lib.hid (cpuB_no (c := c) (.inr (by omega)))
      go_enter Try.func52, Try.ntmps52
      go_wp2
      go_ret
      exact ⟨retB H.out.symm, rfl⟩
  · have H := Lib.hid (cpuB_no (c := c) (.inl (by omega)))
    go_enter Try.func52, Try.ntmps52
    go_wp2
    go_ret
    exact ⟨retB H.out.symm, rfl⟩



end Go.Proofs.Ytglphgfaknofcaa
