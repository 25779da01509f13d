/-
  The contracts of the document's words on sets (Cpu, Right, Has). No statement is proved here.
-/
import Derived.Test.YtbhcpkmofnfjgaaBl
import Derived.Lib.Hide
namespace Go.Proofs.Ytbhcpkmofnfjgaa
open Go.RowKit

def cpuB (c : Int) : Bool := decide (0 ≤ c) && decide (c < 8)
def hasB (s c : Int) : Bool := cpuB c && decide (s / 2 ^ c.toNat % 2 = 1)
theorem cpuB_yes {c : Int} (h0 : 0 ≤ c) (h1 : c < 8) : cpuB c = true := by unfold cpuB; simp [h0, h1]
theorem cpuB_no {c : Int} (h : c < 0 ∨ 8 ≤ c) : cpuB c = false := by
  unfold cpuB
  rcases h with h | h
  · have : ¬ 0 ≤ c := by omega
    simp [this]
  · have : ¬ c < 8 := by omega
    simp [this]
theorem cpuB_true {c : Int} (h : cpuB c = true) : 0 ≤ c ∧ c < 8 := by unfold cpuB at h; simpa using h

theorem retB {a b : Bool} (h : a = b) : Ending.returned (.bool a) = .returned (.bool b) := by rw [h]




end Go.Proofs.Ytbhcpkmofnfjgaa
