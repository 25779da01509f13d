/-
  The contracts of the document's words on sets (Cpu, Right, Has). No statement is proved here.
-/
import Derived.Test.YtkbgpmgnkegipaaDoorBl
import Derived.Lib.Hide
namespace Go.Proofs.YtkbgpmgnkegipaaDoor
open Go.RowKit

def cpuB (c : Int) : Bool := decide (0 ≤ c) && decide (c < 8)
def hasB (s c : Int) : Bool := cpuB c && decide (s / 2 ^ c.toNat % 2 = 1)
theorem cpuB_yes {c : Int} (h0 : 0 ≤ c) (h1 : c < 8) : cpuB c = true := by unfold cpuB; simp [h0, h1]
theorem cpuB_no {c : Int} (h : c < 0 ∨ 8 ≤ c) : cpuB c = false := by
  unfold cpuB
  rcases h with h | h
  · have : ¬ 0 ≤ c := by omega
    simp [this]
  · have : ¬ c < 8 := by omega
    simp [this]
theorem cpuB_true {c : Int} (h : cpuB c = true) : 0 ≤ c ∧ c < 8 := by unfold cpuB at h; simpa using h

theorem retB {a b : Bool} (h : a = b) : Ending.returned (.bool a) = .returned (.bool b) := by rw [h]

set_option maxRecDepth 100000 in
set_option maxHeartbeats 400000 in
theorem rcpu_any (c : Int) (w : World) : Calls Tryd.prog 58 #[.int .i64 c] w fun e w' => e = .returned (.bool (cpuB c)) ∧ w = w' := by
  by_cases h0 : 0 ≤ c
  · by_cases h1 : c < 8
    · have H := Lib.hid (cpuB_yes h0 h1)
      go_enter Tryd.func58, Tryd.ntmps58
      go_wp2
      go_ret
      exact ⟨retB H.out.symm, rfl⟩
    · have H := Lib.hid (cpuB_no (c := c) (.inr (by omega)))
      go_enter Tryd.func58, Tryd.ntmps58
      go_wp2
      go_ret
      exact ⟨retB H.out.symm, rfl⟩
  · have H := Lib.hid (cpuB_no (c := c) (.inl (by omega)))
    go_enter Tryd.func58, Tryd.ntmps58
    go_wp2
    go_ret
    exact ⟨retB H.out.symm, rfl⟩

set_option maxRecDepth 100000 in
set_option maxHeartbeats 400000 in
theorem rright_any (s : Int) (w : World) : Calls Tryd.prog 39 #[.int .u32 s] w fun e w' => e = .returned (.bool (decide (s < 256))) ∧ w = w' := by
  by_cases h1 : s < 256
  · have H := Lib.hid (show decide (s < 256) = true by simp [h1])
    go_enter Tryd.func39, Tryd.ntmps39
    go_wp2
    go_ret
    exact ⟨retB H.out.symm, rfl⟩
  · have H := Lib.hid (show decide (s < 256) = false by simp [h1])
    go_enter Tryd.func39, Tryd.ntmps39
    go_wp2
    go_ret
    exact ⟨retB H.out.symm, rfl⟩

set_option maxRecDepth 100000 in
set_option maxHeartbeats 1000000 in
theorem rhas_any (s c : Int) (w : World) (h0 : 0 ≤ s) : Calls Tryd.prog 40 #[.int .u32 s, .int .i64 c] w fun e w' => e = .returned (.bool (hasB s c)) ∧ w = w' := by
  have HC := Lib.hid (fun u => rcpu_any c u)
  by_cases hc : cpuB c = true
  · rw [hc] at HC
    obtain ⟨c0, c1⟩ := cpuB_true hc
    have HV : hasB s c = decide (s / 2 ^ c.toNat % 2 = 1) := by unfold hasB; rw [hc]; rfl
    rw [HV]
    clear HV hc
    have q0 : 0 ≤ s / 2 ^ c.toNat := Int.ediv_nonneg h0 (Int.pow_nonneg (by decide))
    have hl : c ≤ 32 := by omega
    by_cases hb : s / 2 ^ c.toNat % 2 = 1
    · have H := Lib.hid (show decide (s / 2 ^ c.toNat % 2 = 1) = true by simp [hb])
      go_enter Tryd.func40, Tryd.ntmps40
      go_wp2_with fail
      refine (HC.out _).mono ?_
      rintro e w' ⟨rfl, rfl⟩
      go_wp2
      go_ret
      exact ⟨retB H.out.symm, rfl⟩
    · have H := Lib.hid (show decide (s / 2 ^ c.toNat % 2 = 1) = false by simp [hb])
      have hb2 : (s / 2 ^ c.toNat % 2 == 1) = false := by simpa using hb
      clear hb
      go_enter Tryd.func40, Tryd.ntmps40
      go_wp2_with fail
      refine (HC.out _).mono ?_
      rintro e w' ⟨rfl, rfl⟩
      go_wp2
      go_ret
      exact ⟨retB H.out.symm, rfl⟩
  · have hc' : cpuB c = false := by simpa using hc
    rw [hc'] at HC
    have HV : hasB s c = false := by unfold hasB; rw [hc']; rfl
    rw [HV]
    clear HV hc hc'
    go_enter Tryd.func40, Tryd.ntmps40
    go_wp2_with fail
    refine (HC.out _).mono ?_
    rintro e w' ⟨rfl, rfl⟩
    go_wp2
    go_ret
    exact ⟨rfl, rfl⟩

end Go.Proofs.YtkbgpmgnkegipaaDoor
