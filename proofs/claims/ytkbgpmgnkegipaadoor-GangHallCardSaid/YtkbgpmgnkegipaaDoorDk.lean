/-
  slices.IsSorted of what rises. No statement is proved here.
-/
import Derived.Test.YtkbgpmgnkegipaaDoorGa
namespace Go.Proofs.YtkbgpmgnkegipaaDoor
open Go.RowKit

set_option maxRecDepth 100000 in
set_option maxHeartbeats 400000 in
theorem nan_any (x : Int) (w : World) : Calls Tryd.prog 43 #[.int .i64 x] w fun e w' => e = .returned (.bool false) ∧ w = w' := by
  go_enter Tryd.func43, Tryd.ntmps43
  go_wp2
  go_ret
  exact ⟨by simp, rfl⟩
set_option maxRecDepth 100000 in
set_option maxHeartbeats 400000 in
theorem less_no (x y : Int) (w : World) (h : y ≤ x) : Calls Tryd.prog 24 #[.int .i64 x, .int .i64 y] w fun e w' => e = .returned (.bool false) ∧ w = w' := by
  have HN := Lib.hid (fun u => nan_any x u)
  go_enter Tryd.func24, Tryd.ntmps24
  go_wp2_with fail
  refine (HN.out _).mono ?_
  rintro e w' ⟨rfl, rfl⟩
  go_wp2
  go_ret
  exact ⟨retB (decide_eq_false (by omega)), rfl⟩

set_option maxRecDepth 100000 in
set_option maxHeartbeats 1000000 in
theorem sorted_any (A : Option Addr) (n c : Nat) (l : List Int) (w : World) (hR : Reads w w.heap.size 1 A n (vs l)) (hn : n ≤ 100000)
    (hs : ∀ (k : Nat) (x y : Int), l[k]? = some x → l[k + 1]? = some y → x ≤ y) :
    Calls Tryd.prog 12 #[.slice A n c] w (Draws (.bool true) w) := by
  have HS := Lib.hid hs
  clear hs
  go_enter Tryd.func12, Tryd.ntmps12
  go_wp2_with fail
  go_loopw [3] (fun v wr => ∃ (i : Int) (q : Nat), v = .int .i64 i ∧ -1 ≤ i ∧ i < n ∧ wr = w.drewN q) (fun v _ => (intOf v).toNat)
  case atStart => exact ⟨(n : Int) - 1, 0, by go_num, by omega, by omega, rfl⟩
  case round =>
    obtain ⟨i, q, rfl, hi1, hi2, rfl⟩ := hrel
    by_cases h0 : 0 < i
    · obtain ⟨k, hk⟩ : ∃ k : Nat, i = (k : Int) + 1 := ⟨(i - 1).toNat, by omega⟩
      obtain ⟨j, rfl⟩ : ∃ j : Nat, i = (j : Int) := ⟨i.toNat, by omega⟩
      have hjk : j = k + 1 := by omega
      obtain ⟨ad, v, rfl, _, hx, hc⟩ := hR.at_ (k := k) (by omega)
      obtain ⟨ad', v', e, _, hx', hc'⟩ := hR.at_ (k := j) (by omega)
      obtain rfl := Option.some.inj e
      obtain ⟨x, hx2, rfl⟩ := vs_at hx
      obtain ⟨y, hy2, rfl⟩ := vs_at hx'
      have HL := Lib.hid (fun u => less_no y x u (HS.out k x y hx2 (by rw [← hjk]; exact hy2)))
      clear hx hx' hx2 hy2 e
      have j0 : (0 : Int) ≤ (k : Int) := by omega
      have j1 : (j : Int) < (n : Int) := by omega
      have j3 : (0 : Int) ≤ (j : Int) := by omega
      have e2 : (j : Int) - 1 = (k : Int) := by omega
      have e3 : IntKind.i64.wrap (k : Int) = (k : Int) := by simp [IntKind.wrap, IntKind.bits, IntKind.signed]; omega
      clear hk hjk
      have j2 : (k : Int) < (n : Int) := by omega
      go_wp2_with fail
      go_quiet ((go_at_call 24; exact (HL.out _).mono fun _ _ h => ⟨h.1, _, h.2.symm⟩))
      go_wp2
      go_roundw
      case rel => exact ⟨(k : Int), q + nq, by go_num, by omega, by omega, rfl⟩
      case measure => simp [intOf]; omega
    · go_wp2
      go_ret
      exact ⟨rfl, _, rfl⟩

end Go.Proofs.YtkbgpmgnkegipaaDoor
