/-
  The contracts of the document's without, SamePuts. No statement is proved here.
-/
import Derived.Test.YtldleijocjohgaaDoorGv
import Derived.Test.YtldleijocjohgaaDoorGj
namespace Go.Proofs.YtldleijocjohgaaDoor
open Go.RowKit

/-- the value of numbers but one -/
def sumX (l : List Int) (c : Int) : Nat := ((l.filter fun x => !(x == c)).map fun x => 2 ^ x.toNat).sum
theorem sumX_skip {l : List Int} {k : Nat} {x c : Int} (h : l[k]? = some x) (hx : x = c) : sumX (l.take (k + 1)) c = sumX (l.take k) c := by
  unfold sumX
  rw [List.take_add_one, h, List.filter_append]
  subst hx
  simp
theorem sumX_more {l : List Int} {k : Nat} {x c : Int} (h : l[k]? = some x) (hx : x ≠ c) : sumX (l.take (k + 1)) c = sumX (l.take k) c + 2 ^ x.toNat := by
  unfold sumX
  rw [List.take_add_one, h, List.filter_append]
  simp [hx]
theorem sumX_le {l : List Int} {c : Int} (h : ∀ x ∈ l, x.toNat ≤ 7) : sumX l c ≤ l.length * 128 := by
  induction l with
  | nil => exact Nat.le_refl _
  | cons y l ih =>
    have h1 := ih fun x hx => h x (List.mem_cons_of_mem _ hx)
    have h2 : 2 ^ y.toNat ≤ 2 ^ 7 := Nat.pow_le_pow_right (by decide) (h y List.mem_cons_self)
    by_cases e : y = c
    · have : sumX (y :: l) c = sumX l c := by unfold sumX; simp [e]
      rw [this, List.length_cons]
      omega
    · have : sumX (y :: l) c = 2 ^ y.toNat + sumX l c := by unfold sumX; simp [e]
      rw [this, List.length_cons]
      omega
theorem sum_all : (List.range 256).all (fun S => (List.range 8).all fun c => !(hasB (S : Int) (c : Int)) || sumX (mem (S : Int)) (c : Int) == outN S (c : Int)) = true := by decide +kernel
theorem sum_out {S : Nat} (hS : S < 256) {c : Int} (hc : hasB (S : Int) c = true) : sumX (mem (S : Int)) c = outN S c := by
  obtain ⟨c0, c1⟩ := cpuB_true (has_cpu hc)
  obtain ⟨k, rfl⟩ := Int.eq_ofNat_of_zero_le c0
  have h1 := of_all 256 sum_all hS
  have h2 := of_all 8 h1 (s := k) (by omega)
  rw [hc] at h2
  simpa using h2
theorem mem_low {S : Int} : ∀ x ∈ mem S, 0 ≤ x ∧ x ≤ 7 := fun x hx => by
  unfold mem memb at hx
  have h := (List.mem_filter.1 hx).1
  obtain ⟨i, hi, rfl⟩ := List.mem_map.1 h
  have := List.mem_range.1 hi
  exact ⟨by omega, by omega⟩

set_option maxRecDepth 100000 in
set_option maxHeartbeats 4000000 in
theorem rwithout_any (S : Nat) (c : Int) (w : World) (hS : S < 256) (hc : hasB (S : Int) c = true) :
    Calls Tryd.prog 35 #[.int .u32 (S : Int), .int .i64 c] w (Ans (.int .u32 (outN S c : Int)) w) := by
  have HLS := Lib.hid (fun u => rlist_any (S : Int) u (by omega))
  have HV := Lib.hid (sum_out hS hc)
  have HLO := Lib.hid (mem_low (S := (S : Int)))
  have hl8 : (mem (S : Int)).length ≤ 8 := length_memb _ 8
  generalize mem (S : Int) = l at *
  generalize outN S c = O at *
  clear hS hc
  go_enter Tryd.func35, Tryd.ntmps35
  go_wp2_with fail
  refine (HLS.out _).mono ?_
  rintro e w1 ⟨A, cc, rfl, hO, hB⟩
  have hR := Reads.of_own hO
  clear hO
  go_wp2_with fail
  go_loop [5, 7] (fun o i => ∃ k : Nat, k ≤ l.length ∧ i = .int .i64 (k : Int) ∧ o = .int .u32 (sumX (l.take k) c : Int)) (fun _ i => l.length - (intOf i).toNat)
  case atStart => exact ⟨0, Nat.zero_le _, rfl, rfl⟩
  case round =>
    obtain ⟨k, hk, rfl, rfl⟩ := hrel
    by_cases hlt : k < l.length
    · obtain ⟨ad, v, rfl, _, hx, hcl⟩ := hR.at_ hlt
      obtain ⟨x, hx2, rfl⟩ := vs_at hx
      obtain ⟨x0, x7⟩ := HLO.out x (List.mem_of_getElem? hx2)
      obtain ⟨X, rfl⟩ := Int.eq_ofNat_of_zero_le x0
      clear hx x0
      have j0 : (0 : Int) ≤ (k : Int) := by omega
      have j1 : (k : Int) < (l.length : Int) := by omega
      have hle := sumX_le (l := l.take k) (c := c) (fun x hx => by have := HLO.out x (List.mem_of_mem_take hx); omega)
      have hle2 : sumX (l.take k) c ≤ 1024 := by rw [List.length_take] at hle; omega
      clear hle
      by_cases e : (X : Int) = c
      · have q : ((X : Int) == c) = true := by simpa using e
        have HS := Lib.hid (sumX_skip hx2 e)
        clear hx2 e
        generalize sumX (l.take k) c = s at *
        go_wp2
        go_round
        case rel => exact ⟨k + 1, by omega, by go_num, by rw [HS.out]⟩
        case measure => simp [intOf] <;> omega
      · have q : ((X : Int) == c) = false := by simpa using e
        have HS := Lib.hid (sumX_more hx2 e)
        clear hx2 e
        rw [Int.toNat_natCast] at HS
        generalize sumX (l.take k) c = s at *
        go_wp2_with fail
        go_loop [8, 9] (fun p i => ∃ j : Nat, j ≤ X ∧ i = .int .i64 (j : Int) ∧ p = .int .u32 ((2 ^ j : Nat) : Int)) (fun _ i => X - (intOf i).toNat)
        case atStart => exact ⟨0, Nat.zero_le _, rfl, rfl⟩
        case round =>
          obtain ⟨j, hj, rfl, rfl⟩ := hrel
          have hp : 2 ^ j ≤ 2 ^ 7 := Nat.pow_le_pow_right (by decide) (by omega)
          have HP := Lib.hid (Nat.pow_succ 2 j)
          by_cases hjx : j < X
          · have i1 : (j : Int) < (X : Int) := by omega
            generalize 2 ^ j = P at *
            have hp1 : (P : Int) ≤ 128 := by omega
            have hw : IntKind.u32.wrap ((P : Int) * 2) = (P : Int) * 2 := by simp [IntKind.wrap, IntKind.bits, IntKind.signed]; omega
            go_wp2
            go_round
            case rel => exact ⟨j + 1, by omega, by go_num, by rw [HP.out, Int.natCast_mul]; rfl⟩
            case measure => simp [intOf] <;> omega
          · obtain rfl : j = X := by omega
            generalize 2 ^ j = P at *
            have hw : IntKind.u32.wrap ((s : Int) + (P : Int)) = (s : Int) + (P : Int) := by simp [IntKind.wrap, IntKind.bits, IntKind.signed]; omega
            go_wp2
            go_round
            case rel => exact ⟨k + 1, by omega, by go_num, by rw [HS.out, Int.natCast_add]⟩
            case measure => simp [intOf] <;> omega
    · obtain rfl : k = l.length := by omega
      rw [List.take_length, HV.out] at *
      go_wp2
      go_ret
      exact ⟨rfl, hB⟩

set_option maxRecDepth 100000 in
set_option maxHeartbeats 4000000 in
theorem rsameputs_any (A A' : Option Addr) (n c c' : Nat) (l : List (Int × Int)) (w : World) (hR : Reads w w.heap.size 2 A n (svs l)) (hR' : Reads w w.heap.size 2 A' n (svs l)) (hn : n ≤ 1000) :
    Calls Tryd.prog 16 #[.slice A n c, .slice A' n c'] w (Said (.bool true) w) := by
  have HL := Lib.hid (reads_len hR)
  have HR := Lib.hid hR
  have HR' := Lib.hid hR'
  clear hR hR'
  go_enter Tryd.func16, Tryd.ntmps16
  go_wp2_with fail
  go_loopw [5] (fun i wr => ∃ k : Nat, k ≤ n ∧ i = .int .i64 (k : Int) ∧ Below w.heap.size w wr) (fun i _ => n - (intOf i).toNat)
  case atStart => exact ⟨0, by omega, rfl, Below.refl _ _⟩
  case round =>
    obtain ⟨k, hk, rfl, hB⟩ := hrel
    by_cases hlt : k < n
    · obtain ⟨⟨x, y⟩, hm⟩ := elem_at (l := l) (k := k) (by rw [HL.out]; exact hlt)
      obtain ⟨ad, rfl, hb1, c0, c1⟩ := seat_at (HR.out.below hB) hm
      obtain ⟨ad', rfl, hb2, d0, d1⟩ := seat_at (HR'.out.below hB) hm
      have i1 : (0 : Int) ≤ (k : Int) := by omega
      have i2 : (k : Int) < (n : Int) := by omega
      have hsz := hB.size
      clear hm
      go_wp2_with fail
      go_quiet (fail)
      go_wp2
      go_roundw
      case rel => exact ⟨k + 1, by omega, by go_num, below_drewN hB _⟩
      case measure => simp [intOf] <;> omega
    · obtain rfl : n = k := by omega
      go_wp2
      go_ret
      exact ⟨rfl, hB⟩

end Go.Proofs.YtldleijocjohgaaDoor
