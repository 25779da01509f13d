/-
  The landed pool: count, union; the library's Index, Contains; Check. No statement is proved here.
-/
import Derived.Test.YtnckfgnhlnichaaDoorPa
import Derived.Test.YtnckfgnhlnichaaDoorWa
namespace Go.Proofs.YtnckfgnhlnichaaDoor
open Go.RowKit

def popK (l : List Nat) : Nat → Nat
  | 0 => 0
  | k + 1 => popK l k + pop32 (l.getD k 0)
theorem popK_le {l : List Nat} (hU : U32s l) : ∀ k, popK l k ≤ 32 * k
  | 0 => Nat.le_refl _
  | k + 1 => by
    have h := popK_le hU k
    have : pop32 (l.getD k 0) ≤ 32 := by
      by_cases hk : k < l.length
      · exact pop32_le (hU.at_ (at_getD hk))
      · rw [List.getD_eq_getElem?_getD, List.getElem?_eq_none (by omega)]
        exact pop32_le (x := 0) (by omega)
    unfold popK
    omega
theorem popK_step {l : List Nat} {k x : Nat} (hx : l[k]? = some x) : popK l (k + 1) = popK l k + pop32 x := by show _ + pop32 (l.getD k 0) = _; rw [getD_at hx]
theorem orK_step {l : List Nat} {k x : Nat} (hx : l[k]? = some x) : orK l (k + 1) = orK l k ||| x := by show _ ||| (l.getD k 0) = _; rw [getD_at hx]
theorem orK_u32 {l : List Nat} (hU : U32s l) : ∀ k, orK l k < 4294967296
  | 0 => by show 0 < _; omega
  | k + 1 => by
    have h := orK_u32 hU k
    have : l.getD k 0 < 4294967296 := by
      by_cases hk : k < l.length
      · exact hU.at_ (at_getD hk)
      · rw [List.getD_eq_getElem?_getD, List.getElem?_eq_none (by omega)]
        show 0 < _
        omega
    exact Nat.or_lt_two_pow (n := 32) h this
theorem or_u32 {x y : Nat} (hx : x < 4294967296) (hy : y < 4294967296) : bits .or .u32 (x : Int) (y : Int) = ((x ||| y : Nat) : Int) := by
  rw [u32_or _ _ (by omega) (by omega) (by omega) (by omega)]
  simp
theorem le_orK {l : List Nat} {j : Nat} : ∀ k, j < k → l.getD j 0 ≤ orK l k
  | 0, h => by omega
  | k + 1, h => by
    show _ ≤ orK l k ||| l.getD k 0
    by_cases e : j = k
    · subst e; exact Nat.right_le_or
    · exact Nat.le_trans (le_orK k (by omega)) Nat.left_le_or
def zeroB (l : List Nat) : Bool := l.any fun x => x == 0
theorem zero_yes {l : List Nat} {k : Nat} (h : l[k]? = some 0) : zeroB l = true := by
  unfold zeroB
  rw [List.any_eq_true]
  exact ⟨0, List.mem_of_getElem? h, rfl⟩
theorem zero_step {l : List Nat} {k x : Nat} (hx : l[k]? = some x) (h : ¬ x = 0) (ht : zeroB (l.take k) = false) : zeroB (l.take (k + 1)) = false := by
  unfold zeroB at *
  rw [List.take_add_one, hx, List.any_append, ht]
  simp [h]
theorem zero_no {l : List Nat} (h : zeroB l = false) : ∀ x ∈ l, 0 < x := by
  intro x hx
  unfold zeroB at h
  rw [List.any_eq_false] at h
  have := h x hx
  simp at this
  omega
theorem zero_sets {l : List Nat} (h : zeroB l = true) : setsB l = false := by
  unfold zeroB at h
  obtain ⟨x, hx, h0⟩ := List.any_eq_true.1 h
  obtain ⟨k, hk⟩ := List.mem_iff_getElem?.1 hx
  exact sets_no hk (by unfold setB; simp at h0; subst h0; rfl)
theorem pop_sum {l : List Nat} (hs : setsB l = true) : ∀ k, k ≤ l.length → popK l k = sumK l k
  | 0, _ => rfl
  | k + 1, h => by
    have hx := at_getD (l := l) (k := k) (by omega)
    rw [popK_step hx, sumK_step hx, pop_sum hs k (by omega), pop_card (sets_at hs hx).1]

theorem chk_iff {l : List Nat} (h1 : 1 ≤ l.length) (h4 : l.length ≤ 4) (hz : zeroB l = false) :
    rightP l = true ↔ popK l l.length ≤ 8 ∧ orK l l.length = 2 ^ popK l l.length - 1 := by
  constructor
  · intro h
    obtain ⟨_, hs, T, hP⟩ := right_iff.1 h
    have hp : popK l l.length = T := by
      rw [pop_sum hs _ (Nat.le_refl _), sum_tot hs _ (Nat.le_refl _), List.take_length]
      exact parted_tot hP
    rw [hp]
    refine ⟨hP.1, Nat.eq_of_testBit_eq fun c => ?_⟩
    rw [or_bits c _ (Nat.le_refl _), List.take_length, Nat.testBit_two_pow_sub_one]
    by_cases hc : c < 8
    · rw [hP.2 c hc]
      split <;> simp_all
    · rw [cnt_far hs (by omega)]
      have := hP.1
      simp
      omega
  · rintro ⟨h8, ho⟩
    have hlt : orK l l.length < 256 := by
      rw [ho]
      have : 2 ^ popK l l.length ≤ 2 ^ 8 := Nat.pow_le_pow_right (by omega) h8
      omega
    have hs : setsB l = true := by
      unfold setsB
      rw [List.all_eq_true]
      intro x hx
      obtain ⟨j, hj⟩ := List.mem_iff_getElem?.1 hx
      have hjl := (List.getElem?_eq_some_iff.1 hj).1
      have := le_orK (l := l) l.length hjl
      rw [getD_at hj] at this
      exact setB_of (by omega) (zero_no hz x hx)
    have ht : tot8 l = popK l l.length := by
      rw [pop_sum hs _ (Nat.le_refl _), sum_tot hs _ (Nat.le_refl _), List.take_length]
    refine right_iff.2 ⟨⟨h1, h4⟩, hs, popK l l.length, h8, ?_⟩
    have hb : ∀ c, 0 < cntL l c ↔ c < popK l l.length := by
      intro c
      have := congrArg (fun x => x.testBit c) ho
      simp only [or_bits c _ (Nat.le_refl _), List.take_length, Nat.testBit_two_pow_sub_one] at this
      simpa using this
    generalize popK l l.length = S at *
    unfold tot8 at ht
    have b0 := hb 0
    have b1 := hb 1
    have b2 := hb 2
    have b3 := hb 3
    have b4 := hb 4
    have b5 := hb 5
    have b6 := hb 6
    have b7 := hb 7
    intro c hc
    have : c = 0 ∨ c = 1 ∨ c = 2 ∨ c = 3 ∨ c = 4 ∨ c = 5 ∨ c = 6 ∨ c = 7 := by omega
    rcases this with rfl | rfl | rfl | rfl | rfl | rfl | rfl | rfl <;> split <;> omega

set_option maxRecDepth 100000 in
set_option maxHeartbeats 1000000 in
theorem lcount_any (A : Option Addr) (n c : Nat) (l : List Nat) (w : World) (hR : Reads w w.heap.size 1 A n (us l)) (hU : U32s l) (hn : n ≤ 1000) :
    Calls Tryd.prog 28 #[.slice A n c] w (Said (.int .i64 (popK l n : Nat)) w) := by
  have HP := Lib.hid (fun (x : Nat) (h : x < 4294967296) (u : World) => pop_any x u h)
  have HL := Lib.hid (fun k => popK_le hU k)
  have HU := Lib.hid hU
  have HR := Lib.hid hR
  clear hR hU
  go_enter Tryd.func28, Tryd.ntmps28
  go_wp2_with fail
  go_loopw [3, 8] (fun s i wr => ∃ k : Nat, k ≤ n ∧ i = .int .i64 (k : Int) ∧ s = .int .i64 ((popK l k : Nat) : Int) ∧ Below w.heap.size w wr) (fun _ i _ => n - (intOf i).toNat)
  case atStart => exact ⟨0, by omega, rfl, rfl, Below.refl _ _⟩
  case round =>
    obtain ⟨k, hk, rfl, rfl, hB⟩ := hrel
    by_cases hlt : k < n
    · obtain ⟨ad, x, rfl, hb, hx, hc⟩ := uset_at (HR.out.below hB) hlt
      have HX := Lib.hid (fun u => HP.out x (HU.out.at_ hx) u)
      have j1 : (k : Int) < (n : Int) := by omega
      have hs := popK_step hx
      have hl := HL.out (k + 1)
      rw [hs] at hl
      generalize hp : popK l k = p at *
      generalize pop32 x = q at *
      have hw : IntKind.i64.wrap ((p : Int) + (q : Int)) = (p : Int) + (q : Int) := by rw [IntKind.wrap_i64]; omega
      have HS : Hid (popK l (k + 1) = p + q) := Lib.hid hs
      clear hs hp hx hl
      go_wp2_with fail
      refine (HX.out _).mono ?_
      rintro e w' ⟨rfl, m, rfl⟩
      go_wp2
      go_roundw
      case rel => exact ⟨k + 1, by omega, by go_num, by rw [HS.out]; simp, below_drewN hB m⟩
      case measure => simp [intOf] <;> omega
    · obtain rfl : n = k := by omega
      go_wp2
      go_ret
      exact ⟨rfl, hB⟩

set_option maxRecDepth 100000 in
set_option maxHeartbeats 1000000 in
theorem lunion_any (A : Option Addr) (n c : Nat) (l : List Nat) (w : World) (hR : Reads w w.heap.size 1 A n (us l)) (hU : U32s l) (hn : n ≤ 1000) :
    Calls Tryd.prog 13 #[.slice A n c] w fun e w' => e = .returned (.int .u32 (orK l n : Nat)) ∧ w = w' := by
  have HU := Lib.hid hU
  have HR := Lib.hid hR
  clear hR hU
  go_enter Tryd.func13, Tryd.ntmps13
  go_wp2_with fail
  go_loop [3, 8] (fun s i => ∃ k : Nat, k ≤ n ∧ i = .int .i64 (k : Int) ∧ s = .int .u32 ((orK l k : Nat) : Int)) (fun _ i => n - (intOf i).toNat)
  case atStart => exact ⟨0, by omega, rfl, rfl⟩
  case round =>
    obtain ⟨k, hk, rfl, rfl⟩ := hrel
    by_cases hlt : k < n
    · obtain ⟨ad, x, rfl, hb, hx, hc⟩ := uset_at HR.out hlt
      have j1 : (k : Int) < (n : Int) := by omega
      have ho := or_u32 (orK_u32 HU.out k) (HU.out.at_ hx)
      rw [← orK_step hx] at ho
      clear hx
      go_wp2
      go_round
      case rel => exact ⟨k + 1, by omega, by go_num, rfl⟩
      case measure => simp [intOf] <;> omega
    · obtain rfl : n = k := by omega
      go_wp2
      go_ret
      exact ⟨rfl, rfl⟩

set_option maxRecDepth 100000 in
set_option maxHeartbeats 1000000 in
theorem lindex_any (A : Option Addr) (n c : Nat) (l : List Nat) (w : World) (hR : Reads w w.heap.size 1 A n (us l)) (hn : n ≤ 1000) :
    Calls Tryd.prog 41 #[.slice A n c, .int .u32 0] w fun e w' => ∃ v : Int, e = .returned (.int .i64 v) ∧ Hid (decide ((0 : Int) ≤ v) = zeroB l) ∧ w = w' := by
  have HL := Lib.hid (usets_len hR)
  have HR := Lib.hid hR
  clear hR
  go_enter Tryd.func41, Tryd.ntmps41
  go_wp2_with fail
  go_loop [8] (fun i => ∃ k : Nat, k ≤ n ∧ i = .int .i64 (k : Int) ∧ Hid (zeroB (l.take k) = false)) (fun i => n - (intOf i).toNat)
  case atStart => exact ⟨0, by omega, rfl, Lib.hid rfl⟩
  case round =>
    obtain ⟨k, hk, rfl, HA⟩ := hrel
    by_cases hlt : k < n
    · obtain ⟨ad, x, rfl, hb, hx, hc⟩ := uset_at HR.out hlt
      have j0 : (0 : Int) ≤ (k : Int) := by omega
      have j1 : (k : Int) < (n : Int) := by omega
      by_cases h0 : x = 0
      · subst h0
        have HV : Hid (decide ((0 : Int) ≤ (k : Int)) = zeroB l) := Lib.hid (by rw [zero_yes hx]; simp)
        clear hx
        go_wp2
        go_ret
        exact ⟨_, rfl, HV, rfl⟩
      · have HS := Lib.hid (zero_step hx h0 HA.out)
        have hz : ((0 : Int) == (x : Int)) = false := by simp; omega
        clear hx h0
        go_wp2
        go_round
        case rel => exact ⟨k + 1, by omega, by go_num, HS⟩
        case measure => simp [intOf] <;> omega
    · obtain rfl : n = k := by omega
      have HV : Hid (decide ((0 : Int) ≤ -1) = zeroB l) := Lib.hid (by
        have := HA.out
        rw [← HL.out, List.take_length] at this
        rw [this]; rfl)
      go_wp2
      go_ret
      exact ⟨_, rfl, HV, rfl⟩

set_option maxRecDepth 100000 in
set_option maxHeartbeats 1000000 in
theorem lcontains_any (A : Option Addr) (n c : Nat) (l : List Nat) (w : World) (hR : Reads w w.heap.size 1 A n (us l)) (hn : n ≤ 1000) :
    Calls Tryd.prog 27 #[.slice A n c, .int .u32 0] w fun e w' => e = .returned (.bool (zeroB l)) ∧ w = w' := by
  have HI := Lib.hid (lindex_any A n c l w hR hn)
  clear hR
  go_enter Tryd.func27, Tryd.ntmps27
  go_wp2_with fail
  refine HI.out.mono ?_
  rintro e w' ⟨v, rfl, HV, rfl⟩
  go_wp2
  go_ret
  exact ⟨retB HV.out, rfl⟩

end Go.Proofs.YtnckfgnhlnichaaDoor
