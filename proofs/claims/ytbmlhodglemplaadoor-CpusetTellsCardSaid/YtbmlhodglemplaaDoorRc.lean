/-
  The contracts of the document's SameInts, Next and Within. No statement is proved here.
-/
import Derived.Test.YtbmlhodglemplaaDoorRb
namespace Go.Proofs.YtbmlhodglemplaaDoor
open Go.RowKit

/-- a call only draws -/
def Draws (v : Value) (w : World) (e : Ending) (w' : World) : Prop := e = .returned v ∧ ∃ m, w' = w.drewN m
theorem Draws.below {v : Value} {w w' : World} {e : Ending} (h : Draws v w e w') (B : Nat) : Below B w w' := by
  obtain ⟨_, m, rfl⟩ := h
  exact below_drewN (Below.refl _ _) m
/-- a value answered; what was there has not turned -/
def Ans (v : Value) (w : World) (e : Ending) (w' : World) : Prop := e = .returned v ∧ Below w.heap.size w w'

set_option maxRecDepth 100000 in
set_option maxHeartbeats 1000000 in
theorem same_same (A1 A2 : Option Addr) (n c1 c2 : Nat) (l : List Int) (w : World) (h1 : Reads w w.heap.size 1 A1 n (vs l)) (h2 : Reads w w.heap.size 1 A2 n (vs l)) (hn : n ≤ 100000) :
    Calls Tryd.prog 14 #[.slice A1 n c1, .slice A2 n c2] w (Draws (.bool true) w) := by
  go_enter Tryd.func14, Tryd.ntmps14
  go_wp2_with fail
  go_loopw [13] (fun i wr => ∃ k q : Nat, k ≤ n ∧ i = .int .i64 k ∧ wr = w.drewN q) (fun i _ => n - (intOf i).toNat)
  case atStart => exact ⟨0, 0, Nat.zero_le _, rfl, rfl⟩
  case round =>
    obtain ⟨k, q, hk, rfl, rfl⟩ := hrel
    by_cases hlt : k < n
    · obtain ⟨ad, v, rfl, _, hx, hc⟩ := h1.at_ hlt
      obtain ⟨ad', v', rfl, _, hx', hc'⟩ := h2.at_ hlt
      obtain rfl : v = v' := by rw [hx] at hx'; injection hx'
      obtain ⟨x, _, rfl⟩ := vs_at hx
      clear hx hx'
      have j0 : (0 : Int) ≤ (k : Int) := by omega
      have j1 : (k : Int) < (n : Int) := by omega
      go_wp2_with fail
      go_quiet (fail)
      go_wp2
      go_roundw
      case rel => exact ⟨k + 1, q + nq, by omega, by go_num, rfl⟩
      case measure => simp [intOf]; omega
    · obtain rfl : k = n := by omega
      go_wp2
      go_ret
      exact ⟨rfl, _, rfl⟩

theorem drop_at {l : List Int} {k : Nat} {x : Int} (h : l[k]? = some x) : l.drop k = x :: l.drop (k + 1) := by
  obtain ⟨hk, hx⟩ := List.getElem?_eq_some_iff.1 h
  rw [List.drop_eq_getElem_cons hk, hx]

/-- the first one above a -/
def nextV (l : List Int) (a : Int) : Int × Bool := match l.find? (fun n => decide (a < n)) with
  | some n => (n, true)
  | none => (0, false)
theorem next_hit {l : List Int} {k : Nat} {x a : Int} (h : l[k]? = some x) (ha : a < x) : nextV (l.drop k) a = (x, true) := by
  rw [drop_at h]
  unfold nextV
  rw [List.find?_cons_of_pos (by simpa using ha)]
theorem next_miss {l : List Int} {k : Nat} {x a : Int} (h : l[k]? = some x) (ha : ¬ a < x) : nextV (l.drop k) a = nextV (l.drop (k + 1)) a := by
  rw [drop_at h]
  unfold nextV
  rw [List.find?_cons_of_neg (by simpa using ha)]
theorem next_end (l : List Int) (a : Int) : nextV (l.drop l.length) a = (0, false) := by
  rw [List.drop_length]
  rfl

set_option maxRecDepth 100000 in
set_option maxHeartbeats 1000000 in
theorem rnext_any (s a : Int) (w : World) (h0 : 0 ≤ s) : Calls Tryd.prog 24 #[.int .u32 s, .int .i64 a] w
    (Ans (.tuple #[.int .i64 (nextV (mem s) a).1, .bool (nextV (mem s) a).2]) w) := by
  have HL := Lib.hid (fun u => rlist_any s u h0)
  have hl8 : (mem s).length ≤ 8 := length_memb s 8
  generalize mem s = l at HL hl8 ⊢
  go_enter Tryd.func24, Tryd.ntmps24
  go_wp2_with fail
  refine (HL.out _).mono ?_
  rintro e w1 ⟨A, c, rfl, hO, hB⟩
  have hR := Reads.of_own hO
  go_wp2_with fail
  go_loop [11] (fun i => ∃ k : Nat, k ≤ l.length ∧ i = .int .i64 k ∧ nextV l a = nextV (l.drop k) a) (fun i => l.length - (intOf i).toNat)
  case atStart => exact ⟨0, Nat.zero_le _, rfl, rfl⟩
  case round =>
    obtain ⟨k, hk, rfl, hN⟩ := hrel
    by_cases hlt : k < l.length
    · obtain ⟨ad, v, rfl, _, hx, hc⟩ := hR.at_ hlt
      obtain ⟨x, hx2, rfl⟩ := vs_at hx
      clear hx
      have j0 : (0 : Int) ≤ (k : Int) := by omega
      have j1 : (k : Int) < (l.length : Int) := by omega
      by_cases ha : a < x
      · have HV := Lib.hid (hN.trans (next_hit hx2 ha))
        clear hN hx2
        go_wp2
        go_ret2
        rw [HV.out]
        exact ⟨rfl, hB⟩
      · have HV := Lib.hid (hN.trans (next_miss hx2 ha))
        clear hN hx2
        go_wp2
        go_round
        case rel => exact ⟨k + 1, by omega, by go_num, HV.out⟩
        case measure => simp [intOf]; omega
    · obtain rfl : k = l.length := by omega
      have HV := Lib.hid (hN.trans (next_end l a))
      clear hN
      go_wp2
      go_ret2
      rw [HV.out]
      exact ⟨rfl, hB⟩

def withinV (l : List Int) (t : Int) : Bool := l.all (hasB t)
theorem within_yes {l : List Int} {k : Nat} {x t : Int} (h : l[k]? = some x) (ha : hasB t x = true) : withinV (l.drop k) t = withinV (l.drop (k + 1)) t := by
  rw [drop_at h]
  simp [withinV, ha]
theorem within_no {l : List Int} {k : Nat} {x t : Int} (h : l[k]? = some x) (ha : hasB t x = false) : withinV (l.drop k) t = false := by
  rw [drop_at h]
  simp [withinV, ha]
theorem within_end (l : List Int) (t : Int) : withinV (l.drop l.length) t = true := by
  rw [List.drop_length]
  rfl

set_option maxRecDepth 100000 in
set_option maxHeartbeats 1000000 in
theorem rwithin_any (s t : Int) (w : World) (h0 : 0 ≤ s) (h1 : 0 ≤ t) : Calls Tryd.prog 22 #[.int .u32 s, .int .u32 t] w
    (Ans (.bool (withinV (mem s) t)) w) := by
  have HL := Lib.hid (fun u => rlist_any s u h0)
  have HH := Lib.hid (fun c u => rhas_any t c u h1)
  have hl8 : (mem s).length ≤ 8 := length_memb s 8
  generalize mem s = l at HL hl8 ⊢
  go_enter Tryd.func22, Tryd.ntmps22
  go_wp2_with fail
  refine (HL.out _).mono ?_
  rintro e w1 ⟨A, c, rfl, hO, hB⟩
  have hR := Reads.of_own hO
  go_wp2_with fail
  go_loop [10] (fun i => ∃ k : Nat, k ≤ l.length ∧ i = .int .i64 k ∧ withinV l t = withinV (l.drop k) t) (fun i => l.length - (intOf i).toNat)
  case atStart => exact ⟨0, Nat.zero_le _, rfl, rfl⟩
  case round =>
    obtain ⟨k, hk, rfl, hN⟩ := hrel
    by_cases hlt : k < l.length
    · obtain ⟨ad, v, rfl, _, hx, hc⟩ := hR.at_ hlt
      obtain ⟨x, hx2, rfl⟩ := vs_at hx
      clear hx
      have j0 : (0 : Int) ≤ (k : Int) := by omega
      have j1 : (k : Int) < (l.length : Int) := by omega
      by_cases ha : hasB t x = true
      · have HV := Lib.hid (hN.trans (within_yes hx2 ha))
        have HC := Lib.hid (fun u => ha ▸ HH.out x u)
        clear hN hx2 ha
        go_wp2_with fail
        refine (HC.out _).mono ?_
        rintro e w' ⟨rfl, rfl⟩
        go_wp2
        go_round
        case rel => exact ⟨k + 1, by omega, by go_num, HV.out⟩
        case measure => simp [intOf]; omega
      · have ha' : hasB t x = false := by simpa using ha
        have HV := Lib.hid (hN.trans (within_no hx2 ha'))
        have HC := Lib.hid (fun u => ha' ▸ HH.out x u)
        clear hN hx2 ha ha'
        go_wp2_with fail
        refine (HC.out _).mono ?_
        rintro e w' ⟨rfl, rfl⟩
        go_wp2
        go_ret
        rw [HV.out]
        exact ⟨rfl, hB⟩
    · obtain rfl : k = l.length := by omega
      have HV := Lib.hid (hN.trans (within_end l t))
      clear hN
      go_wp2
      go_ret
      rw [HV.out]
      exact ⟨rfl, hB⟩

end Go.Proofs.YtbmlhodglemplaaDoor
