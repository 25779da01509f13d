/-
  Sets that are asked: which may be. No statement is proved here.
-/
import Derived.Test.YtkbgpmgnkegipaaDoorGa
import Derived.Test.YtkbgpmgnkegipaaDoorMj
namespace Go.Proofs.YtkbgpmgnkegipaaDoor
open Go.RowKit

def us (l : List Int) : List Value := l.map (Value.int .u32)
theorem length_us (l : List Int) : (us l).length = l.length := by unfold us; rw [List.length_map]
theorem us_ones (l : List Int) : ∀ u ∈ us l, u.oneCell' = true := by
  intro u hu
  unfold us at hu
  obtain ⟨x, _, rfl⟩ := List.mem_map.1 hu
  rfl
/-- sets that lie somewhere -/
structure SW (w : World) (A : Option Addr) (n : Nat) (l : List Int) : Prop where
  row : Reads w w.heap.size 1 A n (us l)
  small : n ≤ 1000
  rng : ∀ x ∈ l, 0 ≤ x ∧ x < 4294967296
theorem SW.len {w : World} {A : Option Addr} {n : Nat} {l : List Int} (h : SW w A n l) : l.length = n := by
  have h1 := h.row.1
  rw [length_us] at h1
  omega
theorem SW.below {w w' : World} {A : Option Addr} {n : Nat} {l : List Int} (h : SW w A n l) (hb : Below w.heap.size w w') : SW w' A n l := ⟨(h.row.below hb).more hb.size, h.small, h.rng⟩
theorem SW.at_ {w : World} {A : Option Addr} {n : Nat} {l : List Int} (h : SW w A n l) {j : Nat} {x : Int} (hx : l[j]? = some x) : ∃ ad, A = some ad ∧ ad.block < w.heap.size ∧ w.cell? (ad.add j) = some (.int .u32 x) := by
  have := (List.getElem?_eq_some_iff.1 hx).1
  obtain ⟨ad, e, hb, hc⟩ := h.row.2 (by have := h.len; omega)
  exact ⟨ad, e, hb, hc j _ (by unfold us; rw [List.getElem?_map, hx]; rfl)⟩
def smallB (s : Int) : Bool := decide (s < 256)
def setsB (l : List Int) : Bool := decide (l.length ≤ 8) && l.all smallB
theorem chk_small (s : Int) : (chkV s != 0) = !smallB s := by
  unfold chkV smallB
  by_cases h : s < 256
  · rw [if_pos h, decide_eq_true h]; rfl
  · rw [if_neg h, decide_eq_false h]; rfl
theorem takes_small {l : List Int} {k : Nat} {x : Int} (h : ∀ y ∈ l.take k, smallB y = true) (hx : l[k]? = some x) (hp : smallB x = true) : ∀ y ∈ l.take (k + 1), smallB y = true := by
  intro y hy
  rw [List.take_add_one, hx] at hy
  rcases List.mem_append.1 hy with hy | hy
  · exact h y hy
  · rw [show y = x by simpa using hy]; exact hp

set_option maxRecDepth 100000 in
set_option maxHeartbeats 1000000 in
theorem nots_any (s : Int) (w : World) (h0 : 0 ≤ s) (h1 : s < 4294967296) : Calls Tryd.prog 35 #[.int .u32 s] w fun e w' => e = .returned (.bool (!smallB s)) ∧ w = w' := by
  have HC := Lib.hid (ccheck_any s w h0 h1)
  have HV := Lib.hid (chk_small s)
  obtain ⟨v, hv⟩ : ∃ v, chkV s = v := ⟨_, rfl⟩
  rw [hv] at HC HV
  clear hv h0 h1
  go_enter Tryd.func35, Tryd.ntmps35
  go_wp2_with fail
  refine HC.out.mono ?_
  rintro e w1 ⟨rfl, rfl⟩
  go_wp2_with fail
  go_ret
  exact ⟨by rw [HV.out]; rfl, rfl⟩

set_option maxRecDepth 100000 in
set_option maxHeartbeats 4000000 in
theorem idxs_any (A : Option Addr) (n c : Nat) (l : List Int) (w : World) (hG : SW w A n l) :
    Calls Tryd.prog 54 #[.slice A n c, .func (.func 35) #[] #[]] w fun e w' => (∃ r : Int, e = .returned (.int .i64 r) ∧ decide (0 ≤ r) = !l.all smallB) ∧ w = w' := by
  have HG := Lib.hid hG
  have HL := Lib.hid hG.len
  have n9 : n ≤ 1000 := hG.small
  have HN := Lib.hid (fun (s : Int) (h : s ∈ l) (u : World) => nots_any s u (hG.rng s h).1 (hG.rng s h).2)
  clear hG
  go_enter Tryd.func54, Tryd.ntmps54
  go_wp2_with fail
  go_loop [8] (fun iv => ∃ k : Nat, k ≤ n ∧ iv = .int .i64 (k : Int) ∧ Hid (∀ y ∈ l.take k, smallB y = true)) (fun iv => n - (intOf iv).toNat)
  case atStart => exact ⟨0, by omega, rfl, Lib.hid (by simp)⟩
  case round =>
    obtain ⟨k, hk, rfl, HA⟩ := hrel
    by_cases hlt : k < n
    · obtain ⟨s, hx⟩ := elem_at (l := l) (k := k) (by rw [HL.out]; exact hlt)
      obtain ⟨ad, rfl, _, d0⟩ := HG.out.at_ hx
      have HX := Lib.hid hx
      have HNs := Lib.hid (HN.out s (List.mem_of_getElem? hx) w)
      have i1 : (0 : Int) ≤ (k : Int) := by omega
      have i2 : (k : Int) < (n : Int) := by omega
      have l1 : decide ((k : Int) < (n : Int)) = true := decide_eq_true i2
      clear hx
      cases hs : smallB s with
      | false =>
        rw [hs] at HNs
        have HV : Hid ((!l.all smallB) = true) := Lib.hid (by
          rw [Bool.not_eq_true', List.all_eq_false]
          exact ⟨s, List.mem_of_getElem? HX.out, by rw [hs]; simp⟩)
        clear hs
        go_wp2_with fail
        refine HNs.out.mono ?_
        rintro e w1 ⟨rfl, rfl⟩
        go_wp2_with fail
        go_ret
        exact ⟨⟨_, rfl, by rw [HV.out]; exact decide_eq_true (by omega)⟩, rfl⟩
      | true =>
        rw [hs] at HNs
        have HA2 := Lib.hid (takes_small HA.out HX.out hs)
        clear hs
        go_wp2_with fail
        refine HNs.out.mono ?_
        rintro e w1 ⟨rfl, rfl⟩
        go_wp2_with fail
        go_round
        case rel => exact ⟨k + 1, by omega, by go_num, HA2⟩
        case measure => simp [intOf] <;> omega
    · obtain rfl : n = k := by omega
      have l1 : decide ((n : Int) < (n : Int)) = false := decide_eq_false (by omega)
      have HV : Hid ((!l.all smallB) = false) := Lib.hid (by
        have h := HA.out
        rw [← HL.out, List.take_length] at h
        rw [Bool.not_eq_false', List.all_eq_true]
        exact h)
      go_wp2_with fail
      go_ret
      exact ⟨⟨_, rfl, by rw [HV.out]; rfl⟩, rfl⟩

set_option maxRecDepth 100000 in
set_option maxHeartbeats 1000000 in
theorem conts_any (A : Option Addr) (n c : Nat) (l : List Int) (w : World) (hG : SW w A n l) :
    Calls Tryd.prog 34 #[.slice A n c, .func (.func 35) #[] #[]] w fun e w' => e = .returned (.bool (!l.all smallB)) ∧ w = w' := by
  have HI := Lib.hid (idxs_any A n c l w hG)
  clear hG
  go_enter Tryd.func34, Tryd.ntmps34
  go_wp2_with fail
  refine HI.out.mono ?_
  rintro e w1 ⟨⟨r, rfl, hr⟩, rfl⟩
  have HR := Lib.hid hr
  clear hr
  go_wp2_with fail
  go_ret
  exact ⟨by rw [← HR.out]; rfl, rfl⟩

set_option maxRecDepth 100000 in
set_option maxHeartbeats 1000000 in
theorem areSets_any (A : Option Addr) (n c : Nat) (l : List Int) (w : World) (hG : SW w A n l) :
    Calls Tryd.prog 15 #[.slice A n c] w fun e w' => e = .returned (.bool (setsB l)) ∧ w = w' := by
  have HC := Lib.hid (conts_any A n c l w hG)
  have HL := Lib.hid hG.len
  clear hG
  by_cases h8 : 8 < n
  · have q : decide ((8 : Int) < (n : Int)) = true := decide_eq_true (by omega)
    have qn : decide (8 < n) = true := decide_eq_true h8
    have HV : Hid (setsB l = false) := Lib.hid (by unfold setsB; rw [HL.out, decide_eq_false (by omega)]; rfl)
    clear h8
    go_enter Tryd.func15, Tryd.ntmps15
    go_wp2_with fail
    go_ret
    exact ⟨by rw [HV.out]; rfl, rfl⟩
  · have q : decide ((8 : Int) < (n : Int)) = false := decide_eq_false (by omega)
    have qn : decide (8 < n) = false := decide_eq_false h8
    have HV : Hid (setsB l = !(!l.all smallB)) := Lib.hid (by unfold setsB; rw [HL.out, decide_eq_true (by omega)]; simp)
    obtain ⟨b, hb⟩ : ∃ b, (!l.all smallB) = b := ⟨_, rfl⟩
    rw [hb] at HC HV
    clear h8 hb
    go_enter Tryd.func15, Tryd.ntmps15
    go_wp2_with fail
    refine HC.out.mono ?_
    rintro e w1 ⟨rfl, rfl⟩
    go_wp2_with fail
    go_ret
    exact ⟨by rw [HV.out]; rfl, rfl⟩

set_option maxRecDepth 100000 in
set_option maxHeartbeats 4000000 in
theorem rmasks_any (A : Option Addr) (n c : Nat) (l : List Int) (w : World) (hG : SW w A n l) :
    Calls Tryd.prog 18 #[.slice A n c] w fun e w' => e = .returned (.bool (setsB l)) ∧ w = w' := by
  have HG := Lib.hid hG
  have HL := Lib.hid hG.len
  have n9 : n ≤ 1000 := hG.small
  have HN := Lib.hid (fun (s : Int) (u : World) => rright_any s u)
  clear hG
  go_enter Tryd.func18, Tryd.ntmps18
  go_wp2_with fail
  go_loop [7] (fun iv => ∃ k : Nat, k ≤ n ∧ iv = .int .i64 (k : Int) ∧ Hid (∀ y ∈ l.take k, smallB y = true)) (fun iv => n - (intOf iv).toNat)
  case atStart => exact ⟨0, by omega, rfl, Lib.hid (by simp)⟩
  case round =>
    obtain ⟨k, hk, rfl, HA⟩ := hrel
    by_cases hlt : k < n
    · obtain ⟨s, hx⟩ := elem_at (l := l) (k := k) (by rw [HL.out]; exact hlt)
      obtain ⟨ad, rfl, _, d0⟩ := HG.out.at_ hx
      have HX := Lib.hid hx
      have HNs := Lib.hid (HN.out s w)
      have hsd : decide (s < 256) = smallB s := rfl
      rw [hsd] at HNs
      have i1 : (0 : Int) ≤ (k : Int) := by omega
      have i2 : (k : Int) < (n : Int) := by omega
      have l1 : decide ((k : Int) < (n : Int)) = true := decide_eq_true i2
      clear hx hsd
      cases hs : smallB s with
      | false =>
        rw [hs] at HNs
        have HV : Hid (setsB l = false) := Lib.hid (by
          unfold setsB
          rw [show l.all smallB = false by rw [List.all_eq_false]; exact ⟨s, List.mem_of_getElem? HX.out, by rw [hs]; simp⟩, Bool.and_false])
        clear hs
        go_wp2_with fail
        refine HNs.out.mono ?_
        rintro e w1 ⟨rfl, rfl⟩
        go_wp2_with fail
        go_ret
        exact ⟨by rw [HV.out]; rfl, rfl⟩
      | true =>
        rw [hs] at HNs
        have HA2 := Lib.hid (takes_small HA.out HX.out hs)
        clear hs
        go_wp2_with fail
        refine HNs.out.mono ?_
        rintro e w1 ⟨rfl, rfl⟩
        go_wp2_with fail
        go_round
        case rel => exact ⟨k + 1, by omega, by go_num, HA2⟩
        case measure => simp [intOf] <;> omega
    · obtain rfl : n = k := by omega
      have l1 : decide ((n : Int) < (n : Int)) = false := decide_eq_false (by omega)
      have HV : Hid (setsB l = decide ((n : Int) ≤ 8)) := Lib.hid (by
        have h := HA.out
        rw [← HL.out, List.take_length] at h
        unfold setsB
        rw [show l.all smallB = true from List.all_eq_true.2 h, Bool.and_true, HL.out]
        by_cases h8 : n ≤ 8
        · rw [decide_eq_true h8, decide_eq_true (by omega)]
        · rw [decide_eq_false h8, decide_eq_false (by omega)])
      have HV2 : Hid (setsB l = decide (n ≤ 8)) := Lib.hid (by rw [HV.out]; by_cases h8 : n ≤ 8 <;> simp [h8] <;> omega)
      go_wp2_with fail
      go_ret
      exact ⟨by first | (rw [HV.out]; rfl) | (rw [HV2.out]; rfl), rfl⟩

end Go.Proofs.YtkbgpmgnkegipaaDoor
