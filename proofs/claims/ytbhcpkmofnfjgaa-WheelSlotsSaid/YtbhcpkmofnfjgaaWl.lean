/-
  The landed wheel: Same; the document's SameTimers, Same. No statement is proved here.
-/
import Derived.Test.YtbhcpkmofnfjgaaWb
namespace Go.Proofs.Ytbhcpkmofnfjgaa
open Go.RowKit

def sameT (l m : List Tm) : Bool := decide (l = m)
def sameW (a : Int) (l : List Tm) (b : Int) (m : List Tm) : Bool := decide (a = b) && decide (l = m)
theorem sameT_no {l m : List Tm} {k : Nat} {x y : Tm} (h : l[k]? = some x) (h' : m[k]? = some y) (hs : x ≠ y) : sameT l m = false := decide_eq_false (fun e => by subst e; rw [h] at h'; injection h' with h'; exact hs h')
theorem take_sameT {l m : List Tm} {k : Nat} {x : Tm} (h : l[k]? = some x) (h' : m[k]? = some x) (ht : l.take k = m.take k) : l.take (k + 1) = m.take (k + 1) := by
  rw [List.take_add_one, List.take_add_one, h, h', ht]
theorem sameT_yes {l m : List Tm} {n : Nat} (hl : l.length = n) (hm : m.length = n) (ht : l.take n = m.take n) : sameT l m = true := decide_eq_true (by
  rw [List.take_of_length_le (by omega), List.take_of_length_le (by omega)] at ht
  exact ht)

set_option maxRecDepth 100000 in
set_option maxHeartbeats 4000000 in
theorem tequal_any (A A' : Option Addr) (n c n' c' : Nat) (l m : List Tm) (w : World) (hR : Reads w w.heap.size 2 A n (flat tv l)) (hR' : Reads w w.heap.size 2 A' n' (flat tv m)) (hn : n ≤ maxLen) :
    Calls Try.prog 39 #[.slice A n c, .slice A' n' c'] w (Said (.bool (sameT l m)) w) := by
  unfold maxLen at hn
  have hl := tms_len hR
  have hl' := tms_len hR'
  by_cases hnn : n = n'
  · have g : ((n : Int) != (n' : Int)) = false := by simp; omega
    have HL := Lib.hid hl
    have HL' : Hid (m.length = n) := Lib.hid (by omega)
    have HR := Lib.hid hR
    have HR' := Lib.hid hR'
    have HN : Hid (n = n') := Lib.hid hnn
    clear hl hl' hR hR' hnn
    go_enter Try.func39, Try.ntmps39
    go_wp2_with fail
    go_loopw [13] (fun i wr => ∃ k : Nat, k ≤ n ∧ i = .int .i64 (k : Int) ∧ Hid (l.take k = m.take k) ∧ Below w.heap.size w wr) (fun i _ => n - (intOf i).toNat)
    case atStart => exact ⟨0, by omega, rfl, Lib.hid (by rw [List.take_zero, List.take_zero]), Below.refl _ _⟩
    case round =>
      obtain ⟨k, hk, rfl, HA, hB⟩ := hrel
      by_cases hlt : k < n
      · obtain ⟨⟨x, y⟩, hm⟩ := elem_at (l := l) (k := k) (by rw [HL.out]; exact hlt)
        obtain ⟨⟨p, q⟩, hm'⟩ := elem_at (l := m) (k := k) (by rw [HL'.out]; exact hlt)
        obtain ⟨ad, rfl, hb1, c0, c1⟩ := tm_at (HR.out.below hB) hm
        obtain ⟨ad', rfl, hb2, d0, d1⟩ := tm_at (HR'.out.below hB) hm'
        have i1 : (0 : Int) ≤ (k : Int) := by omega
        have i2 : (k : Int) < (n : Int) := by omega
        have i3 : (k : Int) < (n' : Int) := by have := HN.out; omega
        have l1 : decide ((k : Int) < (n : Int)) = true := decide_eq_true i2
        have HM := Lib.hid hm
        have HM' := Lib.hid hm'
        have hsz := hB.size
        clear hm hm' hb1 hb2
        by_cases hs : (x, y) = (p, q)
        · obtain ⟨rfl, rfl⟩ := Prod.mk.inj hs
          have HS := Lib.hid (take_sameT HM.out HM'.out HA.out)
          clear hs
          go_wp2_with fail
          go_quiet (fail)
          go_wp2
          go_roundw
          case rel => exact ⟨k + 1, by omega, by go_num, HS, below_drewN hB _⟩
          case measure => simp [intOf] <;> omega
        · have HV := Lib.hid (sameT_no HM.out HM'.out hs)
          by_cases hx : x = p
          · subst hx
            have g2 : (y == q) = false := by
              have : y ≠ q := fun h => hs (by rw [h])
              simpa using this
            clear hs
            go_wp2_with fail
            go_quiet (fail)
            go_wp2
            go_ret
            exact ⟨retB HV.out.symm, below_drewN hB _⟩
          · have g2 : (x == p) = false := by simpa using hx
            clear hs hx
            go_wp2_with fail
            go_quiet (fail)
            go_wp2
            go_ret
            exact ⟨retB HV.out.symm, below_drewN hB _⟩
      · obtain rfl : k = n := by omega
        have l1 : decide ((k : Int) < (k : Int)) = false := decide_eq_false (by omega)
        have HV := Lib.hid (sameT_yes HL.out HL'.out HA.out)
        go_wp2
        go_ret
        exact ⟨retB HV.out.symm, hB⟩
  · have g : ((n : Int) != (n' : Int)) = true := by simp; omega
    have HV : Hid (sameT l m = false) := Lib.hid (decide_eq_false (fun e => by subst e; omega))
    clear hl hl' hR hR' hnn
    go_enter Try.func39, Try.ntmps39
    go_wp2
    go_ret
    exact ⟨retB HV.out.symm, Below.refl _ _⟩

set_option maxRecDepth 100000 in
set_option maxHeartbeats 4000000 in
theorem rtimers_any (A A' : Option Addr) (n c n' c' : Nat) (l m : List Tm) (w : World) (hR : Reads w w.heap.size 2 A n (flat tv l)) (hR' : Reads w w.heap.size 2 A' n' (flat tv m)) (hn : n ≤ maxLen) :
    Calls Try.prog 22 #[.slice A n c, .slice A' n' c'] w (Said (.bool (sameT l m)) w) := by
  unfold maxLen at hn
  have hl := tms_len hR
  have hl' := tms_len hR'
  by_cases hnn : n = n'
  · have g : ((n : Int) != (n' : Int)) = false := by simp; omega
    have HL := Lib.hid hl
    have HL' : Hid (m.length = n) := Lib.hid (by omega)
    have HR := Lib.hid hR
    have HR' := Lib.hid hR'
    have HN : Hid (n = n') := Lib.hid hnn
    clear hl hl' hR hR' hnn
    go_enter Try.func22, Try.ntmps22
    go_wp2_with fail
    go_loopw [5] (fun i wr => ∃ k : Nat, k ≤ n ∧ i = .int .i64 (k : Int) ∧ Hid (l.take k = m.take k) ∧ Below w.heap.size w wr) (fun i _ => n - (intOf i).toNat)
    case atStart => exact ⟨0, by omega, rfl, Lib.hid (by rw [List.take_zero, List.take_zero]), Below.refl _ _⟩
    case round =>
      obtain ⟨k, hk, rfl, HA, hB⟩ := hrel
      by_cases hlt : k < n
      · obtain ⟨⟨x, y⟩, hm⟩ := elem_at (l := l) (k := k) (by rw [HL.out]; exact hlt)
        obtain ⟨⟨p, q⟩, hm'⟩ := elem_at (l := m) (k := k) (by rw [HL'.out]; exact hlt)
        obtain ⟨ad, rfl, hb1, c0, c1⟩ := tm_at (HR.out.below hB) hm
        obtain ⟨ad', rfl, hb2, d0, d1⟩ := tm_at (HR'.out.below hB) hm'
        have i1 : (0 : Int) ≤ (k : Int) := by omega
        have i2 : (k : Int) < (n : Int) := by omega
        have i3 : (k : Int) < (n' : Int) := by have := HN.out; omega
        have l1 : decide ((k : Int) < (n : Int)) = true := decide_eq_true i2
        have HM := Lib.hid hm
        have HM' := Lib.hid hm'
        have hsz := hB.size
        clear hm hm' hb1 hb2
        by_cases hs : (x, y) = (p, q)
        · obtain ⟨rfl, rfl⟩ := Prod.mk.inj hs
          have HS := Lib.hid (take_sameT HM.out HM'.out HA.out)
          clear hs
          go_wp2_with fail
          go_quiet (fail)
          go_wp2
          go_roundw
          case rel => exact ⟨k + 1, by omega, by go_num, HS, below_drewN hB _⟩
          case measure => simp [intOf] <;> omega
        · have HV := Lib.hid (sameT_no HM.out HM'.out hs)
          by_cases hx : x = p
          · subst hx
            have g2 : (y == q) = false := by
              have : y ≠ q := fun h => hs (by rw [h])
              simpa using this
            clear hs
            go_wp2_with fail
            go_quiet (fail)
            go_wp2
            go_ret
            exact ⟨retB HV.out.symm, below_drewN hB _⟩
          · have g2 : (x == p) = false := by simpa using hx
            clear hs hx
            go_wp2_with fail
            go_quiet (fail)
            go_wp2
            go_ret
            exact ⟨retB HV.out.symm, below_drewN hB _⟩
      · obtain rfl : k = n := by omega
        have l1 : decide ((k : Int) < (k : Int)) = false := decide_eq_false (by omega)
        have HV := Lib.hid (sameT_yes HL.out HL'.out HA.out)
        go_wp2
        go_ret
        exact ⟨retB HV.out.symm, hB⟩
  · have g : ((n : Int) != (n' : Int)) = true := by simp; omega
    have HV : Hid (sameT l m = false) := Lib.hid (decide_eq_false (fun e => by subst e; omega))
    clear hl hl' hR hR' hnn
    go_enter Try.func22, Try.ntmps22
    go_wp2
    go_ret
    exact ⟨retB HV.out.symm, Below.refl _ _⟩

set_option maxRecDepth 100000 in
set_option maxHeartbeats 2000000 in
theorem same_any (now now' : Int) (A A' : Option Addr) (n c n' c' : Nat) (l m : List Tm) (w : World) (hR : WR w A n l) (hR' : WR w A' n' m) :
    Calls Try.prog 24 #[.agg #[.int .i64 now, .slice A n c], .agg #[.int .i64 now', .slice A' n' c']] w (Said (.bool (sameW now l now' m)) w) := by
  obtain ⟨K0, K1, GB⟩ := blks2 w 24 24 #[.int .i64 now, .slice A n c] #[.int .i64 now', .slice A' n' c']
  have HE := Lib.hid (fun (u : World) (h : Below w.heap.size w u) => tequal_any A A' n c n' c' l m u (hR.below h).row (hR'.below h).row (by have := hR.small; unfold maxLen; omega))
  have HV : Hid (sameW now l now' m = (decide (now = now') && sameT l m)) := Lib.hid rfl
  have z0 := K0.cell 0
  have z1 := K0.cell 1
  have y0 := K1.cell 0
  have y1 := K1.cell 1
  clear hR hR'
  by_cases h : now = now'
  · subst h
    have HV2 : Hid (sameW now l now m = sameT l m) := Lib.hid (by rw [HV.out]; simp)
    have g : (now == now) = true := by simp
    go_enter Try.func24, Try.ntmps24
    go_wp2_with fail
    refine (HE.out _ GB).mono ?_
    rintro e w1 ⟨rfl, h9⟩
    replace GB := GB.trans (h9.mono GB.size)
    clear h9 z0 z1 y0 y1 K0 K1
    go_wp2
    go_ret
    exact ⟨retB HV2.out.symm, GB⟩
  · have HV2 : Hid (sameW now l now' m = false) := Lib.hid (by rw [HV.out, decide_eq_false h]; rfl)
    have g : (now == now') = false := by simpa using h
    clear h
    go_enter Try.func24, Try.ntmps24
    go_wp2
    go_ret
    exact ⟨retB HV2.out.symm, GB⟩

set_option maxRecDepth 100000 in
set_option maxHeartbeats 2000000 in
theorem rsame_any (now now' : Int) (A A' : Option Addr) (n c n' c' : Nat) (l m : List Tm) (w : World) (hR : WR w A n l) (hR' : WR w A' n' m) :
    Calls Try.prog 13 #[.agg #[.int .i64 now, .slice A n c], .agg #[.int .i64 now', .slice A' n' c']] w (Said (.bool (sameW now l now' m)) w) := by
  obtain ⟨K0, K1, GB⟩ := blks2 w 24 24 #[.int .i64 now, .slice A n c] #[.int .i64 now', .slice A' n' c']
  have HE := Lib.hid (fun (u : World) (h : Below w.heap.size w u) => rtimers_any A A' n c n' c' l m u (hR.below h).row (hR'.below h).row (by have := hR.small; unfold maxLen; omega))
  have HV : Hid (sameW now l now' m = (decide (now = now') && sameT l m)) := Lib.hid rfl
  have z0 := K0.cell 0
  have z1 := K0.cell 1
  have y0 := K1.cell 0
  have y1 := K1.cell 1
  clear hR hR'
  by_cases h : now = now'
  · subst h
    have HV2 : Hid (sameW now l now m = sameT l m) := Lib.hid (by rw [HV.out]; simp)
    have g : (now == now) = true := by simp
    go_enter Try.func13, Try.ntmps13
    go_wp2_with fail
    refine (HE.out _ GB).mono ?_
    rintro e w1 ⟨rfl, h9⟩
    replace GB := GB.trans (h9.mono GB.size)
    clear h9 z0 z1 y0 y1 K0 K1
    go_wp2
    go_ret
    exact ⟨retB HV2.out.symm, GB⟩
  · have HV2 : Hid (sameW now l now' m = false) := Lib.hid (by rw [HV.out, decide_eq_false h]; rfl)
    have g : (now == now') = false := by simpa using h
    clear h
    go_enter Try.func13, Try.ntmps13
    go_wp2
    go_ret
    exact ⟨retB HV2.out.symm, GB⟩

end Go.Proofs.Ytbhcpkmofnfjgaa
