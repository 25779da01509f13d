/-
  The document's gangs: SameInts, Get. No statement is proved here.
-/
import Derived.Test.YtglphgfaknofcaaKj
namespace Go.Proofs.Ytglphgfaknofcaa
open Go.RowKit Go.Maps

set_option maxRecDepth 100000 in
set_option maxHeartbeats 4000000 in
theorem sames_any (A : Option Addr) (n c : Nat) (is : List Int) (B : Option Addr) (m d : Nat) (js : List Int) (w : World) (h1 : IR w A n is) (h2 : IR w B m js) :
    Calls Try.prog 19 #[.slice A n c, .slice B m d] w (Said (.bool (decide (is = js))) w) := by
  have H1 := Lib.hid h1
  have H2 := Lib.hid h2
  have hl1 := h1.len
  have hl2 := h2.len
  have n9 := h1.small
  clear h1 h2
  by_cases hnm : n = m
  · subst hnm
    have q : ((n : Int) == (n : Int)) = true := by simp
    have HL := Lib.hid (And.intro hl1 hl2)
    clear hl1 hl2
    go_enter Try.func19, Try.ntmps19
    go_wp2_with fail
    go_loopw [13] (fun iv wr => ∃ k q : Nat, k ≤ n ∧ iv = .int .i64 (k : Int) ∧ Hid (is.take k = js.take k) ∧ wr = w.drewN q) (fun iv _ => n - (intOf iv).toNat)
    case atStart => exact ⟨0, 0, by omega, rfl, Lib.hid (by simp), rfl⟩
    case round =>
      obtain ⟨k, q, hk, rfl, HT, rfl⟩ := hrel
      by_cases hlt : k < n
      · obtain ⟨x, hx⟩ := elem_at (l := is) (k := k) (by rw [HL.out.1]; exact hlt)
        obtain ⟨y, hy⟩ := elem_at (l := js) (k := k) (by rw [HL.out.2]; exact hlt)
        obtain ⟨ad, rfl, _, d0⟩ := H1.out.at_ hx
        obtain ⟨ad', rfl, _, d1⟩ := H2.out.at_ hy
        have i1 : (0 : Int) ≤ (k : Int) := by omega
        have i2 : (k : Int) < (n : Int) := by omega
        by_cases hxy : x = y
        · subst hxy
          have v1 : (x == x) = true := by simp
          have HT2 : Hid (is.take (k + 1) = js.take (k + 1)) := Lib.hid (by rw [List.take_add_one, List.take_add_one, hx, hy, HT.out])
          clear hx hy
          go_wp2_with fail
          go_quiet (fail)
          go_wp2
          go_roundw
          case rel => exact ⟨k + 1, q + nq, by omega, by go_num, HT2, rfl⟩
          case measure => simp [intOf]; omega
        · have v1 : (x == y) = false := by simpa using hxy
          have HV : Hid (decide (is = js) = false) := Lib.hid (decide_eq_false (fun e => hxy (by rw [e, hy] at hx; exact (Option.some.inj hx).symm)))
          clear hx hy hxy
          go_wp2_with fail
          go_quiet (fail)
          go_wp2
          go_ret
          exact ⟨retB HV.out.symm, below_drewN (below_drewN (Below.refl _ _) _) _⟩
      · obtain rfl : k = n := by omega
        have HV : Hid (decide (is = js) = true) := Lib.hid (decide_eq_true (by have := HT.out; rwa [List.take_of_length_le (Nat.le_of_eq HL.out.1), List.take_of_length_le (Nat.le_of_eq HL.out.2)] at this))
        go_wp2
        go_ret
        exact ⟨retB HV.out.symm, below_drewN (Below.refl _ _) _⟩
  · have q : ((n : Int) == (m : Int)) = false := by simp; omega
    have HV : Hid (decide (is = js) = false) := Lib.hid (decide_eq_false (fun e => hnm (by rw [← hl1, ← hl2, e])))
    clear hl1 hl2 hnm
    go_enter Try.func19, Try.ntmps19
    go_wp2_with fail
    go_ret
    exact ⟨retB HV.out.symm, Below.refl _ _⟩

/-- the document's Get: the slice of the first gang of that Id, as it lies -/
def dgetV (gs : List Gn) (v : Int) : Value := match gs.find? (fun g => g.1 == v) with
  | none => .slice none 0 0
  | some g => .slice g.2.1 g.2.2.1 g.2.2.2.1
theorem find_fromN {p : Gn → Bool} {l : List Gn} {k : Nat} {g : Gn} (hk : l[k]? = some g) (hn : ∀ y ∈ l.take k, p y = false) : (p g = true → l.find? p = some g) := by
  intro hp
  have e : l = l.take k ++ g :: l.drop (k + 1) := by rw [← drop_cons hk, List.take_append_drop]
  rw [e, List.find?_append, List.find?_eq_none.2 (fun y hy => by rw [hn y hy]; simp), Option.none_or, List.find?_cons_of_pos hp]

set_option maxRecDepth 100000 in
set_option maxHeartbeats 4000000 in
theorem dget_any (A : Option Addr) (n c : Nat) (gs : List Gn) (v : Int) (w : World) (hG : NW w A n gs) :
    Calls Try.prog 21 #[.agg #[.slice A n c], .int .i64 v] w (Said (dgetV gs v) w) := by
  obtain ⟨K0, GB⟩ := box1 w 24 #[.slice A n c]
  have HG := Lib.hid hG
  have n9 : n ≤ 100 := hG.small
  have HL := Lib.hid hG.len
  have c0 := K0.cell 0
  have HGB := Lib.hid GB
  clear hG K0 GB
  go_enter Try.func21, Try.ntmps21
  go_wp2_with fail
  clear c0
  generalize w.alloc (.cells #[.slice A n c] 24) = w0 at *
  go_loopw [10] (fun iv wr => ∃ k : Nat, k ≤ n ∧ iv = .int .i64 (k : Int) ∧ Hid (∀ y ∈ gs.take k, (y.1 == v) = false) ∧ Below w.heap.size w wr) (fun iv _ => n - (intOf iv).toNat)
  case atStart => exact ⟨0, by omega, rfl, Lib.hid (by simp), HGB.out⟩
  case round =>
    obtain ⟨k, hk, rfl, HA, hB⟩ := hrel
    by_cases hlt : k < n
    · obtain ⟨⟨id, A2, m, c2, is⟩, hx⟩ := elem_at (l := gs) (k := k) (by rw [HL.out]; exact hlt)
      obtain ⟨ad, rfl, _, d0, d1⟩ := (HG.out.below hB).at_ hx
      have DA := (Below.refl wr.heap.size wr).alloc (Nat.le_refl _) (.cells #[.int .i64 id, .slice A2 m c2] 36)
      have KX := Blk.new wr 36 #[.int .i64 id, .slice A2 m c2]
      have x0 := KX.cell 0
      have x1 := KX.cell 1
      have HB2 := Lib.hid (hB.trans (DA.mono hB.size))
      have HFF := Lib.hid (find_fromN (p := fun g => g.1 == v) hx HA.out)
      have HTA := Lib.hid (fun h => take_all (p := fun g : Gn => g.1 == v) HA.out hx h)
      have i1 : (0 : Int) ≤ (k : Int) := by omega
      have i2 : (k : Int) < (n : Int) := by omega
      clear hx hB DA KX
      cases hv : (id == v) with
      | true =>
        have HV : Hid (dgetV gs v = .slice A2 m c2) := Lib.hid (by unfold dgetV; rw [HFF.out hv])
        go_wp2_with fail
        go_ret
        rw [HV.out]
        exact ⟨rfl, HB2.out⟩
      | false =>
        have HA2 := Lib.hid (HTA.out hv)
        go_wp2_with fail
        go_roundw
        case rel => exact ⟨k + 1, by omega, by go_num, HA2, HB2.out⟩
        case measure => simp [intOf]; omega
    · obtain rfl : k = n := by omega
      have HV : Hid (dgetV gs v = .slice none 0 0) := Lib.hid (by
        have h := HA.out
        rw [List.take_of_length_le (by rw [HL.out]; exact Nat.le_refl _)] at h
        unfold dgetV
        rw [List.find?_eq_none.2 (fun y hy => by rw [h y hy]; simp)])
      go_wp2
      go_ret
      rw [HV.out]
      exact ⟨rfl, hB⟩

end Go.Proofs.Ytglphgfaknofcaa
