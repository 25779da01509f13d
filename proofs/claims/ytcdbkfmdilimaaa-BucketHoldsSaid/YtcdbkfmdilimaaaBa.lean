/-
  The landed bucket: words, and the small calls (granted, depth, used, behind, upTo, filled, uncapped, some, inBounds). No statement is proved here.
-/
import Derived.Test.YtcdbkfmdilimaaaBl
import Derived.Lib.Hide
import Derived.Deep.RegionLaw
import Derived.Deep.DeepCutAuto
import Derived.Deep.CutBlock
import Derived.Deep.RegionHeld3
import Derived.BigQuiet
import Derived.Deep.QuietTactic
import Derived.RegionTactic
import Derived.OwnWalk
import Derived.WalkSpells
import Derived.WalkLawsBesides
import Derived.Deep.OwnRows
import Derived.Deep.AppendLies
namespace Go.Proofs.Ytcdbkfmdilimaaa
open Go.RowKit

theorem retB {a b : Bool} (h : a = b) : Ending.returned (.bool a) = .returned (.bool b) := by rw [h]
theorem retI {k : IntKind} {a b : Int} (h : a = b) : Ending.returned (.int k a) = .returned (.int k b) := by rw [h]
/-- a value; what was there has not turned -/
def Said (v : Value) (w : World) (e : Ending) (w' : World) : Prop := e = .returned v ∧ Below w.heap.size w w'
theorem box1 (w : World) (t : TypeId) (cs : Array Value) : Blk (w.alloc (.cells cs t)) w.heap.size t cs ∧ Below w.heap.size w (w.alloc (.cells cs t)) := ⟨Blk.new _ _ _, (Below.refl _ _).alloc (Nat.le_refl _) _⟩
theorem elem_at {α : Type} {l : List α} {k : Nat} (h : k < l.length) : ∃ x, l[k]? = some x := ⟨_, List.getElem?_eq_getElem h⟩

set_option maxRecDepth 100000 in
set_option maxHeartbeats 400000 in
theorem granted_any (p d : Int) (w : World) : Calls Try.prog 31 #[.int .i64 p, .int .i64 d] w fun e w' => e = .returned (.int .i64 (wrap64 (p * d))) ∧ w = w' := by
  go_enter Try.func31, Try.ntmps31
  go_wp2
  go_ret
  exact ⟨rfl, rfl⟩

set_option maxRecDepth 100000 in
set_option maxHeartbeats 400000 in
theorem depth_any (p : Int) (w : World) : Calls Try.prog 28 #[.int .i64 p] w fun e w' => e = .returned (.int .i64 (wrap64 (p * 100000000))) ∧ w = w' := by
  have HG := Lib.hid (fun u => granted_any p 100000000 u)
  go_enter Try.func28, Try.ntmps28
  go_wp2_with fail
  refine (HG.out _).mono ?_
  rintro e w1 ⟨rfl, rfl⟩
  go_wp2
  go_ret
  exact ⟨rfl, rfl⟩

set_option maxRecDepth 100000 in
set_option maxHeartbeats 400000 in
theorem used_any (n d : Int) (w : World) : Calls Try.prog 32 #[.int .i64 n, .int .i64 d] w fun e w' => e = .returned (.int .i64 (wrap64 (wrap64 (100 * n) * d))) ∧ w = w' := by
  go_enter Try.func32, Try.ntmps32
  go_wp2
  go_ret
  exact ⟨rfl, rfl⟩

set_option maxRecDepth 100000 in
set_option maxHeartbeats 400000 in
theorem behind_any (t p d n : Int) (w : World) : Calls Try.prog 26 #[.int .i64 t, .int .i64 p, .int .i64 d, .int .i64 n] w fun e w' => e = .returned (.int .i64 (wrap64 (wrap64 (t + wrap64 (p * d)) - wrap64 (wrap64 (100 * n) * d)))) ∧ w = w' := by
  have HG := Lib.hid (fun u => granted_any p d u)
  have HU := Lib.hid (fun u => used_any n d u)
  obtain ⟨a, ha⟩ : ∃ a, wrap64 (p * d) = a := ⟨_, rfl⟩
  obtain ⟨b, hb⟩ : ∃ b, wrap64 (wrap64 (100 * n) * d) = b := ⟨_, rfl⟩
  rw [ha] at HG ⊢
  rw [hb] at HU ⊢
  clear ha hb
  go_enter Try.func26, Try.ntmps26
  go_wp2_with fail
  refine (HG.out _).mono ?_
  rintro e w1 ⟨rfl, rfl⟩
  go_wp2_with fail
  refine (HU.out _).mono ?_
  rintro e w1 ⟨rfl, rfl⟩
  go_wp2
  go_ret
  exact ⟨rfl, rfl⟩

def minT (t m : Int) : Int := if t < m then t else m
set_option maxRecDepth 100000 in
set_option maxHeartbeats 400000 in
theorem upto_any (t m : Int) (w : World) : Calls Try.prog 27 #[.int .i64 t, .int .i64 m] w fun e w' => e = .returned (.int .i64 (minT t m)) ∧ w = w' := by
  by_cases h : m < t
  · have HV : Hid (minT t m = m) := Lib.hid (by unfold minT; rw [if_neg (by omega)])
    go_enter Try.func27, Try.ntmps27
    go_wp2
    go_ret
    exact ⟨retI HV.out.symm, rfl⟩
  · have HV : Hid (minT t m = t) := Lib.hid (by unfold minT; split <;> omega)
    go_enter Try.func27, Try.ntmps27
    go_wp2
    go_ret
    exact ⟨retI HV.out.symm, rfl⟩

set_option maxRecDepth 100000 in
set_option maxHeartbeats 400000 in
theorem some_any (t : Int) (w : World) : Calls Try.prog 29 #[.int .i64 t] w fun e w' => e = .returned (.bool (decide (0 < t))) ∧ w = w' := by
  go_enter Try.func29, Try.ntmps29
  go_wp2
  go_ret
  exact ⟨rfl, rfl⟩

set_option maxRecDepth 100000 in
set_option maxHeartbeats 1000000 in
theorem filled_any (p t : Int) (w : World) : Calls Try.prog 25 #[.int .i64 p, .func (.func 27) #[.int .i64 t] #[]] w (Said (.agg #[.int .i64 p, .int .i64 (minT t (wrap64 (p * 100000000)))]) w) := by
  have HD := Lib.hid (fun u => depth_any p u)
  obtain ⟨m, hm⟩ : ∃ m, wrap64 (p * 100000000) = m := ⟨_, rfl⟩
  rw [hm] at HD ⊢
  have HU := Lib.hid (fun u => upto_any t m u)
  obtain ⟨x, hx⟩ : ∃ x, minT t m = x := ⟨_, rfl⟩
  rw [hx] at HU ⊢
  clear hm hx
  go_enter Try.func25, Try.ntmps25
  go_wp2_with fail
  refine (HD.out _).mono ?_
  rintro e w1 ⟨rfl, rfl⟩
  go_wp2_with fail
  refine (HU.out _).mono ?_
  rintro e w1 ⟨rfl, rfl⟩
  go_wp2
  exact bodyPost_ret (v := .agg #[.int .i64 p, .int .i64 x]) (by simp [results, Try.results25, go_sem]) rfl ⟨rfl, ((Below.refl _ _).alloc (Nat.le_refl _) _)⟩

set_option maxRecDepth 100000 in
set_option maxHeartbeats 1000000 in
theorem uncapped_any (c t : Int) (w : World) : Calls Try.prog 24 #[.agg #[.int .i64 c, .int .i64 t]] w (Said (.bool (c == 0 && t == 0)) w) := by
  by_cases h1 : c = 0
  · by_cases h2 : t = 0
    · have H : Hid ((c == 0 && t == 0) = true) := Lib.hid (by simp [h1, h2])
      have c1 : (c == 0) = true := by simp [h1]
      have c2 : (t == 0) = true := by simp [h2]
      clear h1 h2
      go_enter Try.func24, Try.ntmps24
      go_wp2
      go_ret
      exact ⟨retB H.out.symm, (Below.refl _ _).alloc (Nat.le_refl _) _⟩
    · have H : Hid ((c == 0 && t == 0) = false) := Lib.hid (by simp [h2])
      have c1 : (c == 0) = true := by simp [h1]
      have c2 : (t == 0) = false := by simp [h2]
      clear h1 h2
      go_enter Try.func24, Try.ntmps24
      go_wp2
      go_ret
      exact ⟨retB H.out.symm, (Below.refl _ _).alloc (Nat.le_refl _) _⟩
  · have H : Hid ((c == 0 && t == 0) = false) := Lib.hid (by simp [h1])
    have c1 : (c == 0) = false := by simp [h1]
    clear h1
    go_enter Try.func24, Try.ntmps24
    go_wp2
    go_ret
    exact ⟨retB H.out.symm, (Below.refl _ _).alloc (Nat.le_refl _) _⟩

/-! ### limits -/
abbrev Lim := Int × Int × Int
def inL (x : Lim) : Bool := !(decide (x.1 < x.2.1) || decide (x.2.2 < x.1))
def Lrow (w : World) (g : Nat) (l : List Lim) : Prop := g < w.heap.size ∧ ∀ (k : Nat) (a b c : Int), l[k]? = some (a, b, c) → w.cell? ⟨g, k * 3, none⟩ = some (.int .i64 a) ∧ w.cell? ⟨g, k * 3 + 1, none⟩ = some (.int .i64 b) ∧ w.cell? ⟨g, k * 3 + 2, none⟩ = some (.int .i64 c)
theorem Lrow.below {w w' : World} {B : Nat} {g : Nat} {l : List Lim} (h : Lrow w g l) (hb : Below B w w') (hg : g < B) : Lrow w' g l := ⟨Nat.lt_of_lt_of_le h.1 hb.size, fun k a b c hk => by
  obtain ⟨c0, c1, c2⟩ := h.2 k a b c hk
  exact ⟨(hb.cell (p := ⟨g, k * 3, none⟩) hg).trans c0, (hb.cell (p := ⟨g, k * 3 + 1, none⟩) hg).trans c1, (hb.cell (p := ⟨g, k * 3 + 2, none⟩) hg).trans c2⟩⟩
theorem all_stepL {l : List Lim} {k : Nat} {x : Lim} (hk : l[k]? = some x) (h : inL x = true) (ht : (l.take k).all inL = true) : (l.take (k + 1)).all inL = true := by
  rw [List.take_add_one, hk, List.all_append, ht]
  simp [h]
theorem all_noL {l : List Lim} {k : Nat} {x : Lim} (hk : l[k]? = some x) (h : inL x = false) : l.all inL = false := by
  rw [List.all_eq_false]
  exact ⟨x, List.mem_of_getElem? hk, by simp [h]⟩

set_option maxRecDepth 100000 in
set_option maxHeartbeats 4000000 in
theorem inb_any (g n c : Nat) (l : List Lim) (w : World) (hl : l.length = n) (hn : n ≤ 10) (hr : Lrow w g l) :
    Calls Try.prog 23 #[.slice (some ⟨g, 0, none⟩) n c] w (Said (.bool (l.all inL)) w) := by
  have HR := Lib.hid hr
  have HL := Lib.hid hl
  clear hr hl
  go_enter Try.func23, Try.ntmps23
  go_wp2_with fail
  go_loopw [7] (fun i wr => ∃ k : Nat, k ≤ n ∧ i = .int .i64 k ∧ Hid ((l.take k).all inL = true) ∧ Below w.heap.size w wr) (fun i _ => n - (intOf i).toNat)
  case atStart => exact ⟨0, by omega, rfl, Lib.hid (by rw [List.take_zero]; rfl), Below.refl _ _⟩
  case round =>
    obtain ⟨k, hk, rfl, HA, hB⟩ := hrel
    by_cases hlt : k < n
    · obtain ⟨⟨a, b, x⟩, hm⟩ := elem_at (l := l) (k := k) (by rw [HL.out]; exact hlt)
      obtain ⟨d0, d1, d2⟩ := (HR.out.below hB HR.out.1).2 k a b x hm
      have HM := Lib.hid hm
      have hsz := hB.size
      clear hm
      by_cases h1 : a < b
      · have HV := Lib.hid (all_noL HM.out (by unfold inL; simp [h1]))
        have c1 : decide (a < b) = true := by simp [h1]
        clear h1
        go_wp2
        go_ret
        exact ⟨retB HV.out.symm, hB.alloc hsz _⟩
      · have c1 : decide (a < b) = false := by simp; omega
        by_cases h2 : x < a
        · have HV := Lib.hid (all_noL HM.out (by unfold inL; simp [h2]))
          have c2 : decide (x < a) = true := by simp [h2]
          clear h1 h2
          go_wp2
          go_ret
          exact ⟨retB HV.out.symm, hB.alloc hsz _⟩
        · have c2 : decide (x < a) = false := by simp; omega
          have HS := Lib.hid (all_stepL HM.out (by unfold inL; simp [h1, h2]) HA.out)
          clear h1 h2
          go_wp2
          go_roundw
          case rel => exact ⟨k + 1, by omega, by go_num, HS, hB.alloc hsz _⟩
          case measure => simp [intOf]; omega
    · obtain rfl : n = k := by omega
      have HV : Hid (l.all inL = true) := Lib.hid (by
        have q := HA.out
        rwa [List.take_of_length_le (by rw [HL.out]; exact Nat.le_refl _)] at q)
      go_wp2
      go_ret
      exact ⟨retB HV.out.symm, hB⟩

end Go.Proofs.Ytcdbkfmdilimaaa
