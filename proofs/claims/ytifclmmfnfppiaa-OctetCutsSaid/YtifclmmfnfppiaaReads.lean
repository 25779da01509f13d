/-
  The contract of the statements' reads: what is read next is the number, or nothing. No statement is proved here.
-/
import Derived.Test.YtifclmmfnfppiaaMixed
import Derived.Deep.RegionHeld3
namespace Go.Proofs.Ytifclmmfnfppiaa
open Go.RowKit

theorem box_rd {w : World} {p : Nat} {l : List UInt8} {st x z : Int} (h : Rd w p l st) : 
    ∀ w1, Below (w.alloc (.cells #[.int .u64 x, .int .i64 z] 53)).heap.size (w.alloc (.cells #[.int .u64 x, .int .i64 z] 53)) w1 →
      Rd w1 p l st ∧ w1.cell? ⟨w.heap.size, 0, none⟩ = some (.int .u64 x) ∧ w.grownBy w1 (some p) ∧ p < w.heap.size := fun w1 hB =>
  ⟨(h.alloc _).below hB (by have := h.lt; simp; omega), (hB.cell (p := ⟨w.heap.size, 0, none⟩) (by simp)).trans (by rw [World.cell?_alloc_at _ _ _ _ rfl]; rfl),
    only_of_below (((Below.refl _ _).alloc (Nat.le_refl _) _).trans (hB.mono (by simp))) _, h.lt⟩

set_option maxHeartbeats 1000000 in
theorem mreads_ok (x : Nat) (z : Int) (p : Nat) (l : List UInt8) (w : World) (hx : (x : Int) ≤ 18446744073709551615) (h : Rd w p l 0) (hn : wN z ≤ l.length) (he : num (l.take (wN z)) = x % 256 ^ wN z) :
    Calls Try.prog 30 #[.agg #[.int .u64 x, .int .i64 z], .pointer (some ⟨p, 0, none⟩)] w fun e w' => e = .returned (.bool true) ∧ Rd w' p (l.drop (wN z)) 0 ∧ w.grownBy w' (some p) := by
  have hbx := box_rd (x := x) (z := z) h
  rcases wN_cases z with ⟨h1, _⟩ | ⟨h1, _⟩ | ⟨h1, _⟩
  · have hw : ∀ u, Calls Try.prog 29 #[.agg #[.int .u64 x, .int .i64 z]] u fun e w' => e = .returned (.int .i64 2) ∧ Below u.heap.size u w' := fun u => width_any x z 2 u (by rw [h1]; rfl)
    have hr : ∀ u, Rd u p l 0 → Calls Try.prog 22 #[.pointer (some ⟨p, 0, none⟩)] u fun e w' => e = .returned (.int .u16 ((x : Int) % 65536)) ∧ Rd w' p (l.drop 2) 0 ∧ u.grownBy w' (some p) := fun u hu => by
      rw [h1] at hn he
      have e : ((x : Int) % 65536) = ((num (l.take 2) : Nat) : Int) := by rw [he]; simp
      rw [e]
      exact u16_ok p l u hu hn
    rw [h1]
    have heq : ((x : Int) % 65536 == IntKind.u16.wrap (x : Int)) = true := by simp [IntKind.wrap, IntKind.bits, IntKind.signed]
    have HW := Lib.hid hw
    have HR := Lib.hid hr
    have HB := Lib.hid hbx
    clear hw hr hbx hn he h h1
    go_enter Try.func30, Try.ntmps30
    go_wp2_with fail
    refine (HW.out _).mono ?_
    rintro e w1 ⟨rfl, hB1⟩
    obtain ⟨hR1, c0, hG1, hlt⟩ := HB.out w1 hB1
    clear hB1
    go_wp2_with fail
    go_region_held3 (fun w' => w'.cell? ⟨w.heap.size, 0, none⟩ = some (.int .u64 x))
      (first | exact c2 | exact c0 | go_keep)
      (first
        | (go_at_call 22; refine (HR.out w1.drew hR1).mono ?_; rintro e w2 ⟨rfl, hR2, hG2⟩; have c2 := hG2.cell (show w1.drew.cell? _ = _ from c0) (by simp; omega)))
    go_wp2
    go_ret
    exact ⟨rfl, hR2, grown_trans2 (only_drew hG1) hG2⟩
  · have hw : ∀ u, Calls Try.prog 29 #[.agg #[.int .u64 x, .int .i64 z]] u fun e w' => e = .returned (.int .i64 4) ∧ Below u.heap.size u w' := fun u => width_any x z 4 u (by rw [h1]; rfl)
    have hr : ∀ u, Rd u p l 0 → Calls Try.prog 23 #[.pointer (some ⟨p, 0, none⟩)] u fun e w' => e = .returned (.int .u32 ((x : Int) % 4294967296)) ∧ Rd w' p (l.drop 4) 0 ∧ u.grownBy w' (some p) := fun u hu => by
      rw [h1] at hn he
      have e : ((x : Int) % 4294967296) = ((num (l.take 4) : Nat) : Int) := by rw [he]; simp
      rw [e]
      exact u32_ok p l u hu hn
    rw [h1]
    have heq : ((x : Int) % 4294967296 == IntKind.u32.wrap (x : Int)) = true := by simp [IntKind.wrap, IntKind.bits, IntKind.signed]
    have HW := Lib.hid hw
    have HR := Lib.hid hr
    have HB := Lib.hid hbx
    clear hw hr hbx hn he h h1
    go_enter Try.func30, Try.ntmps30
    go_wp2_with fail
    refine (HW.out _).mono ?_
    rintro e w1 ⟨rfl, hB1⟩
    obtain ⟨hR1, c0, hG1, hlt⟩ := HB.out w1 hB1
    clear hB1
    go_wp2_with fail
    go_region_held3 (fun w' => w'.cell? ⟨w.heap.size, 0, none⟩ = some (.int .u64 x))
      (first | exact c2 | exact c0 | go_keep)
      (first
        | (go_at_call 23; refine (HR.out w1.drew hR1).mono ?_; rintro e w2 ⟨rfl, hR2, hG2⟩; have c2 := hG2.cell (show w1.drew.cell? _ = _ from c0) (by simp; omega)))
    go_wp2
    go_ret
    exact ⟨rfl, hR2, grown_trans2 (only_drew hG1) hG2⟩
  · have hw : ∀ u, Calls Try.prog 29 #[.agg #[.int .u64 x, .int .i64 z]] u fun e w' => e = .returned (.int .i64 8) ∧ Below u.heap.size u w' := fun u => width_any x z 8 u (by rw [h1]; rfl)
    have hr : ∀ u, Rd u p l 0 → Calls Try.prog 24 #[.pointer (some ⟨p, 0, none⟩)] u fun e w' => e = .returned (.int .u64 (x : Int)) ∧ Rd w' p (l.drop 8) 0 ∧ u.grownBy w' (some p) := fun u hu => by
      rw [h1] at hn he
      have e : (x : Int) = ((num (l.take 8) : Nat) : Int) := by rw [he]; rw [Nat.mod_eq_of_lt (by omega)]
      rw [e]
      exact u64_ok p l u hu hn
    rw [h1]
    have HW := Lib.hid hw
    have HR := Lib.hid hr
    have HB := Lib.hid hbx
    clear hw hr hbx hn he h h1
    go_enter Try.func30, Try.ntmps30
    go_wp2_with fail
    refine (HW.out _).mono ?_
    rintro e w1 ⟨rfl, hB1⟩
    obtain ⟨hR1, c0, hG1, hlt⟩ := HB.out w1 hB1
    clear hB1
    go_wp2_with fail
    go_region_held3 (fun w' => w'.cell? ⟨w.heap.size, 0, none⟩ = some (.int .u64 x))
      (first | exact c2 | exact c0 | go_keep)
      (first
        | (go_at_call 24; refine (HR.out w1.drew hR1).mono ?_; rintro e w2 ⟨rfl, hR2, hG2⟩; have c2 := hG2.cell (show w1.drew.cell? _ = _ from c0) (by simp; omega)))
    go_wp2
    go_ret
    exact ⟨rfl, hR2, grown_trans2 (only_drew hG1) hG2⟩

set_option maxHeartbeats 1000000 in
theorem mreads_bad (z : Int) (p : Nat) (l : List UInt8) (st st' : Int) (w : World) (h : Rd w p l st) (hb : Bad st l.length (wN z) st') :
    Calls Try.prog 30 #[.agg #[.int .u64 0, .int .i64 z], .pointer (some ⟨p, 0, none⟩)] w fun e w' => e = .returned (.bool true) ∧ Rd w' p l st' ∧ w.grownBy w' (some p) := by
  have hbx := box_rd (x := 0) (z := z) h
  rcases wN_cases z with ⟨h1, _⟩ | ⟨h1, _⟩ | ⟨h1, _⟩
  · have hw : ∀ u, Calls Try.prog 29 #[.agg #[.int .u64 0, .int .i64 z]] u fun e w' => e = .returned (.int .i64 2) ∧ Below u.heap.size u w' := fun u => width_any 0 z 2 u (by rw [h1]; rfl)
    have hr : ∀ u, Rd u p l st → Calls Try.prog 22 #[.pointer (some ⟨p, 0, none⟩)] u fun e w' => e = .returned (.int .u16 0) ∧ Rd w' p l st' ∧ u.grownBy w' (some p) := fun u hu => by
      rw [h1] at hb
      exact u16_bad p l st st' u hu hb
    have HW := Lib.hid hw
    have HR := Lib.hid hr
    have HB := Lib.hid hbx
    clear hw hr hbx hb h h1
    go_enter Try.func30, Try.ntmps30
    go_wp2_with fail
    refine (HW.out _).mono ?_
    rintro e w1 ⟨rfl, hB1⟩
    obtain ⟨hR1, c0, hG1, hlt⟩ := HB.out w1 hB1
    clear hB1
    go_wp2_with fail
    go_region_held3 (fun w' => w'.cell? ⟨w.heap.size, 0, none⟩ = some (.int .u64 0))
      (first | exact c2 | exact c0 | go_keep)
      (first
        | (go_at_call 22; refine (HR.out w1.drew hR1).mono ?_; rintro e w2 ⟨rfl, hR2, hG2⟩; have c2 := hG2.cell (show w1.drew.cell? _ = _ from c0) (by simp; omega)))
    go_wp2
    go_ret
    exact ⟨rfl, hR2, grown_trans2 (only_drew hG1) hG2⟩
  · have hw : ∀ u, Calls Try.prog 29 #[.agg #[.int .u64 0, .int .i64 z]] u fun e w' => e = .returned (.int .i64 4) ∧ Below u.heap.size u w' := fun u => width_any 0 z 4 u (by rw [h1]; rfl)
    have hr : ∀ u, Rd u p l st → Calls Try.prog 23 #[.pointer (some ⟨p, 0, none⟩)] u fun e w' => e = .returned (.int .u32 0) ∧ Rd w' p l st' ∧ u.grownBy w' (some p) := fun u hu => by
      rw [h1] at hb
      exact u32_bad p l st st' u hu hb
    have HW := Lib.hid hw
    have HR := Lib.hid hr
    have HB := Lib.hid hbx
    clear hw hr hbx hb h h1
    go_enter Try.func30, Try.ntmps30
    go_wp2_with fail
    refine (HW.out _).mono ?_
    rintro e w1 ⟨rfl, hB1⟩
    obtain ⟨hR1, c0, hG1, hlt⟩ := HB.out w1 hB1
    clear hB1
    go_wp2_with fail
    go_region_held3 (fun w' => w'.cell? ⟨w.heap.size, 0, none⟩ = some (.int .u64 0))
      (first | exact c2 | exact c0 | go_keep)
      (first
        | (go_at_call 23; refine (HR.out w1.drew hR1).mono ?_; rintro e w2 ⟨rfl, hR2, hG2⟩; have c2 := hG2.cell (show w1.drew.cell? _ = _ from c0) (by simp; omega)))
    go_wp2
    go_ret
    exact ⟨rfl, hR2, grown_trans2 (only_drew hG1) hG2⟩
  · have hw : ∀ u, Calls Try.prog 29 #[.agg #[.int .u64 0, .int .i64 z]] u fun e w' => e = .returned (.int .i64 8) ∧ Below u.heap.size u w' := fun u => width_any 0 z 8 u (by rw [h1]; rfl)
    have hr : ∀ u, Rd u p l st → Calls Try.prog 24 #[.pointer (some ⟨p, 0, none⟩)] u fun e w' => e = .returned (.int .u64 0) ∧ Rd w' p l st' ∧ u.grownBy w' (some p) := fun u hu => by
      rw [h1] at hb
      exact u64_bad p l st st' u hu hb
    have HW := Lib.hid hw
    have HR := Lib.hid hr
    have HB := Lib.hid hbx
    clear hw hr hbx hb h h1
    go_enter Try.func30, Try.ntmps30
    go_wp2_with fail
    refine (HW.out _).mono ?_
    rintro e w1 ⟨rfl, hB1⟩
    obtain ⟨hR1, c0, hG1, hlt⟩ := HB.out w1 hB1
    clear hB1
    go_wp2_with fail
    go_region_held3 (fun w' => w'.cell? ⟨w.heap.size, 0, none⟩ = some (.int .u64 0))
      (first | exact c2 | exact c0 | go_keep)
      (first
        | (go_at_call 24; refine (HR.out w1.drew hR1).mono ?_; rintro e w2 ⟨rfl, hR2, hG2⟩; have c2 := hG2.cell (show w1.drew.cell? _ = _ from c0) (by simp; omega)))
    go_wp2
    go_ret
    exact ⟨rfl, hR2, grown_trans2 (only_drew hG1) hG2⟩

end Go.Proofs.Ytifclmmfnfppiaa
