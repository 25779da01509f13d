/-
  The least number that no virtual CPU has (mathematics); the library's Search; the landed unadded. No statement is proved here.
-/
import Derived.Test.YtknimnopopnbhaaEo
namespace Go.Proofs.Ytknimnopopnbhaa
open Go.RowKit

/-- up to that place each number is one more than its place, behind it none is -/
def IsGap (us : List Vc) (g : Nat) : Prop := g ≤ us.length ∧ (∀ (k : Nat) (x : Vc), k < g → us[k]? = some x → x.1 = (k : Int) + 1) ∧ (∀ (k : Nat) (x : Vc), g ≤ k → us[k]? = some x → (k : Int) + 1 < x.1)
theorem rise_far {us : List Vc} (hR : Rise us) : ∀ (j k : Nat) (x y : Vc), us[k]? = some x → us[k + j]? = some y → x.1 + (j : Int) ≤ y.1
  | 0, k, x, y, hx, hy => by rw [Nat.add_zero, hx] at hy; injection hy with hy; subst hy; omega
  | j + 1, k, x, y, hx, hy => by
    have hlt := (List.getElem?_eq_some_iff.1 hy).1
    obtain ⟨z, hz⟩ := elem_at (l := us) (k := k + j) (by omega)
    have h1 := rise_far hR j k x z hx hz
    have h2 := rise_next hR hz (by rw [← Nat.add_assoc] at hy; exact hy)
    omega
theorem rise_least {us : List Vc} (hR : Rise us) (h1 : ∀ y ∈ us, 1 ≤ y.1) {k : Nat} {x : Vc} (hx : us[k]? = some x) : (k : Int) + 1 ≤ x.1 := by
  obtain ⟨z, hz⟩ := elem_at (l := us) (k := 0) (by have := (List.getElem?_eq_some_iff.1 hx).1; omega)
  have h2 := rise_far hR k 0 z x hz (by rw [Nat.zero_add]; exact hx)
  have h3 := h1 z (List.mem_of_getElem? hz)
  omega
theorem gap_low {us : List Vc} (hR : Rise us) (h1 : ∀ y ∈ us, 1 ≤ y.1) {h : Nat} {x : Vc} (hx : us[h]? = some x) (hq : ¬ (h : Int) + 1 < x.1) : ∀ (k : Nat) (y : Vc), k < h + 1 → us[k]? = some y → y.1 = (k : Int) + 1 := fun k y hk hy => by
  obtain ⟨j, rfl⟩ : ∃ j, h = k + j := ⟨h - k, by omega⟩
  have h2 := rise_far hR j k y x hy hx
  have h3 := rise_least hR h1 hy
  omega
theorem gap_high {us : List Vc} (hR : Rise us) {h : Nat} {x : Vc} (hx : us[h]? = some x) (hq : (h : Int) + 1 < x.1) : ∀ (k : Nat) (y : Vc), h ≤ k → us[k]? = some y → (k : Int) + 1 < y.1 := fun k y hk hy => by
  obtain ⟨j, rfl⟩ : ∃ j, k = h + j := ⟨k - h, by omega⟩
  have h2 := rise_far hR j h x y hx hy
  omega
theorem gap_none {us : List Vc} {g : Nat} (h : IsGap us g) : kf us ((g : Int) + 1) = none := kf_none.2 fun y hy e => by
  obtain ⟨k, hk⟩ := List.mem_iff_getElem?.1 hy
  by_cases hg : k < g
  · have := h.2.1 k y hg hk; omega
  · have := h.2.2 k y (by omega) hk; omega
theorem gap_place {us : List Vc} {g : Nat} (hR : Rise us) (h : IsGap us g) : low us ((g : Int) + 1) = g := low_unique hR h.1 (fun k x hk hx => by have := h.2.1 k x hk hx; omega) (fun k x hk hx => by have := h.2.2 k x hk hx; omega)
theorem gap_free {us : List Vc} {g : Nat} (hR : Rise us) (h : IsGap us g) : ∀ k, freeK us k = min k g + 1
  | 0 => by simp [freeK]
  | k + 1 => by
    unfold freeK
    rw [gap_free hR h k, vcV_is]
    by_cases hk : k < g
    · obtain ⟨x, hx⟩ := elem_at (l := us) (k := k) (by have := h.1; omega)
      have h2 := h.2.1 k x hk hx
      have h3 : kf us (((min k g + 1 : Nat)) : Int) = some x := by
        rw [show (((min k g + 1 : Nat)) : Int) = x.1 by rw [h2, Nat.min_eq_left (by omega)]; omega]
        exact kf_mem hR (List.mem_of_getElem? hx)
      rw [h3, if_pos (show (some x).isSome = true from rfl)]
      omega
    · have h3 : kf us (((min k g + 1 : Nat)) : Int) = none := by
        rw [Nat.min_eq_right (by omega), show ((g + 1 : Nat) : Int) = (g : Int) + 1 by omega]
        exact gap_none h
      rw [h3, if_neg (by simp)]
      omega
theorem free_gap {us : List Vc} {g : Nat} (hR : Rise us) (h : IsGap us g) (hl : us.length < 17) : freeK us 16 = g + 1 := by
  rw [gap_free hR h, Nat.min_eq_right (by have := h.1; omega)]
/-- why no virtual CPU is added -/
def unE (ds : List Dom) (us : List Vc) (dom : Int) (h s : Nat) : Int :=
  if rightG ds us = true then (if (kf ds dom).isSome = true then (if rightK h s = true then (if us.length = 16 ∨ (ofL us dom).length = 8 then 6 else 0) else 170) else 4) else 190

set_option maxRecDepth 100000 in
set_option maxHeartbeats 1000000 in
theorem gapclo_any (bg : Nat) (ad : Addr) (m d k : Nat) (x : Int) (w : World) (h1 : w.cell? ⟨bg, 1, none⟩ = some (.slice (some ad) m d)) (hk : k < m) (hm : m ≤ 1000) (hx : w.cell? (ad.add (k * 4)) = some (.int .i64 x)) :
    Calls Try.prog 55 #[.int .i64 (k : Int), .pointer (some ⟨bg, 0, none⟩)] w (Said (.bool (decide ((k : Int) + 1 < x))) w) := by
  have j0 : (0 : Int) ≤ (k : Int) := by omega
  have j1 : (k : Int) < (m : Int) := by omega
  have j2 : k < 1000 := by omega
  clear hk
  go_enter Try.func55, Try.ntmps55
  go_wp2
  go_ret
  exact ⟨rfl, Below.refl _ _⟩

set_option maxRecDepth 100000 in
set_option maxHeartbeats 4000000 in
theorem search_any (n : Nat) (us : List Vc) (bg : Nat) (w : World) (hR : Rise us) (h1 : ∀ y ∈ us, 1 ≤ y.1) (hl : us.length = n) (hn : n ≤ 1000)
    (hc : ∀ (u : World) (k : Nat) (x : Vc), Below w.heap.size w u → us[k]? = some x → Calls Try.prog 55 #[.int .i64 (k : Int), .pointer (some ⟨bg, 0, none⟩)] u (Said (.bool (decide ((k : Int) + 1 < x.1))) u)) :
    Calls Try.prog 54 #[.int .i64 (n : Int), .func (.func 55) #[] #[.pointer (some ⟨bg, 0, none⟩)]] w fun e w' => ∃ g : Nat, e = .returned (.int .i64 (g : Int)) ∧ IsGap us g ∧ Below w.heap.size w w' := by
  have HC := Lib.hid hc
  have HRi := Lib.hid (And.intro hR h1)
  have HL := Lib.hid hl
  clear hc hR hl h1
  go_enter Try.func54, Try.ntmps54
  go_wp2_with fail
  go_loopw [5, 6] (fun iv jv wr => ∃ i j : Nat, i ≤ j ∧ j ≤ n ∧ iv = .int .i64 (i : Int) ∧ jv = .int .i64 (j : Int) ∧ Hid (∀ (k : Nat) (x : Vc), k < i → us[k]? = some x → x.1 = (k : Int) + 1) ∧ Hid (∀ (k : Nat) (x : Vc), j ≤ k → us[k]? = some x → (k : Int) + 1 < x.1) ∧ Below w.heap.size w wr) (fun iv jv _ => (intOf jv).toNat - (intOf iv).toNat)
  case atStart => exact ⟨0, n, by omega, by omega, rfl, rfl, Lib.hid (fun k x h _ => by omega), Lib.hid (fun k x h hx => by have := (List.getElem?_eq_some_iff.1 hx).1; have := HL.out; omega), Below.refl _ _⟩
  case round =>
    obtain ⟨i, j, hij, hjn, rfl, rfl, Hlo, Hhi, hB⟩ := hrel
    by_cases hlt : i < j
    · obtain ⟨h, hh⟩ : ∃ h, h = (i + j) / 2 := ⟨_, rfl⟩
      have h1 : i ≤ h ∧ h < j := by omega
      obtain ⟨x, hx⟩ := elem_at (l := us) (k := h) (by rw [HL.out]; omega)
      have HX := Lib.hid hx
      have l1 : decide ((i : Int) < (j : Int)) = true := decide_eq_true (by omega)
      have s1 : ((i : Int) + (j : Int)) / 2 = (h : Int) := by omega
      have HCx := Lib.hid (fun (u : World) (hu : Below w.heap.size w u) => HC.out u h x hu hx)
      clear hx hlt hh
      by_cases hz : (h : Int) + 1 < x.1
      · have HN := Lib.hid (gap_high HRi.out.1 HX.out hz)
        rw [show decide ((h : Int) + 1 < x.1) = true from decide_eq_true hz] at HCx
        clear hz
        go_wp2_with fail
        refine (HCx.out _ hB).mono ?_
        rintro e w1 ⟨rfl, h9⟩
        have B1 := hB.trans (h9.mono hB.size)
        clear h9 hB
        go_wp2
        go_roundw
        case rel => exact ⟨i, h, by omega, by omega, rfl, by go_num, Hlo, HN, B1⟩
        case measure => simp [intOf] <;> omega
      · have HN := Lib.hid (gap_low HRi.out.1 HRi.out.2 HX.out hz)
        rw [show decide ((h : Int) + 1 < x.1) = false from decide_eq_false hz] at HCx
        clear hz
        go_wp2_with fail
        refine (HCx.out _ hB).mono ?_
        rintro e w1 ⟨rfl, h9⟩
        have B1 := hB.trans (h9.mono hB.size)
        clear h9 hB
        go_wp2
        go_roundw
        case rel => exact ⟨h + 1, j, by omega, by omega, by go_num, rfl, HN, Hhi, B1⟩
        case measure => simp [intOf] <;> omega
    · obtain rfl : i = j := by omega
      have HV : Hid (IsGap us i) := Lib.hid ⟨by rw [HL.out]; omega, Hlo.out, Hhi.out⟩
      have l1 : decide ((i : Int) < (i : Int)) = false := decide_eq_false (by omega)
      go_wp2
      go_ret
      exact ⟨i, rfl, HV.out, hB⟩

end Go.Proofs.Ytknimnopopnbhaa
