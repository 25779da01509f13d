/-
  The landed Place (with the library's IndexFunc, Contains, Index). No statement is proved here.
-/
import Derived.Test.YtniilfcbiliegaaZQa
namespace Go.Proofs.Ytniilfcbiliegaa
open Go.RowKit Go.Maps

/-- a place, or below 0 -/
def AtI (v : Bool) (w : World) (e : Ending) (w' : World) : Prop := ∃ r : Int, e = .returned (.int .i64 r) ∧ decide (0 ≤ r) = v ∧ Below w.heap.size w w'
theorem not_take {is : List Int} {k : Nat} {x v : Int} (hx : is[k]? = some x) (h : v ∉ is.take k) (hne : v ≠ x) : v ∉ is.take (k + 1) := by
  rw [List.take_add_one, hx]
  intro hm
  rcases List.mem_append.1 hm with h1 | h1
  · exact h h1
  · exact hne (by simpa using h1)

set_option maxRecDepth 100000 in
set_option maxHeartbeats 4000000 in
theorem index_any (A : Option Addr) (n c : Nat) (is : List Int) (v : Int) (w : World) (hG : IR w A n is) :
    Calls Try.prog 75 #[.slice A n c, .int .i64 v] w (AtI (decide (v ∈ is)) w) := by
  have HL := Lib.hid hG.len
  have HN := hG.small
  have HR := Lib.hid hG
  clear hG
  go_enter Try.func75, Try.ntmps75
  go_wp2_with fail
  go_loopw [8] (fun iv wr => ∃ k : Nat, k ≤ n ∧ iv = .int .i64 (k : Int) ∧ Hid (v ∉ is.take k) ∧ Below w.heap.size w wr) (fun iv _ => n - (intOf iv).toNat)
  case atStart => exact ⟨0, by omega, rfl, Lib.hid (by simp), Below.refl _ _⟩
  case round =>
    obtain ⟨k, hk, rfl, HA, hB⟩ := hrel
    by_cases hlt : k < n
    · obtain ⟨x, hm⟩ := elem_at (l := is) (k := k) (by rw [HL.out]; exact hlt)
      obtain ⟨ad, rfl, hb1, c0⟩ := (HR.out.below hB).at_ hm
      have i1 : (0 : Int) ≤ (k : Int) := by omega
      have i2 : (k : Int) < (n : Int) := by omega
      by_cases hv : v = x
      · subst hv
        have HV : Hid (decide (v ∈ is) = true) := Lib.hid (decide_eq_true (List.mem_of_getElem? hm))
        have v1 : (v == v) = true := by simp
        clear hm hb1
        go_wp2_with fail
        go_ret
        exact ⟨_, rfl, by rw [HV.out]; simp, hB⟩
      · have HA2 := Lib.hid (not_take hm HA.out hv)
        have v1 : (v == x) = false := by simpa using hv
        clear hm hb1 hv
        go_wp2_with fail
        go_roundw
        case rel => exact ⟨k + 1, by omega, by go_num, HA2, hB⟩
        case measure => simp [intOf]; omega
    · obtain rfl : k = n := by omega
      have HV : Hid (decide (v ∈ is) = false) := Lib.hid (decide_eq_false (by have := HA.out; rwa [List.take_of_length_le (by rw [HL.out]; exact Nat.le_refl _)] at this))
      go_wp2
      go_ret
      exact ⟨-1, rfl, by rw [HV.out]; decide, hB⟩

set_option maxRecDepth 100000 in
set_option maxHeartbeats 2000000 in
theorem contains_any (A : Option Addr) (n c : Nat) (is : List Int) (v : Int) (w : World) (hG : IR w A n is) :
    Calls Try.prog 54 #[.slice A n c, .int .i64 v] w (Said (.bool (decide (v ∈ is))) w) := by
  have HI := Lib.hid (index_any A n c is v w hG)
  clear hG
  go_enter Try.func54, Try.ntmps54
  go_wp2_with fail
  refine HI.out.mono ?_
  rintro e w2 ⟨r, rfl, hr, h9⟩
  have HV := Lib.hid hr
  clear hr
  go_wp2_with fail
  go_ret
  exact ⟨retB HV.out, h9⟩

set_option maxRecDepth 100000 in
set_option maxHeartbeats 2000000 in
theorem holder_any (A : Option Addr) (n c h l x o : Nat) (f : Bool) (is : List Int) (v : Int) (g : Nat) (w : World) (hG : IR w A n is) (hg : g < w.heap.size) (hc : w.cell? ⟨g, 0, none⟩ = some (.int .i64 v)) :
    Calls Try.prog 53 (#[.agg #[.slice A n c, .int .u64 (h : Int), .int .u64 (l : Int), .int .u64 (x : Int), .int .u64 (o : Int), .bool f]] ++ #[.pointer (some ⟨g, 0, none⟩)]) w (Said (.bool (decide (v ∈ is))) w) := by
  obtain ⟨K0, GB⟩ := box1 w 47 #[.slice A n c, .int .u64 (h : Int), .int .u64 (l : Int), .int .u64 (x : Int), .int .u64 (o : Int), .bool f]
  have HI := Lib.hid (fun (u : World) (hu : Below w.heap.size w u) => contains_any A n c is v u (hG.below hu))
  have z0 := K0.cell 0
  have d0 : (w.alloc (.cells #[.slice A n c, .int .u64 (h : Int), .int .u64 (l : Int), .int .u64 (x : Int), .int .u64 (o : Int), .bool f] 47)).cell? ⟨g, 0, none⟩ = some (.int .i64 v) := (GB.cell (p := ⟨g, 0, none⟩) hg).trans hc
  clear hG hc K0
  go_enter Try.func53, Try.ntmps53
  go_wp2_with fail
  refine (HI.out _ GB).mono ?_
  rintro e w2 ⟨rfl, h9⟩
  replace GB := GB.trans (h9.mono GB.size)
  clear h9 z0 d0
  go_wp2_with fail
  go_ret
  exact ⟨rfl, GB⟩

/-- what IndexFunc answers -/
def placeI (l : List En) (i : Int) : Int := if (placeE l i).2 = true then ((placeE l i).1 : Int) else -1
set_option maxRecDepth 100000 in
set_option maxHeartbeats 4000000 in
theorem indexfn_any (A : Option Addr) (n c : Nat) (l : List En) (i : Int) (g : Nat) (w : World) (hG : ER w A n l) (hg : g < w.heap.size) (hc : w.cell? ⟨g, 0, none⟩ = some (.int .i64 i)) :
    Calls Try.prog 52 #[.slice A n c, .func (.func 53) #[] #[.pointer (some ⟨g, 0, none⟩)]] w (Said (.int .i64 (placeI l i)) w) := by
  have HG := Lib.hid hG
  have HN : Hid (n ≤ 1000) := Lib.hid hG.small
  have HL := Lib.hid hG.len
  have HC : Hid (∀ u, Below w.heap.size w u → g < u.heap.size ∧ u.cell? ⟨g, 0, none⟩ = some (.int .i64 i)) := Lib.hid (fun u hu => ⟨Nat.lt_of_lt_of_le hg hu.size, (hu.cell (p := ⟨g, 0, none⟩) hg).trans hc⟩)
  clear hG hg hc
  go_enter Try.func52, Try.ntmps52
  go_wp2_with fail
  go_loopw [8] (fun iv wr => ∃ k : Nat, k ≤ n ∧ iv = .int .i64 (k : Int) ∧ Hid (∀ (j : Nat) (y : En), j < k → l[j]? = some y → hasE y i = false) ∧ Below w.heap.size w wr) (fun iv _ => n - (intOf iv).toNat)
  case atStart => exact ⟨0, by omega, rfl, Lib.hid (fun j y hj _ => absurd hj (by omega)), Below.refl _ _⟩
  case round =>
    obtain ⟨k, hk, rfl, HA, hB⟩ := hrel
    by_cases hlt : k < n
    · obtain ⟨⟨⟨A2, n2, c2, is⟩, ⟨h, p, x⟩, o, f⟩, hx⟩ := elem_at (l := l) (k := k) (by rw [HL.out]; exact hlt)
      obtain ⟨ad, rfl, hb1, hc⟩ := (HG.out.below hB).at_ hx
      have d0 := hc 0 _ rfl
      have d1 := hc 1 _ rfl
      have d2 := hc 2 _ rfl
      have d3 := hc 3 _ rfl
      have d4 := hc 4 _ rfl
      have d5 := hc 5 _ rfl
      rw [Nat.add_zero] at d0
      rw [add_past ad (k * 6) 0] at d1
      rw [add_past ad (k * 6) 1] at d2
      rw [add_past ad (k * 6) 2] at d3
      rw [add_past ad (k * 6) 3] at d4
      rw [add_past ad (k * 6) 4] at d5
      have HX := Lib.hid hx
      have HB := Lib.hid hB
      have HH := Lib.hid (holder_any A2 n2 c2 h p x o f is i g wr ((HG.out.below hB).each _ _ hx) (HC.out _ hB).1 (HC.out _ hB).2)
      have i1 : (0 : Int) ≤ (k : Int) := by omega
      have i2 : (k : Int) < (n : Int) := by omega
      have hn := HN.out
      clear hx hb1 hc
      cases he : decide (i ∈ is) with
      | true =>
        have HV : Hid (placeI l i = (k : Int)) := Lib.hid (by
          have := place_some HX.out (show hasE ((A2, n2, c2, is), (h, p, x), o, f) i = true from he) HA.out
          unfold placeI
          rw [this]
          rfl)
        rw [he] at HH
        clear he
        go_wp2_with fail
        refine (HH.out).mono ?_
        rintro e w2 ⟨rfl, h9⟩
        clear d0 d1 d2 d3 d4 d5
        go_wp2
        go_ret
        rw [HV.out]
        exact ⟨rfl, HB.out.trans (h9.mono HB.out.size)⟩
      | false =>
        rw [he] at HH
        have HA2 : Hid (∀ (j : Nat) (y : En), j < k + 1 → l[j]? = some y → hasE y i = false) := Lib.hid (fun j y hj hy => by
          by_cases e : j = k
          · subst e
            rw [HX.out] at hy
            rw [← Option.some.inj hy]
            exact he
          · exact HA.out j y (by omega) hy)
        clear he
        go_wp2_with fail
        refine (HH.out).mono ?_
        rintro e w2 ⟨rfl, h9⟩
        clear d0 d1 d2 d3 d4 d5
        go_wp2
        go_roundw
        case rel => exact ⟨k + 1, by omega, by go_num, HA2, HB.out.trans (h9.mono HB.out.size)⟩
        case measure => simp [intOf]; omega
    · obtain rfl : k = n := by omega
      have HV : Hid (placeI l i = -1) := Lib.hid (by
        unfold placeI
        rw [place_none (fun j y hy => HA.out j y (by have := (List.getElem?_eq_some_iff.1 hy).1; have := HL.out; omega) hy)]
        rfl)
      go_wp2
      go_ret
      rw [HV.out]
      exact ⟨rfl, hB⟩

theorem placeE_lt {l : List En} {i : Int} (h : (placeE l i).2 = true) : (placeE l i).1 < l.length := by
  unfold placeE at h ⊢
  split
  · rename_i h1; exact h1
  · rename_i h1; rw [if_neg h1] at h; cases h
set_option maxRecDepth 100000 in
set_option maxHeartbeats 2000000 in
theorem place_any (A : Option Addr) (n c : Nat) (l : List En) (i : Int) (w : World) (hG : ER w A n l) : Calls Try.prog 23 #[.slice A n c, .int .i64 i] w (Said (.tuple #[.int .i64 ((placeE l i).1 : Int), .bool (placeE l i).2]) w) := by
  obtain ⟨K0, GB⟩ := box1 w 3 #[.int .i64 i]
  have HI := Lib.hid (indexfn_any A n c l i w.heap.size _ (hG.below GB) K0.lt (K0.cell 0))
  clear hG K0
  cases hp : (placeE l i).2 with
  | true =>
    obtain ⟨k, hk⟩ : ∃ k : Nat, (placeE l i).1 = k := ⟨_, rfl⟩
    have HV : placeI l i = (k : Int) := by unfold placeI; rw [hp, hk]; rfl
    rw [HV] at HI
    rw [hk]
    have c1 : max (k : Int) 0 = (k : Int) := by omega
    have c2 : decide ((0 : Int) ≤ (k : Int)) = true := by simp
    clear hp HV hk
    go_enter Try.func23, Try.ntmps23
    go_wp2_with fail
    refine HI.out.mono ?_
    rintro e w2 ⟨rfl, h9⟩
    have HB := Lib.hid (GB.trans (h9.mono GB.size))
    clear h9 GB
    go_wp2_with fail
    go_ret2
    exact ⟨rfl, HB.out⟩
  | false =>
    have HV : placeI l i = -1 := by unfold placeI; rw [hp]; rfl
    have h1 : (placeE l i).1 = 0 := by
      unfold placeE at hp ⊢
      split
      · rename_i h1; rw [if_pos h1] at hp; cases hp
      · rfl
    rw [HV] at HI
    rw [h1]
    clear hp HV h1
    go_enter Try.func23, Try.ntmps23
    go_wp2_with fail
    refine HI.out.mono ?_
    rintro e w2 ⟨rfl, h9⟩
    have HB := Lib.hid (GB.trans (h9.mono GB.size))
    clear h9 GB
    go_wp2_with fail
    go_ret2
    exact ⟨rfl, HB.out⟩

end Go.Proofs.Ytniilfcbiliegaa
