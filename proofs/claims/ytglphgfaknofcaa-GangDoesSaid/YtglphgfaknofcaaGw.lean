/-
  The landed gang: DeleteFunc of numbers, Leave's closures. No statement is proved here.
-/
import Derived.Test.YtglphgfaknofcaaGv
namespace Go.Proofs.Ytglphgfaknofcaa
open Go.RowKit Go.Maps

set_option maxRecDepth 100000 in
set_option maxHeartbeats 2000000 in
theorem gone1_any (vb : Nat) (v x : Int) (w : World) (h : Blk w vb 3 #[.int .i64 v]) :
    Calls Try.prog 62 #[.int .i64 x, .pointer (some ⟨vb, 0, none⟩)] w (Said (.bool (x == v)) w) := by
  have c0 := h.cell 0
  clear h
  go_enter Try.func62, Try.ntmps62
  go_wp2_with fail
  go_ret
  exact ⟨rfl, (Below.refl _ w)⟩

set_option maxRecDepth 100000 in
set_option maxHeartbeats 4000000 in
theorem goneidx_any (vb : Nat) (v : Int) (A : Option Addr) (n c : Nat) (is : List Int) (w : World) (h : Blk w vb 3 #[.int .i64 v]) (hI : IR w A n is) :
    Calls Try.prog 50 #[.slice A n c, .func (.func 62) #[] #[.pointer (some ⟨vb, 0, none⟩)]] w (Said (.int .i64 (firstI (fun x => (x == v)) is)) w) := by
  have HL := Lib.hid hI.len
  have n9 := hI.small
  have HR := Lib.hid hI
  have HM := Lib.hid (fun (x : Int) (u : World) (hu : Below w.heap.size w u) => gone1_any vb v x u (h.below hu h.lt))
  clear hI h
  go_enter Try.func50, Try.ntmps50
  go_wp2_with fail
  go_loopw [8] (fun iv wr => ∃ k : Nat, k ≤ n ∧ iv = .int .i64 (k : Int) ∧ Hid (∀ y ∈ is.take k, (y == v) = false) ∧ Below w.heap.size w wr) (fun iv _ => n - (intOf iv).toNat)
  case atStart => exact ⟨0, by omega, rfl, Lib.hid (by simp), Below.refl _ _⟩
  case round =>
    obtain ⟨k, hk, rfl, HA, hB⟩ := hrel
    by_cases hlt : k < n
    · obtain ⟨x, hx⟩ := elem_at (l := is) (k := k) (by rw [HL.out]; exact hlt)
      obtain ⟨ad, rfl, _, d0⟩ := (HR.out.below hB).at_ hx
      have HX := Lib.hid hx
      have HB := Lib.hid hB
      have HH := Lib.hid (HM.out x wr hB)
      have i1 : (0 : Int) ≤ (k : Int) := by omega
      have i2 : (k : Int) < (n : Int) := by omega
      clear hx hB
      cases he : (x == v) with
      | true =>
        rw [he] at HH
        have HV := Lib.hid (firstI_yes (p := fun x => (x == v)) HX.out he HA.out)
        clear he
        go_wp2_with fail
        refine (HH.out).mono ?_
        rintro e w2 ⟨rfl, h9⟩
        clear d0
        go_wp2
        go_ret
        rw [HV.out]
        exact ⟨rfl, HB.out.trans (h9.mono HB.out.size)⟩
      | false =>
        rw [he] at HH
        have HA2 := Lib.hid (take_all (p := fun x => (x == v)) HA.out HX.out he)
        clear he
        go_wp2_with fail
        refine (HH.out).mono ?_
        rintro e w2 ⟨rfl, h9⟩
        clear d0
        go_wp2
        go_roundw
        case rel => exact ⟨k + 1, by omega, by go_num, HA2, HB.out.trans (h9.mono HB.out.size)⟩
        case measure => simp [intOf]; omega
    · obtain rfl : k = n := by omega
      have HV := Lib.hid (firstI_no (p := fun x => (x == v)) (l := is) (by have := HA.out; rwa [List.take_of_length_le (by rw [HL.out]; exact Nat.le_refl _)] at this))
      go_wp2
      go_ret
      rw [HV.out]
      exact ⟨rfl, hB⟩

theorem shift_eq (kept M' R : List Int) (m x : Int) (tl : List Value) : (vs kept ++ vs (m :: M') ++ vs (x :: R) ++ tl).toArray.setIfInBounds kept.length (.int .i64 x) = (vs (kept ++ [x]) ++ vs (M' ++ [x]) ++ vs R ++ tl).toArray := by
  simp only [List.setIfInBounds_toArray]
  congr 1
  have h : vs kept ++ vs (m :: M') ++ vs (x :: R) ++ tl = vs kept ++ (.int .i64 m :: (vs M' ++ vs (x :: R) ++ tl)) := by simp [vs]
  rw [h, List.set_append_right _ _ (by rw [length_vs]; exact Nat.le_refl _), length_vs, Nat.sub_self, List.set_cons_zero]
  simp [vs]
theorem slide_eq (kept M R : List Int) (x : Int) (tl : List Value) : vs kept ++ vs M ++ vs (x :: R) ++ tl = vs kept ++ vs (M ++ [x]) ++ vs R ++ tl := by simp [vs]
/-- the block while it is shifted -/
structure Sh (w : World) (g vb : Nat) (v : Int) (is : List Int) (tl : List Value) (i j : Nat) (wr : World) : Prop where
  blk : ∃ kept M : List Int, kept.length = i ∧ i + M.length = j ∧ i < j ∧ kept = (is.take j).filter (fun x => !(x == v)) ∧ Blk wr g 3 (vs kept ++ vs M ++ vs (is.drop j) ++ tl).toArray
  grown : w.grownBy wr (some g)
  box : Blk wr vb 3 #[.int .i64 v]
theorem filter_take_next {is : List Int} {j : Nat} {x : Int} (hx : is[j]? = some x) (p : Int → Bool) : (is.take (j + 1)).filter p = (is.take j).filter p ++ (if p x = true then [x] else []) := by
  rw [List.take_add_one, hx, List.filter_append]
  congr 1
  cases h : p x <;> simp [h]
theorem Sh.cell {w wr : World} {g vb i j : Nat} {v x : Int} {is : List Int} {tl : List Value} (h : Sh w g vb v is tl i j wr) (hx : is[j]? = some x) : wr.cell? ⟨g, j, none⟩ = some (.int .i64 x) := by
  obtain ⟨kept, M, h1, h2, _, _, K⟩ := h.blk
  rw [K.cell j, drop_cons hx, List.getElem?_toArray]
  have e : vs kept ++ vs M ++ vs (x :: is.drop (j + 1)) ++ tl = vs (kept ++ M) ++ (.int .i64 x :: (vs (is.drop (j + 1)) ++ tl)) := by simp [vs]
  rw [e, List.getElem?_append_right (by rw [length_vs, List.length_append]; omega), length_vs, List.length_append, show j - (kept.length + M.length) = 0 by omega]
  rfl
theorem Sh.put {w wr : World} {g vb i j : Nat} {v x : Int} {is : List Int} {tl : List Value} (h : Sh w g vb v is tl i j wr) (hx : is[j]? = some x) (hv : (x == v) = false) (hg : vb ≠ g) : Sh w g vb v is tl (i + 1) (j + 1) (wr.setCell ⟨g, i, none⟩ (.int .i64 x)) := by
  obtain ⟨kept, M, h1, h2, h3, h4, K⟩ := h.blk
  cases M with
  | nil => simp at h2; omega
  | cons m M =>
    refine ⟨⟨kept ++ [x], M ++ [x], by simp [h1], by simp at h2 ⊢; omega, by omega, ?_, ?_⟩, ?_, ?_⟩
    · rw [filter_take_next hx, ← h4, hv]
      rfl
    · have := K.set_ i (.int .i64 x)
      rw [drop_cons hx, ← h1, shift_eq] at this
      rwa [← h1]
    · exact grown_trans h.grown (grown_cells g [.int .i64 x] wr i)
    · exact h.box.grown (row := some g) (grown_cells g [.int .i64 x] wr i) (fun e => hg (by injection e))
theorem Sh.skip {w wr : World} {g vb i j : Nat} {v x : Int} {is : List Int} {tl : List Value} (h : Sh w g vb v is tl i j wr) (hx : is[j]? = some x) (hv : (x == v) = true) : Sh w g vb v is tl i (j + 1) wr := by
  obtain ⟨kept, M, h1, h2, h3, h4, K⟩ := h.blk
  refine ⟨⟨kept, M ++ [x], h1, by simp; omega, by omega, ?_, ?_⟩, h.grown, h.box⟩
  · rw [filter_take_next hx, ← h4, hv]
    simp
  · rw [drop_cons hx, slide_eq] at K
    exact K
theorem Sh.more {w wr w2 : World} {g vb i j : Nat} {v : Int} {is : List Int} {tl : List Value} (h : Sh w g vb v is tl i j wr) (hb : Below wr.heap.size wr w2) : Sh w g vb v is tl i j w2 := by
  obtain ⟨kept, M, h1, h2, h3, h4, K⟩ := h.blk
  exact ⟨⟨kept, M, h1, h2, h3, h4, K.below hb K.lt⟩, grown_trans h.grown (below_grown hb _), h.box.below hb h.box.lt⟩
theorem Sh.start {w : World} {g vb k n : Nat} {v : Int} {is : List Int} {cur : Array Value} (hK : Blk w g 3 cur) (hX : cur.toList.take n = vs is) (hb : Blk w vb 3 #[.int .i64 v]) (hk : is[k]? = some v) (hn : ∀ y ∈ is.take k, (y == v) = false) : Sh w g vb v is (cur.toList.drop n) k (k + 1) w := by
  have hlt := (List.getElem?_eq_some_iff.1 hk).1
  refine ⟨⟨is.take k, [v], by rw [List.length_take]; omega, rfl, by omega, ?_, ?_⟩, World.grownBy.refl w _, hb⟩
  · have e : (is.take k).filter (fun x => !(x == v)) = is.take k := List.filter_eq_self.2 (fun a ha => by rw [hn a ha]; rfl)
    rw [filter_take_next hk, e]
    simp
  · have e : vs (is.take k) ++ vs [v] ++ vs (is.drop (k + 1)) ++ cur.toList.drop n = cur.toList := by
      have e2 : vs (is.take k) ++ vs [v] ++ vs (is.drop (k + 1)) = vs is := by
        have : is = is.take k ++ (v :: is.drop (k + 1)) := by rw [← drop_cons hk, List.take_append_drop]
        conv => rhs; rw [this]
        simp [vs]
      rw [e2, ← hX, List.take_append_drop]
    rw [e]
    exact hK

end Go.Proofs.Ytglphgfaknofcaa
