/-
  Masks as words; the contracts of the document's Right, Error, Allows, Likes and bit. No statement is proved here.
-/
import Derived.Test.YtldleijocjohgaaDoorTi
import Derived.Test.YtldleijocjohgaaDoorMm
namespace Go.Proofs.YtldleijocjohgaaDoor
open Go.RowKit

/-- a mask as cells; rows of them -/
def mv (m : Int × Int) : List Value := [.int .u32 m.1, .int .u32 m.2]
def mvs (l : List (Int × Int)) : List Value := flat mv l
theorem length_mv (m : Int × Int) : (mv m).length = 2 := rfl
theorem length_mvs (l : List (Int × Int)) : (mvs l).length = l.length * 2 := length_flat mv length_mv l
/-- numbers of 32 bits -/
def U32 (x : Int) : Prop := 0 ≤ x ∧ x < 4294967296
def UM (m : Int × Int) : Prop := U32 m.1 ∧ U32 m.2
/-- may a mask be -/
def rightM (m : Int × Int) : Bool := decide (m.1 < 256) && decide (m.2 < 256) && decide (0 < m.1)
theorem mask_at {w : World} {B n : Nat} {A : Option Addr} {l : List (Int × Int)} (h : Reads w B 2 A n (mvs l)) {k : Nat} {x y : Int} (hk : l[k]? = some (x, y)) :
    ∃ ad, A = some ad ∧ ad.block < B ∧ w.cell? (ad.add (k * 2)) = some (.int .u32 x) ∧ w.cell? ⟨(ad.add (k * 2)).block, (ad.add (k * 2)).off + 1, none⟩ = some (.int .u32 y) := by
  obtain ⟨ad, e, hb, hc⟩ := h.elem mv length_mv hk (by omega)
  have c1 := hc 1 _ rfl
  rw [add_past ad (k * 2) 0] at c1
  exact ⟨ad, e, hb, hc 0 _ rfl, c1⟩
theorem masks_len {w : World} {B n : Nat} {A : Option Addr} {l : List (Int × Int)} (h : Reads w B 2 A n (mvs l)) : l.length = n := by
  have := h.1
  rw [length_mvs] at this
  omega

set_option maxRecDepth 100000 in
set_option maxHeartbeats 1000000 in
theorem rrightM_any (x y : Int) (w : World) : Calls Tryd.prog 32 #[.agg #[.int .u32 x, .int .u32 y]] w (Said (.bool (rightM (x, y))) w) := by
  have HX := Lib.hid (fun u => rright_any x u)
  have HY := Lib.hid (fun u => rright_any y u)
  have HB := Lib.hid ((Below.refl w.heap.size w).alloc (Nat.le_refl _) (.cells #[.int .u32 x, .int .u32 y] 41))
  have hv : rightM (x, y) = (decide (x < 256) && decide (y < 256) && decide (0 < x)) := rfl
  rw [hv]
  clear hv
  cases h1 : decide (x < 256) with
  | false =>
    rw [h1] at HX
    clear h1
    go_enter Tryd.func32, Tryd.ntmps32
    go_wp2_with fail
    refine (HX.out _).mono ?_
    rintro e w' ⟨rfl, rfl⟩
    go_wp2
    go_ret
    exact ⟨rfl, HB.out⟩
  | true =>
    rw [h1] at HX
    clear h1
    cases h2 : decide (y < 256) with
    | false =>
      rw [h2] at HY
      clear h2
      go_enter Tryd.func32, Tryd.ntmps32
      go_wp2_with fail
      refine (HX.out _).mono ?_
      rintro e w' ⟨rfl, rfl⟩
      go_wp2_with fail
      refine (HY.out _).mono ?_
      rintro e w' ⟨rfl, rfl⟩
      go_wp2
      go_ret
      exact ⟨rfl, HB.out⟩
    | true =>
      rw [h2] at HY
      clear h2
      generalize hq : decide (0 < x) = q
      go_enter Tryd.func32, Tryd.ntmps32
      go_wp2_with fail
      refine (HX.out _).mono ?_
      rintro e w' ⟨rfl, rfl⟩
      go_wp2_with fail
      refine (HY.out _).mono ?_
      rintro e w' ⟨rfl, rfl⟩
      go_wp2
      go_ret
      exact ⟨rfl, HB.out⟩

/-- why nothing is asked of masks and a set -/
def errM (l : List (Int × Int)) (s : Int) : Int := if l.all rightM = true then (if s < 256 then (if 16 < l.length then 3 else 0) else 140) else 170
theorem all_right_no {l : List (Int × Int)} {k : Nat} {m : Int × Int} (hk : l[k]? = some m) (h : rightM m = false) : l.all rightM = false := by
  cases ha : l.all rightM with
  | false => rfl
  | true =>
    rw [List.all_eq_true] at ha
    rw [ha _ (List.mem_of_getElem? hk)] at h
    cases h
theorem all_right_step {l : List (Int × Int)} {k : Nat} {m : Int × Int} (hk : l[k]? = some m) (h : rightM m = true) (ht : (l.take k).all rightM = true) : (l.take (k + 1)).all rightM = true := by
  rw [List.take_add_one, hk, List.all_append, ht]
  simp [h]


theorem pow8 {k : Nat} (h : k ≤ 8) : (2 : Int) ^ k ≤ 256 ∧ 0 < (2 : Int) ^ k := ⟨two_le8 h, two_pos k⟩

/-- of numbers of 32 bits what both have -/
theorem and_nat {x y : Int} (hx : U32 x) (hy : U32 y) : bits .and .u32 x y = ((x.toNat &&& y.toNat : Nat) : Int) := u32_and _ _ hx.1 hx.2 hy.1 hy.2
theorem and_lt {x y : Nat} (h : x < 256) : x &&& y < 256 := Nat.lt_of_le_of_lt Nat.and_le_left h

set_option maxRecDepth 100000 in
set_option maxHeartbeats 1000000 in
theorem rallows_any (x y s : Int) (w : World) (hx : U32 x) (hs : U32 s) : Calls Tryd.prog 40 #[.agg #[.int .u32 x, .int .u32 y], .int .u32 s] w (Said (.int .u32 ((x.toNat &&& s.toNat : Nat) : Int)) w) := by
  have HB := Lib.hid ((Below.refl w.heap.size w).alloc (Nat.le_refl _) (.cells #[.int .u32 x, .int .u32 y] 41))
  have HV := Lib.hid (and_nat hx hs)
  clear hx hs
  go_enter Tryd.func40, Tryd.ntmps40
  go_wp2
  go_ret
  exact ⟨by simp [HV.out], HB.out⟩

end Go.Proofs.YtldleijocjohgaaDoor
