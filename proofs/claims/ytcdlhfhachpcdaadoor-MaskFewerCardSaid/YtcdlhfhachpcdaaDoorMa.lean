/-
  Masks as words; the contracts of the document's Right, Error, Allows, Likes and bit. No statement is proved here.
-/
import Derived.Test.YtcdlhfhachpcdaaDoorTi
import Derived.Test.YtcdlhfhachpcdaaDoorMm
namespace Go.Proofs.YtcdlhfhachpcdaaDoor
open Go.RowKit

/-- a mask as cells; rows of them -/
def mv (m : Int × Int) : List Value := [.int .u32 m.1, .int .u32 m.2]
def mvs (l : List (Int × Int)) : List Value := flat mv l
theorem length_mv (m : Int × Int) : (mv m).length = 2 := rfl
theorem length_mvs (l : List (Int × Int)) : (mvs l).length = l.length * 2 := length_flat mv length_mv l
/-- numbers of 32 bits -/
def U32 (x : Int) : Prop := 0 ≤ x ∧ x < 4294967296
def UM (m : Int × Int) : Prop := U32 m.1 ∧ U32 m.2
/-- may a mask be -/
def rightM (m : Int × Int) : Bool := decide (m.1 < 256) && decide (m.2 < 256) && decide (0 < m.1)
theorem mask_at {w : World} {B n : Nat} {A : Option Addr} {l : List (Int × Int)} (h : Reads w B 2 A n (mvs l)) {k : Nat} {x y : Int} (hk : l[k]? = some (x, y)) :
    ∃ ad, A = some ad ∧ ad.block < B ∧ w.cell? (ad.add (k * 2)) = some (.int .u32 x) ∧ w.cell? ⟨(ad.add (k * 2)).block, (ad.add (k * 2)).off + 1, none⟩ = some (.int .u32 y) := by
  obtain ⟨ad, e, hb, hc⟩ := h.elem mv length_mv hk (by omega)
  have c1 := hc 1 _ rfl
  rw [add_past ad (k * 2) 0] at c1
  exact ⟨ad, e, hb, hc 0 _ rfl, c1⟩
theorem masks_len {w : World} {B n : Nat} {A : Option Addr} {l : List (Int × Int)} (h : Reads w B 2 A n (mvs l)) : l.length = n := by
  have := h.1
  rw [length_mvs] at this
  omega

set_option maxRecDepth 100000 in
set_option maxHeartbeats 1000000 in
theorem rrightM_any (x y : Int) (w : World) : Calls Tryd.prog 9 #[.agg #[.int .u32 x, .int .u32 y]] w (Said (.bool (rightM (x, y))) w) := by
  have HX := Lib.hid (fun u => rright_any x u)
  have HY := Lib.hid (fun u => rright_any y u)
  have HB := Lib.hid ((Below.refl w.heap.size w).alloc (Nat.le_refl _) (.cells #[.int .u32 x, .int .u32 y] 25))
  have hv : rightM (x, y) = (decide (x < 256) && decide (y < 256) && decide (0 < x)) := rfl
  rw [hv]
  clear hv
  cases h1 : decide (x < 256) with
  | false =>
    rw [h1] at HX
    clear h1
    go_enter Tryd.func9, Tryd.ntmps9
    go_wp2_with fail
    refine (HX.out _).mono ?_
    rintro e w' ⟨rfl, rfl⟩
    go_wp2
    go_ret
    exact ⟨rfl, HB.out⟩
  | true =>
    rw [h1] at HX
    clear h1
    cases h2 : decide (y < 256) with
    | false =>
      rw [h2] at HY
      clear h2
      go_enter Tryd.func9, Tryd.ntmps9
      go_wp2_with fail
      refine (HX.out _).mono ?_
      rintro e w' ⟨rfl, rfl⟩
      go_wp2_with fail
      refine (HY.out _).mono ?_
      rintro e w' ⟨rfl, rfl⟩
      go_wp2
      go_ret
      exact ⟨rfl, HB.out⟩
    | true =>
      rw [h2] at HY
      clear h2
      generalize hq : decide (0 < x) = q
      go_enter Tryd.func9, Tryd.ntmps9
      go_wp2_with fail
      refine (HX.out _).mono ?_
      rintro e w' ⟨rfl, rfl⟩
      go_wp2_with fail
      refine (HY.out _).mono ?_
      rintro e w' ⟨rfl, rfl⟩
      go_wp2
      go_ret
      exact ⟨rfl, HB.out⟩

/-- why nothing is asked of masks and a set -/
def errM (l : List (Int × Int)) (s : Int) : Int := if l.all rightM = true then (if s < 256 then (if 16 < l.length then 3 else 0) else 140) else 170
theorem all_right_no {l : List (Int × Int)} {k : Nat} {m : Int × Int} (hk : l[k]? = some m) (h : rightM m = false) : l.all rightM = false := by
  cases ha : l.all rightM with
  | false => rfl
  | true =>
    rw [List.all_eq_true] at ha
    rw [ha _ (List.mem_of_getElem? hk)] at h
    cases h
theorem all_right_step {l : List (Int × Int)} {k : Nat} {m : Int × Int} (hk : l[k]? = some m) (h : rightM m = true) (ht : (l.take k).all rightM = true) : (l.take (k + 1)).all rightM = true := by
  rw [List.take_add_one, hk, List.all_append, ht]
  simp [h]

set_option maxRecDepth 100000 in
set_option maxHeartbeats 4000000 in
theorem rerror_any (A : Option Addr) (n c : Nat) (l : List (Int × Int)) (s : Int) (w : World) (hR : Reads w w.heap.size 2 A n (mvs l)) (hn : n ≤ 1000) :
    Calls Tryd.prog 22 #[.slice A n c, .int .u32 s] w (Said (.int .i64 (errM l s)) w) := by
  have HL := Lib.hid (masks_len hR)
  have HR := Lib.hid hR
  have HM := Lib.hid (fun x y u => rrightM_any x y u)
  have HS := Lib.hid (fun u => rright_any s u)
  generalize hE : errM l s = E
  have HE := Lib.hid hE
  clear hR hE
  go_enter Tryd.func22, Tryd.ntmps22
  go_wp2_with fail
  go_loopw [5] (fun i wr => ∃ k : Nat, k ≤ n ∧ i = .int .i64 (k : Int) ∧ Hid ((l.take k).all rightM = true) ∧ Below w.heap.size w wr) (fun i _ => n - (intOf i).toNat)
  case atStart => exact ⟨0, by omega, rfl, Lib.hid (by rw [List.take_zero]; rfl), Below.refl _ _⟩
  case round =>
    obtain ⟨k, hk, rfl, HA, hB⟩ := hrel
    by_cases hlt : k < n
    · obtain ⟨⟨x, y⟩, hm⟩ := elem_at (l := l) (k := k) (by rw [HL.out]; exact hlt)
      obtain ⟨ad, rfl, hb, d0, d1⟩ := mask_at (HR.out.below hB) hm
      have HX := Lib.hid (fun u => HM.out x y u)
      have HT := Lib.hid hm
      have hsz := hB.size
      clear hm
      cases hr : rightM (x, y) with
      | true =>
        rw [hr] at HX
        have HN := Lib.hid (all_right_step HT.out hr HA.out)
        clear hr
        go_wp2_with fail
        refine (HX.out _).mono ?_
        rintro e w2 ⟨rfl, h2⟩
        have B2 := hB.trans (h2.mono hsz)
        clear d0 d1 h2 hB
        go_wp2
        go_roundw
        case rel => exact ⟨k + 1, by omega, by go_num, HN, B2⟩
        case measure => simp [intOf] <;> omega
      | false =>
        rw [hr] at HX
        have HN := Lib.hid (all_right_no HT.out hr)
        clear hr
        go_wp2_with fail
        refine (HX.out _).mono ?_
        rintro e w2 ⟨rfl, h2⟩
        have B2 := hB.trans (h2.mono hsz)
        clear d0 d1 h2 hB
        go_wp2
        go_ret
        exact ⟨retI (by rw [← HE.out]; unfold errM; rw [HN.out]; rfl), B2⟩
    · obtain rfl : n = k := by omega
      have hall : Hid (l.all rightM = true) := Lib.hid (by
        have := HA.out
        rwa [show l.take n = l by rw [← HL.out]; exact List.take_length] at this)
      cases h1 : decide (s < 256) with
      | false =>
        rw [h1] at HS
        have H1 := Lib.hid (of_decide_eq_false h1)
        clear h1
        go_wp2_with fail
        refine (HS.out _).mono ?_
        rintro e w' ⟨rfl, rfl⟩
        go_wp2
        go_ret
        exact ⟨retI (by rw [← HE.out]; unfold errM; rw [hall.out, if_pos rfl, if_neg (by have := H1.out; omega)]), hB⟩
      | true =>
        rw [h1] at HS
        have H1 := Lib.hid (of_decide_eq_true h1)
        clear h1
        by_cases h16 : 16 < n
        · have q : decide ((16 : Int) < (n : Int)) = true := decide_eq_true (by omega)
          have H2 : Hid (16 < l.length) := Lib.hid (by rw [HL.out]; exact h16)
          clear h16
          go_wp2_with fail
          refine (HS.out _).mono ?_
          rintro e w' ⟨rfl, rfl⟩
          go_wp2
          go_ret
          exact ⟨retI (by rw [← HE.out]; unfold errM; rw [hall.out, if_pos rfl, if_pos (by have := H1.out; omega), if_pos (by have := H2.out; omega)]), hB⟩
        · have q : decide ((16 : Int) < (n : Int)) = false := decide_eq_false (by omega)
          have H2 : Hid (¬ 16 < l.length) := Lib.hid (by rw [HL.out]; exact h16)
          clear h16
          go_wp2_with fail
          refine (HS.out _).mono ?_
          rintro e w' ⟨rfl, rfl⟩
          go_wp2
          go_ret
          exact ⟨retI (by rw [← HE.out]; unfold errM; rw [hall.out, if_pos rfl, if_pos (by have := H1.out; omega), if_neg (by have := H2.out; omega)]), hB⟩

theorem pow8 {k : Nat} (h : k ≤ 8) : (2 : Int) ^ k ≤ 256 ∧ 0 < (2 : Int) ^ k := ⟨two_le8 h, two_pos k⟩
set_option maxRecDepth 100000 in
set_option maxHeartbeats 1000000 in
theorem rbit_any (c : Nat) (w : World) (hc : c ≤ 8) : Calls Tryd.prog 35 #[.int .i64 (c : Int)] w fun e w' => e = .returned (.int .i64 (2 ^ c)) ∧ w = w' := by
  go_enter Tryd.func35, Tryd.ntmps35
  go_wp2
  go_loopw [3, 4] (fun v i wr => ∃ (k : Nat) (x : Int), k ≤ c ∧ i = .int .i64 (k : Int) ∧ v = .int .i64 x ∧ Hid (x = 2 ^ k) ∧ 0 < x ∧ x ≤ 256 ∧ wr = w) (fun _ i _ => c - (intOf i).toNat)
  case atStart => exact ⟨0, 1, by omega, rfl, rfl, Lib.hid (by simp), by omega, by omega, rfl⟩
  case round =>
    obtain ⟨k, x, hk, rfl, rfl, HX, x0, x1, rfl⟩ := hrel
    by_cases hlt : k < c
    · have e : IntKind.i64.wrap (x * 2) = x * 2 := by rw [IntKind.wrap_i64]; omega
      have HN : Hid (x * 2 = 2 ^ (k + 1)) := Lib.hid (by rw [HX.out, Int.pow_succ])
      have hx2 : x * 2 ≤ 256 := by rw [HN.out]; exact (pow8 (by omega)).1
      go_wp2
      go_roundw
      case rel => exact ⟨k + 1, x * 2, by omega, by go_num, by first | rfl | go_num, HN, by omega, hx2, by first | rfl | trivial⟩
      case measure => simp [intOf] <;> omega
    · obtain rfl : c = k := by omega
      go_wp2
      go_ret
      exact ⟨retI HX.out, rfl⟩

/-- of numbers of 32 bits what both have -/
theorem and_nat {x y : Int} (hx : U32 x) (hy : U32 y) : bits .and .u32 x y = ((x.toNat &&& y.toNat : Nat) : Int) := u32_and _ _ hx.1 hx.2 hy.1 hy.2
theorem and_lt {x y : Nat} (h : x < 256) : x &&& y < 256 := Nat.lt_of_le_of_lt Nat.and_le_left h

set_option maxRecDepth 100000 in
set_option maxHeartbeats 1000000 in
theorem rallows_any (x y s : Int) (w : World) (hx : U32 x) (hs : U32 s) : Calls Tryd.prog 15 #[.agg #[.int .u32 x, .int .u32 y], .int .u32 s] w (Said (.int .u32 ((x.toNat &&& s.toNat : Nat) : Int)) w) := by
  have HB := Lib.hid ((Below.refl w.heap.size w).alloc (Nat.le_refl _) (.cells #[.int .u32 x, .int .u32 y] 25))
  have HV := Lib.hid (and_nat hx hs)
  clear hx hs
  go_enter Tryd.func15, Tryd.ntmps15
  go_wp2
  go_ret
  exact ⟨by simp [HV.out], HB.out⟩

end Go.Proofs.YtcdlhfhachpcdaaDoor
