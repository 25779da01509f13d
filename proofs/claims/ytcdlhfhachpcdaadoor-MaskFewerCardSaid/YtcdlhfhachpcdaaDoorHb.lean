/-
  MaskHall's walk, whatever the masks, the set. No statement is proved here.
-/
import Derived.Test.YtcdlhfhachpcdaaDoorHa
namespace Go.Proofs.YtcdlhfhachpcdaaDoor
open Go.RowKit

set_option maxRecDepth 100000 in
set_option maxHeartbeats 2000000 in
theorem hall_err (A : Option Addr) (N C : Nat) (s E : Int) (w : World) (h10 : (N : Int) ≤ 10) (hE : (E != 0) = true) (hE4 : (E != 4) = true) (HD : Hid (Db w)) (HK : Hid (TellsD 8 #[] (.bool true)))
    (HC : Hid (∀ u : World, Below w.heap.size w u → Calls Tryd.prog 19 #[.slice A N C, .int .u32 s] u (GetsL ([], E) u))) :
    Calls Tryd.prog 5 #[.slice A N C, .int .u32 s] w (Said (.bool true) w) := by
  go_enter Tryd.func5, Tryd.ntmps5
  go_wp2_with fail
  refine (HK.out _ HD.out).mono ?_
  rintro e w1 ⟨rfl, B1⟩
  go_wp2_with fail
  refine (HC.out _ B1).mono ?_
  rintro e w2 ⟨A3, n3, c3, rfl, hn3, hc3, r3, h9⟩
  have B2 := Lib.hid (B1.trans (h9.mono B1.size))
  obtain rfl : n3 = 0 := hn3
  clear h9 B1 hc3 r3
  go_wp2
  go_ret
  exact ⟨rfl, B2.out⟩
set_option maxRecDepth 100000 in
set_option maxHeartbeats 2000000 in
theorem hall_err_long (ad : Addr) (M C : Nat) (s E : Int) (w : World) (hM : (10 : Int) < (M : Int)) (hC : (10 : Int) ≤ (C : Int)) (hE : (E != 0) = true) (hE4 : (E != 4) = true) (HD : Hid (Db w)) (HK : Hid (TellsD 8 #[] (.bool true)))
    (HC : Hid (∀ u : World, Below w.heap.size w u → Calls Tryd.prog 19 #[.slice (some ad) 10 C, .int .u32 s] u (GetsL ([], E) u))) :
    Calls Tryd.prog 5 #[.slice (some ad) M C, .int .u32 s] w (Said (.bool true) w) := by
  go_enter Tryd.func5, Tryd.ntmps5
  go_wp2_with fail
  refine (HK.out _ HD.out).mono ?_
  rintro e w1 ⟨rfl, B1⟩
  go_wp2_with fail
  refine (HC.out _ B1).mono ?_
  rintro e w2 ⟨A3, n3, c3, rfl, hn3, hc3, r3, h9⟩
  have B2 := Lib.hid (B1.trans (h9.mono B1.size))
  obtain rfl : n3 = 0 := hn3
  clear h9 B1 hc3 r3
  go_wp2
  go_ret
  exact ⟨rfl, B2.out⟩

theorem err_no4 {l : List (Int × Int)} {s : Int} : (errM l s == 4) = false := by
  unfold errM
  split
  · split
    · split <;> rfl
    · rfl
  · rfl
theorem err_not4 {l : List (Int × Int)} {s : Int} : (errM l s != 4) = true := by
  unfold bne
  rw [err_no4]
  rfl
theorem wrap_ten {n : Nat} (h : n ≤ 10) : IntKind.i64.wrap ((2 : Int) ^ n) = ((2 ^ n : Nat) : Int) ∧ ((2 ^ n : Nat) : Int) ≤ 1024 := by
  have h1 : (2 : Nat) ^ n ≤ 2 ^ 10 := Nat.pow_le_pow_right (by omega) h
  rw [two_nat]
  generalize (2 : Nat) ^ n = x at *
  refine ⟨?_, by omega⟩
  rw [IntKind.wrap_i64]
  omega
theorem hard_at {L : List (Int × Int)} {k : Nat} {x y : Int} (h : L[k]? = some (x, y)) : (hards L).getD k 0 = x.toNat := by
  unfold hards
  rw [List.getD_eq_getElem?_getD, List.getElem?_map, h]
  rfl
theorem right_at {L : List (Int × Int)} (h : L.all rightM = true) {k : Nat} {m : Int × Int} (hk : L[k]? = some m) : rightM m = true := List.all_eq_true.1 h m (List.mem_of_getElem? hk)

theorem hall_walk (HCh : MChoiceOk) (HAl : MAllowsOk) (hk : ∀ u, Db u → Calls Tryd.prog 8 #[] u (Said (.bool true) u)) (A : Option Addr) (n c : Nat) (l : List (Int × Int)) (s : Int) (w : World) (hD : Db w) (hR : Reads w w.heap.size 2 A n (mvs l)) (hnc : n ≤ c)
    (hU : ∀ (k : Nat) (m : Int × Int), l[k]? = some m → UM m) (hs : U32 s) : Calls Tryd.prog 5 #[.slice A n c, .int .u32 s] w (Said (.bool true) w) := by
  have hl := masks_len hR
  obtain ⟨N, hN⟩ : ∃ N, N = min n 10 := ⟨_, rfl⟩
  obtain ⟨L, hL⟩ : ∃ L, L = l.take N := ⟨_, rfl⟩
  have hLl : L.length = N := by rw [hL, List.length_take]; omega
  have hUL : ∀ (k : Nat) (m : Int × Int), L[k]? = some m → UM m := fun k m h => hU k m (by
    rw [hL, List.getElem?_take] at h
    split at h
    · exact h
    · cases h)
  have hRL : Reads w w.heap.size 2 A N (mvs L) := by rw [hL]; exact reads_take hR (by omega)
  have hAt0 : MAt w A N c L := ⟨hRL, by omega, by omega, hUL, hD⟩
  have hch := fun (u : World) (h : Below w.heap.size w u) => HCh A N c L s u (hAt0.below h) hs
  by_cases hE : errM L s = 0
  · obtain ⟨hall, h256, h16⟩ := err_none hE
    obtain ⟨S, rfl⟩ := Int.eq_ofNat_of_zero_le hs.1
    have h8 : S < 256 := by omega
    obtain ⟨hP, P1⟩ := wrap_ten (n := N) (by omega)
    have hHl : (hards L).length = N := by rw [length_hards, hLl]
    have hA : ∀ (k : Nat) (x y : Int), L[k]? = some (x, y) → Tells 13 #[.agg #[.int .u32 x, .int .u32 y], .int .u32 (S : Int)] (.int .u32 (((hards L).getD k 0 &&& S : Nat) : Int)) := fun k x y h u => by
      obtain ⟨h1, h2⟩ := hUL k _ h
      have := HAl x y S u h1 h2 hs
      rw [hard_at h]
      have hal : allowsR (x, y) (S : Int) = x.toNat &&& S := by
        unfold allowsR alN
        rw [right_at hall h, decide_eq_true h256]
        rfl
      rwa [hal] at this
    have hB := hallB_most (H := hards L) (s := S)
    rw [hHl] at hB
    by_cases hM : mostN (hards L) S = L.length
    · rw [choice_yes hE hM] at hch
      have hm : mostN (hards L) S = (hards L).length := by rw [hM, length_hards]
      rw [decide_eq_true (by rw [hM, hLl])] at hB
      have hlen : (firstL (hards L) S).length = N := by rw [length_firstL hm, hHl]
      have hW : (∀ (k c : Nat), (firstL (hards L) S)[k]? = some c → c < 8 ∧ ((hards L).getD k 0 &&& S).testBit c = true) ∧ ∀ (i j c : Nat), i < j → (firstL (hards L) S)[i]? = some c → (firstL (hards L) S)[j]? = some c → False :=
        ⟨fun k c h => by obtain ⟨a, _, b⟩ := first_in hm k c h; exact ⟨a, b⟩, first_unlike hm⟩
      by_cases hn : 10 < n
      · obtain ⟨ad, rfl, _, _⟩ := hR.2 (by omega)
        exact hall_yes_long ad n N c (2 ^ N) (by omega) (Lib.hid (by omega)) (by omega) L S (hards L) _ w (by omega) (Lib.hid hRL) (Lib.hid hLl) (Lib.hid hHl) (Lib.hid h8) hP P1 (Lib.hid hB) (Lib.hid hlen) (Lib.hid hW) (Lib.hid hD) (Lib.hid hk) (Lib.hid hA) (Lib.hid hch)
      · obtain rfl : N = n := by omega
        exact hall_yes A N c (2 ^ N) L S (hards L) _ w (by omega) (Lib.hid hRL) (Lib.hid hLl) (Lib.hid hHl) (Lib.hid h8) hP P1 (Lib.hid hB) (Lib.hid hlen) (Lib.hid hW) (Lib.hid hD) (Lib.hid hk) (Lib.hid hA) (Lib.hid hch)
    · rw [choice_no hE hM] at hch
      rw [decide_eq_false (by rwa [hLl] at hM)] at hB
      by_cases hn : 10 < n
      · obtain ⟨ad, rfl, _, _⟩ := hR.2 (by omega)
        exact hall_no_long ad n N c (2 ^ N) (by omega) (Lib.hid (by omega)) (by omega) L S (hards L) w (by omega) (Lib.hid hRL) (Lib.hid hLl) (Lib.hid hHl) (Lib.hid h8) hP P1 (Lib.hid hB) (Lib.hid hD) (Lib.hid hk) (Lib.hid hA) (Lib.hid hch)
      · obtain rfl : N = n := by omega
        exact hall_no A N c (2 ^ N) L S (hards L) w (by omega) (Lib.hid hRL) (Lib.hid hLl) (Lib.hid hHl) (Lib.hid h8) hP P1 (Lib.hid hB) (Lib.hid hD) (Lib.hid hk) (Lib.hid hA) (Lib.hid hch)
  · rw [choice_err hE] at hch
    have e0 : (errM L s != 0) = true := by simpa using hE
    by_cases hn : 10 < n
    · obtain ⟨ad, rfl, _, _⟩ := hR.2 (by omega)
      obtain rfl : N = 10 := by omega
      exact hall_err_long ad n c s _ w (by omega) (by omega) e0 err_not4 (Lib.hid hD) (Lib.hid hk) (Lib.hid hch)
    · obtain rfl : N = n := by omega
      exact hall_err A N c s _ w (by omega) e0 err_not4 (Lib.hid hD) (Lib.hid hk) (Lib.hid hch)

end Go.Proofs.YtcdlhfhachpcdaaDoor
