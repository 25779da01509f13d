/-
  MaskFewer's walk, whatever the masks, the sets. No statement is proved here.
-/
import Derived.Test.YtcdlhfhachpcdaaDoorFe
namespace Go.Proofs.YtcdlhfhachpcdaaDoor
open Go.RowKit

set_option maxRecDepth 100000 in
set_option maxHeartbeats 2000000 in
theorem fewer_no (A : Option Addr) (N C : Nat) (s m E : Int) (w : World) (h12 : (N : Int) ≤ 12) (hE : (E != 0) = true) (HD : Hid (Db w)) (HK : Hid (TellsD 8 #[] (.bool true)))
    (HM : Hid (∀ u : World, Below w.heap.size w u → Calls Tryd.prog 20 #[.slice A N C, .int .u32 s] u (Said (.tuple #[.int .i64 0, .int .i64 E]) u))) :
    Calls Tryd.prog 6 #[.slice A N C, .int .u32 s, .int .u32 m] w (Said (.bool true) w) := by
  go_enter Tryd.func6, Tryd.ntmps6
  go_wp2_with fail
  refine (HK.out _ HD.out).mono ?_
  rintro e w1 ⟨rfl, B1⟩
  go_wp2_with fail
  refine (HM.out _ B1).mono ?_
  rintro e w2 ⟨rfl, h9⟩
  have B2 := Lib.hid (B1.trans (h9.mono B1.size))
  clear h9 B1
  go_wp2
  go_ret
  exact ⟨rfl, B2.out⟩
set_option maxRecDepth 100000 in
set_option maxHeartbeats 2000000 in
theorem fewer_no_long (ad : Addr) (M C : Nat) (s m E : Int) (w : World) (hM : (12 : Int) < (M : Int)) (hC : (12 : Int) ≤ (C : Int)) (hE : (E != 0) = true) (HD : Hid (Db w)) (HK : Hid (TellsD 8 #[] (.bool true)))
    (HM : Hid (∀ u : World, Below w.heap.size w u → Calls Tryd.prog 20 #[.slice (some ad) 12 C, .int .u32 s] u (Said (.tuple #[.int .i64 0, .int .i64 E]) u))) :
    Calls Tryd.prog 6 #[.slice (some ad) M C, .int .u32 s, .int .u32 m] w (Said (.bool true) w) := by
  go_enter Tryd.func6, Tryd.ntmps6
  go_wp2_with fail
  refine (HK.out _ HD.out).mono ?_
  rintro e w1 ⟨rfl, B1⟩
  go_wp2_with fail
  refine (HM.out _ B1).mono ?_
  rintro e w2 ⟨rfl, h9⟩
  have B2 := Lib.hid (B1.trans (h9.mono B1.size))
  clear h9 B1
  go_wp2
  go_ret
  exact ⟨rfl, B2.out⟩

theorem hards_erase (L : List (Int × Int)) (j : Nat) : hards (L.eraseIdx j) = (hards L).eraseIdx j := by
  unfold hards
  rw [List.eraseIdx_eq_take_drop_succ, List.eraseIdx_eq_take_drop_succ, List.map_append, List.map_take, List.map_drop]
theorem all_erase {L : List (Int × Int)} (h : L.all rightM = true) (j : Nat) : (L.eraseIdx j).all rightM = true :=
  List.all_eq_true.2 fun m hm => List.all_eq_true.1 h m ((List.eraseIdx_sublist L j).subset hm)
theorem length_erase {L : List (Int × Int)} {j : Nat} (h : j < L.length) : (L.eraseIdx j).length = L.length - 1 := by
  rw [List.length_eraseIdx, if_pos h]
theorem most_yes_val {L : List (Int × Int)} {s : Nat} (h : errM L (s : Int) = 0) : mostR L (s : Int) = (((mostN (hards L) s : Nat) : Int), 0) := by
  unfold mostR
  rw [if_pos h, Int.toNat_natCast]
theorem most_no_val {L : List (Int × Int)} {s : Int} (h : ¬ errM L s = 0) : mostR L s = (0, errM L s) := if_neg h

theorem fewer_walk (HMo : MMostOk) (HFi : MFitsOk) (hk : ∀ u, Db u → Calls Tryd.prog 8 #[] u (Said (.bool true) u)) (A : Option Addr) (n c : Nat) (l : List (Int × Int)) (s m : Int) (w : World) (hD : Db w) (hR : Reads w w.heap.size 2 A n (mvs l)) (hnc : n ≤ c)
    (hU : ∀ (k : Nat) (m : Int × Int), l[k]? = some m → UM m) (hs : U32 s) (hm : U32 m) : Calls Tryd.prog 6 #[.slice A n c, .int .u32 s, .int .u32 m] w (Said (.bool true) w) := by
  have hl := masks_len hR
  obtain ⟨N, hN⟩ : ∃ N, N = min n 12 := ⟨_, rfl⟩
  obtain ⟨L, hL⟩ : ∃ L, L = l.take N := ⟨_, rfl⟩
  have hLl : L.length = N := by rw [hL, List.length_take]; omega
  have hUL : ∀ (k : Nat) (m : Int × Int), L[k]? = some m → UM m := fun k m h => hU k m (by
    rw [hL, List.getElem?_take] at h
    split at h
    · exact h
    · cases h)
  have hRL : Reads w w.heap.size 2 A N (mvs L) := by rw [hL]; exact reads_take hR (by omega)
  have hAt0 : MAt w A N c L := ⟨hRL, by omega, by omega, hUL, hD⟩
  have hmo := fun (x : Int) (hx : U32 x) (u : World) (h : Below w.heap.size w u) => HMo A N c L x u (hAt0.below h) hx
  have hm1 := hmo s hs
  by_cases hE : errM L s = 0
  · obtain ⟨hall, h256, h16⟩ := err_none hE
    obtain ⟨S, rfl⟩ := Int.eq_ofNat_of_zero_le hs.1
    obtain ⟨mm, rfl⟩ := Int.eq_ofNat_of_zero_le hm.1
    have h8 : S < 256 := by omega
    rw [most_yes_val hE] at hm1
    have hHl : (hards L).length = N := by rw [length_hards, hLl]
    have hn0 : mostN (hards L) S ≤ N := by have := most_len (hards L) S; omega
    have hpc := most_pop (hards L) S
    have hfit := fun (u : World) (h : Below w.heap.size w u) => HFi A N c L S u (hAt0.below h) hs
    have hfv : fitsR L (S : Int) = decide (mostN (hards L) S = N) := by
      unfold fitsR
      rw [decide_eq_true hE, Bool.true_and, Int.toNat_natCast, hLl]
    rw [hfv] at hfit
    have hct := fun u => count_pop h8 u
    have hm2 : ∀ (j : Nat), j < N → ∀ (A : Option Addr) (n c : Nat) (u : World), MAt u A n c (L.eraseIdx j) → Calls Tryd.prog 20 #[.slice A n c, .int .u32 (S : Int)] u (Said (.tuple #[.int .i64 ((mostN (hards (L.eraseIdx j)) S : Nat) : Int), .int .i64 0]) u) := fun j hj A n c u hat => by
      have := HMo A n c (L.eraseIdx j) (S : Int) u hat hs
      rwa [most_yes_val (err_zero (all_erase hall j) h256 (by rw [length_erase (by omega)]; omega))] at this
    have hkf : ∀ j, j < N → mostN (hards (L.eraseIdx j)) S ≤ mostN (hards L) S ∧ mostN (hards L) S ≤ mostN (hards (L.eraseIdx j)) S + 1 ∧ mostN (hards (L.eraseIdx j)) S ≤ N - 1 := fun j hj => by
      have h1 := most_without (hards L) S j
      rw [← hards_erase] at h1
      have h2 := most_len (hards (L.eraseIdx j)) S
      rw [length_hards, length_erase (by omega), hLl] at h2
      exact ⟨h1.1, h1.2, h2⟩
    have hX : bits .or .u32 (S : Int) (mm : Int) = ((S ||| mm : Nat) : Int) := by
      rw [u32_or _ _ hs.1 hs.2 hm.1 hm.2, Int.toNat_natCast, Int.toNat_natCast]
    have hXu : S ||| mm < 4294967296 := Nat.or_lt_two_pow (n := 32) (by omega) (by have := hm.2; omega)
    have hm3 := hmo ((S ||| mm : Nat) : Int) ⟨by omega, by omega⟩
    by_cases hX8 : S ||| mm < 256
    · have hmm : mm < 256 := Nat.lt_of_le_of_lt Nat.right_le_or hX8
      rw [most_yes_val (err_zero hall (by omega) h16)] at hm3
      have hcm := fun u => count_pop hmm u
      have hk3 : mostN (hards L) S ≤ mostN (hards L) (S ||| mm) := most_more fun b hb => by rw [Nat.testBit_or, hb]; rfl
      have hpm := most_other (hards L) S mm
      have pm8 : popN mm ≤ 8 := cnt_le _ _
      by_cases ht : mostN (hards L) S = N
      · rw [decide_eq_true ht] at hfit
        have hb : (((mostN (hards L) S : Nat) : Int) == (N : Int)) = true := by simp; omega
        have hkf2 : ∀ j, j < N → mostN (hards (L.eraseIdx j)) S ≤ mostN (hards L) S ∧ mostN (hards L) S ≤ mostN (hards (L.eraseIdx j)) S + 1 ∧ mostN (hards (L.eraseIdx j)) S = N - 1 := fun j hj => by
          have := hkf j hj
          omega
        by_cases hn : 12 < n
        · obtain ⟨ad, rfl, _, _⟩ := hR.2 (by omega)
          exact fewer_ok_long_true ad n N c _ _ (by omega) (Lib.hid (by omega)) (by omega) L S mm _ (fun j => mostN (hards (L.eraseIdx j)) S) w (by omega) (by omega) (Lib.hid hRL) (Lib.hid hUL) (by omega) (by omega) hb hX (Lib.hid hkf2) _ _ (by omega) (by omega) (by omega) (Lib.hid hD) (Lib.hid hk) (Lib.hid hm1) (Lib.hid hfit) (Lib.hid hct) (Lib.hid hm2) (Lib.hid hm3) (Lib.hid hcm)
        · obtain rfl : N = n := by omega
          exact fewer_ok_true A N c _ _ L S mm _ (fun j => mostN (hards (L.eraseIdx j)) S) w (by omega) (by omega) (Lib.hid hRL) (Lib.hid hUL) (by omega) (by omega) hb hX (Lib.hid hkf2) _ _ (by omega) (by omega) (by omega) (Lib.hid hD) (Lib.hid hk) (Lib.hid hm1) (Lib.hid hfit) (Lib.hid hct) (Lib.hid hm2) (Lib.hid hm3) (Lib.hid hcm)
      · rw [decide_eq_false ht] at hfit
        have hb : (((mostN (hards L) S : Nat) : Int) == (N : Int)) = false := by simp; omega
        have hkf2 : ∀ j, j < N → mostN (hards (L.eraseIdx j)) S ≤ mostN (hards L) S ∧ mostN (hards L) S ≤ mostN (hards (L.eraseIdx j)) S + 1 ∧ True := fun j hj => ⟨(hkf j hj).1, (hkf j hj).2.1, trivial⟩
        by_cases hn : 12 < n
        · obtain ⟨ad, rfl, _, _⟩ := hR.2 (by omega)
          exact fewer_ok_long_false ad n N c _ _ (by omega) (Lib.hid (by omega)) (by omega) L S mm _ (fun j => mostN (hards (L.eraseIdx j)) S) w (by omega) (by omega) (Lib.hid hRL) (Lib.hid hUL) (by omega) (by omega) hb hX (Lib.hid hkf2) _ _ (by omega) (by omega) (by omega) (Lib.hid hD) (Lib.hid hk) (Lib.hid hm1) (Lib.hid hfit) (Lib.hid hct) (Lib.hid hm2) (Lib.hid hm3) (Lib.hid hcm)
        · obtain rfl : N = n := by omega
          exact fewer_ok_false A N c _ _ L S mm _ (fun j => mostN (hards (L.eraseIdx j)) S) w (by omega) (by omega) (Lib.hid hRL) (Lib.hid hUL) (by omega) (by omega) hb hX (Lib.hid hkf2) _ _ (by omega) (by omega) (by omega) (Lib.hid hD) (Lib.hid hk) (Lib.hid hm1) (Lib.hid hfit) (Lib.hid hct) (Lib.hid hm2) (Lib.hid hm3) (Lib.hid hcm)
    · have hE3 : errM L ((S ||| mm : Nat) : Int) = 140 := by
        unfold errM
        rw [if_pos hall, if_neg (by omega)]
      rw [most_no_val (by rw [hE3]; decide), hE3] at hm3
      by_cases ht : mostN (hards L) S = N
      · rw [decide_eq_true ht] at hfit
        have hb : (((mostN (hards L) S : Nat) : Int) == (N : Int)) = true := by simp; omega
        have hkf2 : ∀ j, j < N → mostN (hards (L.eraseIdx j)) S ≤ mostN (hards L) S ∧ mostN (hards L) S ≤ mostN (hards (L.eraseIdx j)) S + 1 ∧ mostN (hards (L.eraseIdx j)) S = N - 1 := fun j hj => by
          have := hkf j hj
          omega
        by_cases hn : 12 < n
        · obtain ⟨ad, rfl, _, _⟩ := hR.2 (by omega)
          exact fewer_err_long_true ad n N c _ _ (by omega) (Lib.hid (by omega)) (by omega) L S mm _ (fun j => mostN (hards (L.eraseIdx j)) S) w (by omega) (by omega) (Lib.hid hRL) (Lib.hid hUL) (by omega) (by omega) hb hX (Lib.hid hkf2) _ _ rfl (Lib.hid hD) (Lib.hid hk) (Lib.hid hm1) (Lib.hid hfit) (Lib.hid hct) (Lib.hid hm2) (Lib.hid hm3)
        · obtain rfl : N = n := by omega
          exact fewer_err_true A N c _ _ L S mm _ (fun j => mostN (hards (L.eraseIdx j)) S) w (by omega) (by omega) (Lib.hid hRL) (Lib.hid hUL) (by omega) (by omega) hb hX (Lib.hid hkf2) _ _ rfl (Lib.hid hD) (Lib.hid hk) (Lib.hid hm1) (Lib.hid hfit) (Lib.hid hct) (Lib.hid hm2) (Lib.hid hm3)
      · rw [decide_eq_false ht] at hfit
        have hb : (((mostN (hards L) S : Nat) : Int) == (N : Int)) = false := by simp; omega
        have hkf2 : ∀ j, j < N → mostN (hards (L.eraseIdx j)) S ≤ mostN (hards L) S ∧ mostN (hards L) S ≤ mostN (hards (L.eraseIdx j)) S + 1 ∧ True := fun j hj => ⟨(hkf j hj).1, (hkf j hj).2.1, trivial⟩
        by_cases hn : 12 < n
        · obtain ⟨ad, rfl, _, _⟩ := hR.2 (by omega)
          exact fewer_err_long_false ad n N c _ _ (by omega) (Lib.hid (by omega)) (by omega) L S mm _ (fun j => mostN (hards (L.eraseIdx j)) S) w (by omega) (by omega) (Lib.hid hRL) (Lib.hid hUL) (by omega) (by omega) hb hX (Lib.hid hkf2) _ _ rfl (Lib.hid hD) (Lib.hid hk) (Lib.hid hm1) (Lib.hid hfit) (Lib.hid hct) (Lib.hid hm2) (Lib.hid hm3)
        · obtain rfl : N = n := by omega
          exact fewer_err_false A N c _ _ L S mm _ (fun j => mostN (hards (L.eraseIdx j)) S) w (by omega) (by omega) (Lib.hid hRL) (Lib.hid hUL) (by omega) (by omega) hb hX (Lib.hid hkf2) _ _ rfl (Lib.hid hD) (Lib.hid hk) (Lib.hid hm1) (Lib.hid hfit) (Lib.hid hct) (Lib.hid hm2) (Lib.hid hm3)
  · rw [most_no_val hE] at hm1
    have e0 : (errM L s != 0) = true := by simpa using hE
    by_cases hn : 12 < n
    · obtain ⟨ad, rfl, _, _⟩ := hR.2 (by omega)
      obtain rfl : N = 12 := by omega
      exact fewer_no_long ad n c s m _ w (by omega) (by omega) e0 (Lib.hid hD) (Lib.hid hk) (Lib.hid hm1)
    · obtain rfl : N = n := by omega
      exact fewer_no A N c s m _ w (by omega) e0 (Lib.hid hD) (Lib.hid hk) (Lib.hid hm1)

end Go.Proofs.YtcdlhfhachpcdaaDoor
