/-
  MaskFirst's walk, whatever the masks, the set.
-/
import Derived.Test.YtcdlhfhachpcdaaDoorMy
import Derived.Test.YtcdlhfhachpcdaaDoorMo
namespace Go.Proofs.YtcdlhfhachpcdaaDoor
open Go.RowKit

set_option maxRecDepth 100000 in
set_option maxHeartbeats 2000000 in
theorem first_no (A : Option Addr) (N C : Nat) (s E : Int) (w : World) (h10 : (N : Int) ≤ 10) (hE : (E == 0) = false) (HD : Hid (Db w)) (HK : Hid (TellsD 8 #[] (.bool true)))
    (HC : Hid (∀ u : World, Below w.heap.size w u → Calls Tryd.prog 19 #[.slice A N C, .int .u32 s] u (GetsL ([], E) u))) :
    Calls Tryd.prog 7 #[.slice A N C, .int .u32 s] w (Said (.bool true) w) := by
  go_enter Tryd.func7, Tryd.ntmps7
  go_wp2_with fail
  refine (HK.out _ HD.out).mono ?_
  rintro e w1 ⟨rfl, B1⟩
  go_wp2_with fail
  refine (HC.out _ B1).mono ?_
  rintro e w2 ⟨A3, n3, c3, rfl, hn3, hc3, r3, h9⟩
  have B2 := Lib.hid (B1.trans (h9.mono B1.size))
  clear h9 B1 hn3 hc3 r3
  go_wp2
  go_ret
  exact ⟨rfl, B2.out⟩
set_option maxRecDepth 100000 in
set_option maxHeartbeats 2000000 in
theorem first_no_long (ad : Addr) (M C : Nat) (s E : Int) (w : World) (hM : (10 : Int) < (M : Int)) (hC : (10 : Int) ≤ (C : Int)) (hE : (E == 0) = false) (HD : Hid (Db w)) (HK : Hid (TellsD 8 #[] (.bool true)))
    (HC : Hid (∀ u : World, Below w.heap.size w u → Calls Tryd.prog 19 #[.slice (some ad) 10 C, .int .u32 s] u (GetsL ([], E) u))) :
    Calls Tryd.prog 7 #[.slice (some ad) M C, .int .u32 s] w (Said (.bool true) w) := by
  go_enter Tryd.func7, Tryd.ntmps7
  go_wp2_with fail
  refine (HK.out _ HD.out).mono ?_
  rintro e w1 ⟨rfl, B1⟩
  go_wp2_with fail
  refine (HC.out _ B1).mono ?_
  rintro e w2 ⟨A3, n3, c3, rfl, hn3, hc3, r3, h9⟩
  have B2 := Lib.hid (B1.trans (h9.mono B1.size))
  clear h9 B1 hn3 hc3 r3
  go_wp2
  go_ret
  exact ⟨rfl, B2.out⟩
set_option maxRecDepth 100000 in
set_option maxHeartbeats 2000000 in
theorem first_empty (A : Option Addr) (C : Nat) (s : Int) (w : World) (HD : Hid (Db w)) (HK : Hid (TellsD 8 #[] (.bool true)))
    (HC : Hid (∀ u : World, Below w.heap.size w u → Calls Tryd.prog 19 #[.slice A 0 C, .int .u32 s] u (GetsL ([], 0) u))) :
    Calls Tryd.prog 7 #[.slice A 0 C, .int .u32 s] w (Said (.bool true) w) := by
  go_enter Tryd.func7, Tryd.ntmps7
  go_wp2_with fail
  refine (HK.out _ HD.out).mono ?_
  rintro e w1 ⟨rfl, B1⟩
  go_wp2_with fail
  refine (HC.out _ B1).mono ?_
  rintro e w2 ⟨A3, n3, c3, rfl, hn3, hc3, r3, h9⟩
  have B2 := Lib.hid (B1.trans (h9.mono B1.size))
  obtain rfl : n3 = 0 := hn3
  clear h9 B1 hc3 r3
  go_wp2
  go_ret
  exact ⟨rfl, B2.out⟩

theorem reads_take {w : World} {B n N : Nat} {A : Option Addr} {l : List (Int × Int)} (h : Reads w B 2 A n (mvs l)) (hN : N ≤ n) : Reads w B 2 A N (mvs (l.take N)) := by
  have hl := masks_len h
  have hs : mvs l = mvs (l.take N) ++ mvs (l.drop N) := by
    unfold mvs
    rw [← flat_append, List.take_append_drop]
  have hlen : (mvs (l.take N)).length = N * 2 := by rw [length_mvs, List.length_take, Nat.min_eq_left (by omega)]
  refine ⟨hlen, fun h0 => ?_⟩
  obtain ⟨ad, e, hb, hc⟩ := h.2 (by omega)
  refine ⟨ad, e, hb, fun j u hj => hc j u ?_⟩
  rw [hs, List.getElem?_append_left (List.getElem?_eq_some_iff.1 hj).1]
  exact hj
theorem err_zero {l : List (Int × Int)} {s : Int} (h1 : l.all rightM = true) (h2 : s < 256) (h3 : l.length ≤ 16) : errM l s = 0 := by
  unfold errM
  rw [if_pos h1, if_pos h2, if_neg (by omega)]

theorem choice_yes {l : List (Int × Int)} {s : Nat} (he : errM l (s : Int) = 0) (hm : mostN (hards l) s = l.length) : choiceR l (s : Int) = (ints (firstL (hards l) s), 0) := by
  unfold choiceR
  rw [if_pos he, Int.toNat_natCast, if_pos hm]
theorem choice_no {l : List (Int × Int)} {s : Nat} (he : errM l (s : Int) = 0) (hm : mostN (hards l) s ≠ l.length) : choiceR l (s : Int) = ([], 4) := by
  unfold choiceR
  rw [if_pos he, Int.toNat_natCast, if_neg hm]
theorem choice_err {l : List (Int × Int)} {s : Int} (he : ¬ errM l s = 0) : choiceR l s = ([], errM l s) := if_neg he

theorem hards_cons (x y : Int) (T : List (Int × Int)) : hards ((x, y) :: T) = x.toNat :: hards T := rfl

theorem first_walk (HCh : MChoiceOk) (HAl : MAllowsOk) (HFi : MFitsOk) (hk : ∀ u, Db u → Calls Tryd.prog 8 #[] u (Said (.bool true) u)) (A : Option Addr) (n c : Nat) (l : List (Int × Int)) (s : Int) (w : World) (hD : Db w) (hR : Reads w w.heap.size 2 A n (mvs l)) (hnc : n ≤ c)
    (hU : ∀ (k : Nat) (m : Int × Int), l[k]? = some m → UM m) (hs : U32 s) : Calls Tryd.prog 7 #[.slice A n c, .int .u32 s] w (Said (.bool true) w) := by
  have hl := masks_len hR
  obtain ⟨N, hN⟩ : ∃ N, N = min n 10 := ⟨_, rfl⟩
  obtain ⟨L, hL⟩ : ∃ L, L = l.take N := ⟨_, rfl⟩
  have hLl : L.length = N := by rw [hL, List.length_take]; omega
  have hUL : ∀ (k : Nat) (m : Int × Int), L[k]? = some m → UM m := fun k m h => hU k m (by
    rw [hL, List.getElem?_take] at h
    split at h
    · exact h
    · cases h)
  have hAt0 : MAt w A N c L := ⟨by rw [hL]; exact reads_take hR (by omega), by omega, by omega, hUL, hD⟩
  have hAt : ∀ u : World, Below w.heap.size w u → MAt u A N c L := fun u h => hAt0.below h
  have hch := fun (u : World) (h : Below w.heap.size w u) => HCh A N c L s u (hAt u h) hs
  have hno : ∀ E : Int, (E == 0) = false → choiceR L s = ([], E) → Calls Tryd.prog 7 #[.slice A n c, .int .u32 s] w (Said (.bool true) w) := fun E hE he => by
    rw [he] at hch
    by_cases hn : 10 < n
    · obtain ⟨ad, rfl, _, _⟩ := hR.2 (by omega)
      obtain rfl : N = 10 := by omega
      exact first_no_long ad n c s E w (by omega) (by omega) hE (Lib.hid hD) (Lib.hid hk) (Lib.hid hch)
    · obtain rfl : N = n := by omega
      exact first_no A N c s E w (by omega) hE (Lib.hid hD) (Lib.hid hk) (Lib.hid hch)
  by_cases hE : errM L s = 0
  · obtain ⟨hall, h256, h16⟩ := err_none hE
    obtain ⟨S, rfl⟩ := Int.eq_ofNat_of_zero_le hs.1
    by_cases hM : mostN (hards L) S = L.length
    · rw [choice_yes hE hM] at hch
      clear hno
      cases hLc : L with
      | nil =>
        subst hLc
        obtain rfl : n = 0 := by simp at hLl; omega
        obtain rfl : N = 0 := by omega
        exact first_empty A c S w (Lib.hid hD) (Lib.hid hk) (Lib.hid hch)
      | cons m T =>
        obtain ⟨x, y⟩ := m
        subst hLc
        clear hL
        have hT : T.length + 1 = N := by rw [← hLl]; rfl
        rw [hards_cons] at hM hch
        obtain ⟨c0, hc0⟩ := first_there (t := hards T) (by rw [hM, length_hards]; rfl)
        obtain ⟨h8, hb, hm2, hmin⟩ := first_facts hc0
        rw [length_hards] at hm2 hmin
        rw [first_cons hc0] at hch
        have hallT : T.all rightM = true := by
          rw [List.all_cons, Bool.and_eq_true] at hall; exact hall.2
        have hrm : rightM (x, y) = true := by
          rw [List.all_cons, Bool.and_eq_true] at hall; exact hall.1
        have h16T : T.length ≤ 16 := by omega
        obtain ⟨hux, huy⟩ := hUL 0 (x, y) rfl
        obtain ⟨ad, rfl, hadb, hcl⟩ := hAt0.1.2 (by omega)
        obtain ⟨C, rfl⟩ : ∃ C, c = C + 1 := ⟨c - 1, by omega⟩
        have hd0 := hcl 0 (.int .u32 x) rfl
        have hd1 := hcl 1 (.int .u32 y) rfl
        have eT : N - 1 = T.length := by omega
        obtain ⟨rest, hrest⟩ : ∃ r, (if C + 1 = 1 then some ad else some (⟨ad.block, ad.off + 2, none⟩ : Addr)) = r := ⟨_, rfl⟩
        have hAtR : ∀ u : World, Below w.heap.size w u → MAt u rest (N - 1) (C + 1 - 1) T := fun u h => by
          have h1 := hAt u h
          rw [eT, Nat.add_sub_cancel]
          rw [← hT] at h1
          rw [← hrest]
          by_cases hC : C + 1 = 1
          · obtain rfl : C = 0 := by omega
            have hT0 : T.length = 0 := by omega
            rw [List.length_eq_zero_iff.1 hT0, if_pos rfl]
            exact ⟨⟨rfl, fun h => absurd h (by simp)⟩, by simp, by simp, fun k m h => by simp at h, h1.2.2.2.2⟩
          · rw [if_neg hC]
            exact h1.rest
        have hal : allowsR (x, y) (S : Int) = x.toNat &&& S := by
          unfold allowsR alN
          rw [hrm, decide_eq_true h256]
          rfl
        have hbit : ∀ k : Nat, k < 8 → hasB ((x.toNat &&& S : Nat) : Int) (k : Int) = (x.toNat &&& S).testBit k := fun k hk => has_bit hk
        have hS : S < 256 := by omega
        have halt : (x.toNat &&& S) < 256 := Nat.lt_of_le_of_lt Nat.and_le_right hS
        have HA : Tells 13 #[.agg #[.int .u32 x, .int .u32 y], .int .u32 (S : Int)] (.int .u32 ((x.toNat &&& S : Nat) : Int)) := fun u => by
          have := HAl x y S u hux huy hs
          rwa [hal] at this
        have HH : ∀ k : Nat, Tells 27 #[.int .u32 ((x.toNat &&& S : Nat) : Int), .int .i64 (k : Int)] (.bool (hasB ((x.toNat &&& S : Nat) : Int) (k : Int))) := fun k => Tells.of_same fun u => has_any _ _ u (by omega) (by omega)
        have hsub : ∀ k, (S - 2 ^ k : Nat) < 256 := fun k => Nat.lt_of_le_of_lt (Nat.sub_le _ _) hS
        have HC2 : ∀ u : World, Below w.heap.size w u → Calls Tryd.prog 19 #[.slice rest (N - 1) (C + 1 - 1), .int .u32 ((S - 2 ^ c0 : Nat) : Int)] u (GetsL (ints (firstL (hards T) (S - 2 ^ c0)), 0) u) := fun u h => by
          have := HCh rest (N - 1) (C + 1 - 1) T ((S - 2 ^ c0 : Nat) : Int) u (hAtR u h) ⟨by omega, by have := hsub c0; omega⟩
          rwa [choice_yes (err_zero hallT (by have := hsub c0; omega) h16T) hm2] at this
        have HF : ∀ k : Nat, k < c0 → hasB ((x.toNat &&& S : Nat) : Int) (k : Int) = true → ∀ u : World, Below w.heap.size w u → Calls Tryd.prog 21 #[.slice rest (N - 1) (C + 1 - 1), .int .u32 ((S - 2 ^ k : Nat) : Int)] u (Said (.bool false) u) := fun k hk hkb u h => by
          have := HFi rest (N - 1) (C + 1 - 1) T ((S - 2 ^ k : Nat) : Int) u (hAtR u h) ⟨by omega, by have := hsub k; omega⟩
          have hv : fitsR T ((S - 2 ^ k : Nat) : Int) = false := by
            unfold fitsR
            rw [Int.toNat_natCast, decide_eq_false (hmin k hk (by rw [← hbit k (by omega)]; exact hkb)), Bool.and_false]
          rwa [hv] at this
        have HO : ∀ k : Nat, k < 8 → hasB ((x.toNat &&& S : Nat) : Int) (k : Int) = true → bits .andNot .u32 (S : Int) (2 ^ k) = ((S - 2 ^ k : Nat) : Int) := fun k hk hkb => by
          rw [hbit k hk, Nat.testBit_and, Bool.and_eq_true] at hkb
          exact out_bit hS hk hkb.2
        have hbc : hasB ((x.toNat &&& S : Nat) : Int) (c0 : Int) = true := by rw [hbit c0 h8]; exact hb
        have hlen : (ints (firstL (hards T) (S - 2 ^ c0))).length = T.length := by
          rw [length_ints, length_firstL (by rw [hm2, length_hards]), length_hards]
        by_cases hn : 10 < n
        · exact first_long n N (C + 1) (by omega) (Lib.hid (by omega)) (by omega) ad rest T.length x y _ S c0 _ (fun k => hasB ((x.toNat &&& S : Nat) : Int) (k : Int)) w hrest hT (by omega) (by omega) (by omega) (by simp; omega) (by omega) hadb hd0 hd1 h8 (Lib.hid hlen) (Lib.hid hD) (Lib.hid hk) (Lib.hid hch) (Lib.hid HC2) (Lib.hid HA) (Lib.hid HH) (Lib.hid HF) (Lib.hid HO) hbc
        · obtain rfl : N = n := by omega
          exact first_some ad rest T.length N (C + 1) x y _ S c0 _ (fun k => hasB ((x.toNat &&& S : Nat) : Int) (k : Int)) w hrest hT (by omega) (by omega) (by omega) (by simp; omega) (by omega) hadb hd0 hd1 h8 (Lib.hid hlen) (Lib.hid hD) (Lib.hid hk) (Lib.hid hch) (Lib.hid HC2) (Lib.hid HA) (Lib.hid HH) (Lib.hid HF) (Lib.hid HO) hbc
    · exact hno 4 rfl (choice_no hE hM)
  · exact hno (errM L s) (by simpa using hE) (choice_err hE)

end Go.Proofs.YtcdlhfhachpcdaaDoor
