/-
  MaskChooses' walk, on what is asked of the landed calls.
-/
import Derived.Test.YtcdlhfhachpcdaaDoorMf
namespace Go.Proofs.YtcdlhfhachpcdaaDoor
open Go.RowKit

theorem mvs_ones (l : List (Int × Int)) : ∀ u ∈ mvs l, u.oneCell' = true := flat_all mv (fun a u hu => by
  unfold mv at hu
  simp only [List.mem_cons, List.not_mem_nil, or_false] at hu
  rcases hu with rfl | rfl <;> rfl) l
theorem mask_info : (Tryd.prog.info? 25).map (fun i => (i.zero, i.size, i.bytes)) = some (some (.agg #[.int .u32 0, .int .u32 0]), 2, 8) := by kernel_rfl

set_option maxRecDepth 100000 in
set_option maxHeartbeats 16000000 in
theorem chooses_no (A : Option Addr) (n c : Nat) (l : List (Int × Int)) (s : Int) (E : Int) (w : World) (hR : Reads w w.heap.size 2 A n (mvs l)) (h60 : n ≤ 60) (hU : ∀ (k : Nat) (m : Int × Int), l[k]? = some m → UM m) (hE : (E == 0) = false)
    (HD : Hid (Db w))
    (HK : Hid (TellsD 8 #[] (.bool true)))
    (HC : Hid (∀ (A : Option Addr) (n c : Nat) (u : World), MAt u A n c l → Calls Tryd.prog 19 #[.slice A n c, .int .u32 s] u (GetsL ([], E) u)))
    (HM : Hid (∀ (A : Option Addr) (n c : Nat) (u : World), MAt u A n c l → Calls Tryd.prog 20 #[.slice A n c, .int .u32 s] u (Said (.tuple #[.int .i64 0, .int .i64 E]) u)))
    (HF : Hid (∀ (A : Option Addr) (n c : Nat) (u : World), MAt u A n c l → Calls Tryd.prog 21 #[.slice A n c, .int .u32 s] u (Said (.bool false) u)))
    (HE : Hid (∀ u : World, Below w.heap.size w u → Calls Tryd.prog 22 #[.slice A n c, .int .u32 s] u (Said (.int .i64 E) u))) :
    Calls Tryd.prog 4 #[.slice A n c, .int .u32 s] w (Said (.bool true) w) := by
  obtain ⟨i0, hi0, hz0, hz1, hz2⟩ := info_parts mask_info
  have hl := masks_len hR
  go_enter Tryd.func4, Tryd.ntmps4
  go_wp2_with fail
  refine (HK.out _ HD.out).mono ?_
  rintro e w1 ⟨rfl, h1⟩
  have HR := Lib.hid ((hR.below h1).alloc h1.size (.cells #[] 25))
  have B1 := Lib.hid (h1.alloc h1.size (.cells #[] 25))
  have B0 := Lib.hid h1
  clear hR h1
  go_wp2_with (
    at_builtin
    refine wpList_append_any _ rfl (.tmp 19) (.tmp 20) 37 rfl w1.heap.size 25 i0 (.agg #[.int .u32 0, .int .u32 0]) 2 8 Tryd.underlying37 hi0 hz0 hz1 hz2 rfl (by decide) (.slice (some ⟨w1.heap.size, 0, none⟩) 0 0) 0 [] rfl (by simpa using World.ownsRow_made w1 #[] 0 (Nat.le_refl _) (by simp [maxLen]) (by simp)) w.heap.size A n c (mvs l) rfl HR.out (mvs_ones l) (by simp only [maxLen]; omega) (by omega) (by simp <;> omega) ?_
    intro v2 w2 hown2 hg2 _
    rw [List.nil_append, Nat.zero_add] at hown2
    have B2 : Below w.heap.size w w2 := B1.out.grown hg2 B1.out.size (fun g hg => by have := B0.out.size; simp [Value.ownBlock] at hg; omega)
    obtain ⟨A2, c2, rfl, hc2, hr2⟩ := own_reads hown2
    have At2 : MAt w2 A2 n c2 l := ⟨hr2, hc2, by omega, hU, HD.out.below B2 HD.out.lt⟩
    clear hown2 hg2 hr2 HR B1 B0)
  go_wp2_with fail
  refine (HC.out A2 n c2 _ At2).mono ?_
  rintro e w3 ⟨A3, n3, c3, rfl, hn3, hc3, r3, h9⟩
  have At3 := At2.below h9
  have B3 := B2.trans (h9.mono B2.size)
  clear h9 At2 B2
  obtain rfl : n3 = 0 := hn3
  clear hc3 r3
  go_wp2_with fail
  refine (HM.out A2 _ c2 _ At3).mono ?_
  rintro e w4 ⟨rfl, h9⟩
  have At4 := At3.below h9
  have B4 := B3.trans (h9.mono B3.size)
  clear h9 At3 B3
  go_wp2_with fail
  refine (HF.out A2 _ c2 _ At4).mono ?_
  rintro e w5 ⟨rfl, h9⟩
  have At5 := At4.below h9
  have B5 := B4.trans (h9.mono B4.size)
  clear h9 At4 B4
  go_wp2_with fail
  refine (HE.out _ B5).mono ?_
  rintro e w6 ⟨rfl, h9⟩
  have At6 := At5.below h9
  have B6 := B5.trans (h9.mono B5.size)
  clear h9 At5 B5
  go_wp2
  go_ret
  exact ⟨rfl, B6⟩

set_option maxRecDepth 100000 in
set_option maxHeartbeats 16000000 in
theorem chooses_none (A : Option Addr) (n c : Nat) (l : List (Int × Int)) (s : Int) (M : Int) (w : World) (hR : Reads w w.heap.size 2 A n (mvs l)) (h60 : n ≤ 60) (hU : ∀ (k : Nat) (m : Int × Int), l[k]? = some m → UM m)
    (HD : Hid (Db w))
    (HK : Hid (TellsD 8 #[] (.bool true)))
    (HC : Hid (∀ (A : Option Addr) (n c : Nat) (u : World), MAt u A n c l → Calls Tryd.prog 19 #[.slice A n c, .int .u32 s] u (GetsL ([], 4) u)))
    (HM : Hid (∀ (A : Option Addr) (n c : Nat) (u : World), MAt u A n c l → Calls Tryd.prog 20 #[.slice A n c, .int .u32 s] u (Said (.tuple #[.int .i64 M, .int .i64 0]) u)))
    (HF : Hid (∀ (A : Option Addr) (n c : Nat) (u : World), MAt u A n c l → Calls Tryd.prog 21 #[.slice A n c, .int .u32 s] u (Said (.bool false) u)))
    (HE : Hid (∀ u : World, Below w.heap.size w u → Calls Tryd.prog 22 #[.slice A n c, .int .u32 s] u (Said (.int .i64 0) u)))
    (H7 : Hid (∀ u : World, Below w.heap.size w u → Calls Tryd.prog 23 #[.slice A n c, .int .u32 s] u (ListsB u [] false)))
    (H7M : Hid (∀ u : World, Below w.heap.size w u → Calls Tryd.prog 24 #[.slice A n c, .int .u32 s] u (Said (.int .i64 M) u))) :
    Calls Tryd.prog 4 #[.slice A n c, .int .u32 s] w (Said (.bool true) w) := by
  obtain ⟨i0, hi0, hz0, hz1, hz2⟩ := info_parts mask_info
  have hl := masks_len hR
  go_enter Tryd.func4, Tryd.ntmps4
  go_wp2_with fail
  refine (HK.out _ HD.out).mono ?_
  rintro e w1 ⟨rfl, h1⟩
  have HR := Lib.hid ((hR.below h1).alloc h1.size (.cells #[] 25))
  have B1 := Lib.hid (h1.alloc h1.size (.cells #[] 25))
  have B0 := Lib.hid h1
  clear hR h1
  go_wp2_with (
    at_builtin
    refine wpList_append_any _ rfl (.tmp 19) (.tmp 20) 37 rfl w1.heap.size 25 i0 (.agg #[.int .u32 0, .int .u32 0]) 2 8 Tryd.underlying37 hi0 hz0 hz1 hz2 rfl (by decide) (.slice (some ⟨w1.heap.size, 0, none⟩) 0 0) 0 [] rfl (by simpa using World.ownsRow_made w1 #[] 0 (Nat.le_refl _) (by simp [maxLen]) (by simp)) w.heap.size A n c (mvs l) rfl HR.out (mvs_ones l) (by simp only [maxLen]; omega) (by omega) (by simp <;> omega) ?_
    intro v2 w2 hown2 hg2 _
    rw [List.nil_append, Nat.zero_add] at hown2
    have B2 : Below w.heap.size w w2 := B1.out.grown hg2 B1.out.size (fun g hg => by have := B0.out.size; simp [Value.ownBlock] at hg; omega)
    obtain ⟨A2, c2, rfl, hc2, hr2⟩ := own_reads hown2
    have At2 : MAt w2 A2 n c2 l := ⟨hr2, hc2, by omega, hU, HD.out.below B2 HD.out.lt⟩
    clear hown2 hg2 hr2 HR B1 B0)
  go_wp2_with fail
  refine (HC.out A2 n c2 _ At2).mono ?_
  rintro e w3 ⟨A3, n3, c3, rfl, hn3, hc3, r3, h9⟩
  have At3 := At2.below h9
  have B3 := B2.trans (h9.mono B2.size)
  clear h9 At2 B2
  obtain rfl : n3 = 0 := hn3
  clear hc3 r3
  go_wp2_with fail
  refine (HM.out A2 _ c2 _ At3).mono ?_
  rintro e w4 ⟨rfl, h9⟩
  have At4 := At3.below h9
  have B4 := B3.trans (h9.mono B3.size)
  clear h9 At3 B3
  go_wp2_with fail
  refine (HF.out A2 _ c2 _ At4).mono ?_
  rintro e w5 ⟨rfl, h9⟩
  have At5 := At4.below h9
  have B5 := B4.trans (h9.mono B4.size)
  clear h9 At4 B4
  go_wp2_with fail
  refine (HE.out _ B5).mono ?_
  rintro e w6 ⟨rfl, h9⟩
  have At6 := At5.below h9
  have B6 := B5.trans (h9.mono B5.size)
  clear h9 At5 B5
  go_wp2_with fail
  refine (H7.out _ B6).mono ?_
  rintro e w7 ⟨A7, n7, c7, rfl, hn7, r7, h9⟩
  have At7 := At6.below h9
  have B7 := B6.trans (h9.mono B6.size)
  clear h9 At6 B6
  obtain rfl : n7 = 0 := hn7
  clear r7
  go_wp2_with fail
  refine (H7M.out _ B7).mono ?_
  rintro e w8 ⟨rfl, h9⟩
  have At8 := At7.below h9
  have B8 := B7.trans (h9.mono B7.size)
  clear h9 At7 B7
  go_wp2
  go_ret
  exact ⟨rfl, B8⟩

set_option maxRecDepth 100000 in
set_option maxHeartbeats 16000000 in
theorem chooses_some (A : Option Addr) (n c : Nat) (l : List (Int × Int)) (s : Int) (M : Int) (W : List Int) (w : World) (hR : Reads w w.heap.size 2 A n (mvs l)) (h60 : n ≤ 60) (hU : ∀ (k : Nat) (m : Int × Int), l[k]? = some m → UM m) (hW : Hid (W.length = n))
    (HD : Hid (Db w))
    (HK : Hid (TellsD 8 #[] (.bool true)))
    (HC : Hid (∀ (A : Option Addr) (n c : Nat) (u : World), MAt u A n c l → Calls Tryd.prog 19 #[.slice A n c, .int .u32 s] u (GetsL (W, 0) u)))
    (HM : Hid (∀ (A : Option Addr) (n c : Nat) (u : World), MAt u A n c l → Calls Tryd.prog 20 #[.slice A n c, .int .u32 s] u (Said (.tuple #[.int .i64 M, .int .i64 0]) u)))
    (HF : Hid (∀ (A : Option Addr) (n c : Nat) (u : World), MAt u A n c l → Calls Tryd.prog 21 #[.slice A n c, .int .u32 s] u (Said (.bool true) u)))
    (HE : Hid (∀ u : World, Below w.heap.size w u → Calls Tryd.prog 22 #[.slice A n c, .int .u32 s] u (Said (.int .i64 0) u)))
    (H7 : Hid (∀ u : World, Below w.heap.size w u → Calls Tryd.prog 23 #[.slice A n c, .int .u32 s] u (ListsB u W true)))
    (H7M : Hid (∀ u : World, Below w.heap.size w u → Calls Tryd.prog 24 #[.slice A n c, .int .u32 s] u (Said (.int .i64 M) u))) :
    Calls Tryd.prog 4 #[.slice A n c, .int .u32 s] w (Said (.bool true) w) := by
  obtain ⟨i0, hi0, hz0, hz1, hz2⟩ := info_parts mask_info
  have hl := masks_len hR
  go_enter Tryd.func4, Tryd.ntmps4
  go_wp2_with fail
  refine (HK.out _ HD.out).mono ?_
  rintro e w1 ⟨rfl, h1⟩
  have HR := Lib.hid ((hR.below h1).alloc h1.size (.cells #[] 25))
  have B1 := Lib.hid (h1.alloc h1.size (.cells #[] 25))
  have B0 := Lib.hid h1
  clear hR h1
  go_wp2_with (
    at_builtin
    refine wpList_append_any _ rfl (.tmp 19) (.tmp 20) 37 rfl w1.heap.size 25 i0 (.agg #[.int .u32 0, .int .u32 0]) 2 8 Tryd.underlying37 hi0 hz0 hz1 hz2 rfl (by decide) (.slice (some ⟨w1.heap.size, 0, none⟩) 0 0) 0 [] rfl (by simpa using World.ownsRow_made w1 #[] 0 (Nat.le_refl _) (by simp [maxLen]) (by simp)) w.heap.size A n c (mvs l) rfl HR.out (mvs_ones l) (by simp only [maxLen]; omega) (by omega) (by simp <;> omega) ?_
    intro v2 w2 hown2 hg2 _
    rw [List.nil_append, Nat.zero_add] at hown2
    have B2 : Below w.heap.size w w2 := B1.out.grown hg2 B1.out.size (fun g hg => by have := B0.out.size; simp [Value.ownBlock] at hg; omega)
    obtain ⟨A2, c2, rfl, hc2, hr2⟩ := own_reads hown2
    have At2 : MAt w2 A2 n c2 l := ⟨hr2, hc2, by omega, hU, HD.out.below B2 HD.out.lt⟩
    clear hown2 hg2 hr2 HR B1 B0)
  go_wp2_with fail
  refine (HC.out A2 n c2 _ At2).mono ?_
  rintro e w3 ⟨A3, n3, c3, rfl, hn3, hc3, r3, h9⟩
  have At3 := At2.below h9
  have B3 := B2.trans (h9.mono B2.size)
  clear h9 At2 B2
  obtain rfl : n3 = n := hn3.trans hW.out
  clear hn3
  go_wp2_with fail
  refine (HM.out A2 _ c2 _ At3).mono ?_
  rintro e w4 ⟨rfl, h9⟩
  have At4 := At3.below h9
  have B4 := B3.trans (h9.mono B3.size)
  replace r3 := (r3.below h9).more h9.size
  clear h9 At3 B3
  go_wp2_with fail
  refine (HF.out A2 _ c2 _ At4).mono ?_
  rintro e w5 ⟨rfl, h9⟩
  have At5 := At4.below h9
  have B5 := B4.trans (h9.mono B4.size)
  replace r3 := (r3.below h9).more h9.size
  clear h9 At4 B4
  go_wp2_with fail
  refine (HE.out _ B5).mono ?_
  rintro e w6 ⟨rfl, h9⟩
  have At6 := At5.below h9
  have B6 := B5.trans (h9.mono B5.size)
  replace r3 := (r3.below h9).more h9.size
  clear h9 At5 B5
  go_wp2_with fail
  refine (H7.out _ B6).mono ?_
  rintro e w7 ⟨A7, n7, c7, rfl, hn7, r7, h9⟩
  have At7 := At6.below h9
  have B7 := B6.trans (h9.mono B6.size)
  replace r3 := (r3.below h9).more h9.size
  clear h9 At6 B6
  obtain rfl : n7 = n3 := hn7.trans hW.out
  clear hn7
  go_wp2_with fail
  refine (H7M.out _ B7).mono ?_
  rintro e w8 ⟨rfl, h9⟩
  have At8 := At7.below h9
  have B8 := B7.trans (h9.mono B7.size)
  replace r3 := (r3.below h9).more h9.size; replace r7 := (r7.below h9).more h9.size
  clear h9 At7 B7
  go_wp2_with fail
  refine (same_same A3 A7 _ c3 c7 W _ r3 r7 (by omega)).mono ?_
  rintro e w9 ⟨rfl, m9, rfl⟩
  have B9 := below_drewN B8 m9
  clear B8
  go_wp2
  go_ret
  exact ⟨rfl, B9⟩

set_option maxRecDepth 100000 in
set_option maxHeartbeats 1000000 in
theorem chooses_long (A : Option Addr) (n c : Nat) (s : Int) (w : World) (h60 : 60 < n) (HD : Hid (Db w)) (HK : Hid (TellsD 8 #[] (.bool true))) :
    Calls Tryd.prog 4 #[.slice A n c, .int .u32 s] w (Said (.bool true) w) := by
  go_enter Tryd.func4, Tryd.ntmps4
  go_wp2_with fail
  refine (HK.out _ HD.out).mono ?_
  rintro e w1 ⟨rfl, h1⟩
  go_wp2
  go_ret
  exact ⟨rfl, h1⟩

theorem err_none {l : List (Int × Int)} {s : Int} (h : errM l s = 0) : l.all rightM = true ∧ s < 256 ∧ l.length ≤ 16 := by
  unfold errM at h
  split at h
  case isFalse => cases h
  case isTrue h1 =>
    split at h
    case isFalse => cases h
    case isTrue h2 =>
      split at h
      case isTrue => cases h
      case isFalse h3 => exact ⟨h1, h2, by omega⟩

/-- MaskChooses, whatever the masks, the set -/
theorem chooses_walk (HCh : MChoiceOk) (HFi : MFitsOk) (HMo : MMostOk) (hk : ∀ u, Db u → Calls Tryd.prog 8 #[] u (Said (.bool true) u)) (A : Option Addr) (n c : Nat) (l : List (Int × Int)) (s : Int) (w : World) (hD : Db w) (hR : Reads w w.heap.size 2 A n (mvs l)) (hnc : n ≤ c)
    (hU : ∀ (k : Nat) (m : Int × Int), l[k]? = some m → UM m) (hs : U32 s) : Calls Tryd.prog 4 #[.slice A n c, .int .u32 s] w (Said (.bool true) w) := by
  by_cases h60 : 60 < n
  · exact chooses_long A n c s w h60 (Lib.hid hD) (Lib.hid hk)
  have hl := masks_len hR
  have hc := fun (A : Option Addr) (n c : Nat) (u : World) (h : MAt u A n c l) => HCh A n c l s u h hs
  have hm := fun (A : Option Addr) (n c : Nat) (u : World) (h : MAt u A n c l) => HMo A n c l s u h hs
  have hf := fun (A : Option Addr) (n c : Nat) (u : World) (h : MAt u A n c l) => HFi A n c l s u h hs
  have he := fun (u : World) (h : Below w.heap.size w u) => rerror_any A n c l s u ((hR.below h).more h.size) (by omega)
  by_cases hE : errM l s = 0
  · obtain ⟨_, h256, h16⟩ := err_none hE
    have h7m := fun (u : World) (h : Below w.heap.size w u) => rmost_any A n c l s u ((hR.below h).more h.size) hU (by omega) hs.1 h256
    obtain ⟨S, rfl⟩ := Int.eq_ofNat_of_zero_le hs.1
    rw [hE] at he
    unfold choiceR at hc
    unfold mostR at hm
    unfold fitsR at hf
    rw [hE, if_pos rfl] at hc hm
    rw [hE, decide_eq_true rfl, Bool.true_and] at hf
    rw [Int.toNat_natCast] at hc hm hf h7m
    by_cases hM : mostN (hards l) S = l.length
    · have h7 := fun (u : World) (h : Below w.heap.size w u) => rchoice_some A n c l S u ((hR.below h).more h.size) hnc hU (by omega) (by omega) (by omega)
      rw [if_pos hM] at hc
      rw [decide_eq_true hM] at hf
      have hW : (ints (firstL (hards l) S)).length = n := by
        rw [length_ints, length_firstL (by rw [hM]; simp [hards])]
        simp [hards, hl]
      exact chooses_some A n c l S _ _ w hR (by omega) hU (Lib.hid hW) (Lib.hid hD) (Lib.hid hk) (Lib.hid hc) (Lib.hid hm) (Lib.hid hf) (Lib.hid he) (Lib.hid h7) (Lib.hid h7m)
    · have hlt : mostN (hards l) S < n := by
        have := most_len (hards l) S
        have hh : (hards l).length = l.length := by simp [hards]
        omega
      have h7 := fun (u : World) (h : Below w.heap.size w u) => rchoice_none A n c l S u ((hR.below h).more h.size) hU (by omega) (by omega) hlt
      rw [if_neg hM] at hc
      rw [decide_eq_false hM] at hf
      exact chooses_none A n c l S _ w hR (by omega) hU (Lib.hid hD) (Lib.hid hk) (Lib.hid hc) (Lib.hid hm) (Lib.hid hf) (Lib.hid he) (Lib.hid h7) (Lib.hid h7m)
  · unfold choiceR at hc
    unfold mostR at hm
    unfold fitsR at hf
    rw [if_neg hE] at hc hm
    rw [decide_eq_false hE, Bool.false_and] at hf
    exact chooses_no A n c l s _ w hR (by omega) hU (by simpa using hE) (Lib.hid hD) (Lib.hid hk) (Lib.hid hc) (Lib.hid hm) (Lib.hid hf) (Lib.hid he)

end Go.Proofs.YtcdlhfhachpcdaaDoor
