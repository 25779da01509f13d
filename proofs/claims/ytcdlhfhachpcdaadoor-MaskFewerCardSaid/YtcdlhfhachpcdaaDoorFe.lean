/-
  MaskFewer's walk. No statement is proved here.
-/
import Derived.Test.YtcdlhfhachpcdaaDoorHb
namespace Go.Proofs.YtcdlhfhachpcdaaDoor
open Go.RowKit

/-- what lies behind the place j -/
def behindA (ad : Addr) (C j : Nat) : Option Addr := if C = j + 1 then some ad else some (ad.add ((j + 1) * 2))
theorem reads_behind {w : World} {B n C j : Nat} {ad : Addr} {l : List (Int × Int)} (h : Reads w B 2 (some ad) n (mvs l)) (hC : n ≤ C) : Reads w B 2 (behindA ad C j) (n - (j + 1)) (mvs (l.drop (j + 1))) := by
  have hl := masks_len h
  have hd : mvs (l.drop (j + 1)) = (mvs l).drop ((j + 1) * 2) := (mvs_drop l (j + 1)).symm
  refine ⟨by rw [length_mvs, List.length_drop, hl], fun h0 => ?_⟩
  obtain ⟨ad', e, hb, hc⟩ := h.2 (by omega)
  obtain rfl := Option.some.inj e
  unfold behindA
  rw [if_neg (by omega)]
  refine ⟨_, rfl, by rw [block_of_add]; exact hb, fun i u hu => ?_⟩
  have e : (ad.add ((j + 1) * 2)).add i = ad.add ((j + 1) * 2 + i) := by
    cases i with
    | zero => rfl
    | succ i => exact (add_past ad _ i).symm
  rw [e]
  refine hc _ u ?_
  rwa [hd, List.getElem?_drop] at hu
theorem mvs_erase (l : List (Int × Int)) (j : Nat) : mvs (l.take j) ++ mvs (l.drop (j + 1)) = mvs (l.eraseIdx j) := by
  unfold mvs
  rw [← flat_append, List.eraseIdx_eq_take_drop_succ]
theorem um_erase {l : List (Int × Int)} {j : Nat} (hU : ∀ (k : Nat) (m : Int × Int), l[k]? = some m → UM m) : ∀ (k : Nat) (m : Int × Int), (l.eraseIdx j)[k]? = some m → UM m := fun k m h => by
  rw [List.getElem?_eraseIdx] at h
  split at h
  · exact hU _ _ h
  · exact hU _ _ h

set_option maxRecDepth 100000 in
set_option maxHeartbeats 16000000 in
theorem fewer_err_true (A : Option Addr) (N C n0 pc : Nat) (L : List (Int × Int)) (S : Nat) (m X : Int) (K : Nat → Nat) (w : World) (h12 : (N : Int) ≤ 12) (hNC : N ≤ C) (hR : Hid (Reads w w.heap.size 2 A N (mvs L))) (hU : Hid (∀ (k : Nat) (m : Int × Int), L[k]? = some m → UM m))
    (hn0 : (n0 : Int) ≤ (N : Int)) (hpc : (n0 : Int) ≤ (pc : Int)) (ht1 : ((n0 : Int) == (N : Int)) = true) (hX : bits .or .u32 (S : Int) m = X)
    (HKf : Hid (∀ j, j < N → K j ≤ n0 ∧ n0 ≤ K j + 1 ∧ K j = N - 1)) (e3 k3 : Int) (he3 : (e3 != 0) = true)
    (HD : Hid (Db w))
    (HK : Hid (TellsD 8 #[] (.bool true)))
    (HM : Hid (∀ u : World, Below w.heap.size w u → Calls Tryd.prog 20 #[.slice A N C, .int .u32 (S : Int)] u (Said (.tuple #[.int .i64 (n0 : Int), .int .i64 0]) u)))
    (HF : Hid (∀ u : World, Below w.heap.size w u → Calls Tryd.prog 21 #[.slice A N C, .int .u32 (S : Int)] u (Said (.bool true) u)))
    (HCt : Hid (∀ u : World, Calls Tryd.prog 26 #[.int .u32 (S : Int)] u (Draws (.int .i64 (pc : Int)) u)))
    (HM2 : Hid (∀ (j : Nat), j < N → ∀ (A : Option Addr) (n c : Nat) (u : World), MAt u A n c (L.eraseIdx j) → Calls Tryd.prog 20 #[.slice A n c, .int .u32 (S : Int)] u (Said (.tuple #[.int .i64 ((K j : Nat) : Int), .int .i64 0]) u)))
    (HM3 : Hid (∀ u : World, Below w.heap.size w u → Calls Tryd.prog 20 #[.slice A N C, .int .u32 X] u (Said (.tuple #[.int .i64 k3, .int .i64 e3]) u))) :
    Calls Tryd.prog 6 #[.slice A N C, .int .u32 (S : Int), .int .u32 m] w (Said (.bool true) w) := by
  obtain ⟨i0, hi0, hz0, hz1, hz2⟩ := info_parts mask_info
  have z1 : decide (N < n0) = false := decide_eq_false (by omega)
  have z2 : decide (pc < n0) = false := decide_eq_false (by omega)
  go_enter Tryd.func6, Tryd.ntmps6
  go_wp2_with fail
  refine (HK.out _ HD.out).mono ?_
  rintro e w1 ⟨rfl, B1⟩
  go_wp2_with fail
  refine (HM.out _ B1).mono ?_
  rintro e w2 ⟨rfl, h9⟩
  have B2 := B1.trans (h9.mono B1.size)
  clear h9 B1
  go_wp2_with fail
  refine (HF.out _ B2).mono ?_
  rintro e w3 ⟨rfl, h9⟩
  have B3 := B2.trans (h9.mono B2.size)
  clear h9 B2
  go_wp2_with fail
  refine (HCt.out _).mono ?_
  rintro e w4 ⟨rfl, m9, rfl⟩
  have B4 := below_drewN B3 m9
  clear B3
  generalize hW4 : w3.drewN m9 = w4 at *
  clear hW4
  go_wp2_with fail
  go_loopw [53] (fun i wr => ∃ j : Nat, j ≤ N ∧ i = .int .i64 (j : Int) ∧ Below w.heap.size w wr) (fun i _ => N - (intOf i).toNat)
  case atStart => exact ⟨0, by omega, rfl, B4⟩
  case round =>
    clear B4
    obtain ⟨j, hj, rfl, Br⟩ := hrel
    by_cases hlt : j < N
    · have hR' := hR.out
      obtain ⟨ad, hAd, _, _⟩ := hR'.2 (by omega)
      subst hAd
      have j0 : (0 : Int) ≤ (j : Int) := by omega
      have j1 : (j : Int) ≤ (N : Int) := by omega
      have j2 : (j : Int) ≤ (C : Int) := by omega
      have j3 : (j : Int) + 1 ≤ (N : Int) := by omega
      have j4 : (0 : Int) ≤ (j : Int) + 1 := by omega
      have j5 : IntKind.i64.wrap ((j : Int) + 1) = (j : Int) + 1 := IntWalk.i64_in _ (by omega)
      have j6 : ((j : Int) + 1).toNat = j + 1 := by omega
      have j7 : (j : Int) + 1 ≤ (C : Int) := by omega
      have HQ := Lib.hid (And.intro hlt (HKf.out j hlt))
      have HMj := Lib.hid (HM2.out j hlt)
      obtain ⟨rest, hrest⟩ : ∃ r, (if C = j + 1 then some ad else some (ad.add ((j + 1) * 2))) = r := ⟨_, rfl⟩
      have HRest := Lib.hid (fun (u : World) (h : Below w.heap.size w u) => show Reads u w.heap.size 2 rest (N - (j + 1)) (mvs (L.drop (j + 1))) from by rw [← hrest]; exact reads_behind (C := C) (hR'.below h) hNC)
      have HTake := Lib.hid (fun (u : World) (h : Below w.heap.size w u) => show Reads u w.heap.size 2 (some ad) j (mvs (L.take j)) from reads_take (hR'.below h) (by omega))
      clear hR'
      go_upto_region 13 with fail
      have D1 := Br.drew
      clear Br
      refine wp_region_held_drew (S := fun _ => True) (by kernel_rfl) trivial (fun hS => ?_)
      generalize wr.drew = V at *
      have hsz := D1.size
      have HB1 := Lib.hid (D1.alloc hsz (.cells #[] 25))
      refine wpAnyH_take (i := 1) (v := .slice (some ad) N C) rfl (by kernel_rfl) (by kernel_rfl) (by kernel_rfl) (fun _ _ _ h => h) (Or.inl ⟨by kernel_rfl, fun u hSw => (by go_simp)⟩) hS ?_
      try simp only [Act.put]
      refine wpAnyH_take (i := 2) (v := .int .i64 (j : Int)) rfl (by kernel_rfl) (by kernel_rfl) (by kernel_rfl) (fun _ _ _ h => h) (Or.inl ⟨by kernel_rfl, fun u hSw => (by go_simp)⟩) hS ?_
      try simp only [Act.put]
      refine wpAnyH_take (i := 3) (v := .slice (some ad) j C) rfl (by kernel_rfl) (by kernel_rfl) (by kernel_rfl) (fun _ _ _ h => h) (Or.inl ⟨by kernel_rfl, fun u hSw => (by go_simp)⟩) hS ?_
      try simp only [Act.put]
      refine wpAnyH_take (i := 5) (v := .slice (some ad) N C) rfl (by kernel_rfl) (by kernel_rfl) (by kernel_rfl) (fun _ _ _ h => h) (Or.inl ⟨by kernel_rfl, fun u hSw => (by go_simp)⟩) hS ?_
      try simp only [Act.put]
      refine wpAnyH_take (i := 6) (v := .int .i64 (j : Int)) rfl (by kernel_rfl) (by kernel_rfl) (by kernel_rfl) (fun _ _ _ h => h) (Or.inl ⟨by kernel_rfl, fun u hSw => (by go_simp)⟩) hS ?_
      try simp only [Act.put]
      refine wpAnyH_take (i := 7) (v := .int .i64 ((j : Int) + 1)) rfl (by kernel_rfl) (by kernel_rfl) (by kernel_rfl) (fun _ _ _ h => h) (Or.inl ⟨by kernel_rfl, fun u hSw => (by go_simp)⟩) hS ?_
      try simp only [Act.put]
      refine wpAnyH_take (i := 8) (v := .slice rest (N - (j + 1)) (C - (j + 1))) rfl (by kernel_rfl) (by kernel_rfl) (by kernel_rfl) (fun _ _ _ h => h) (Or.inl ⟨by kernel_rfl, fun u hSw => (by go_simp)⟩) hS ?_
      try simp only [Act.put]
      refine wpAnyH_ready (rs := [0]) (by kernel_rfl) (by simp) ?_
      refine AllReadyH.cons rfl (fun K hK => ?_) AllReadyH.nil
      go_simp
      refine hK.out _ _ trivial (fun hS => ?_)
      clear hK K
      try simp only [Act.put]
      refine wpAnyH_ready (rs := [4]) (by kernel_rfl) (by simp) ?_
      refine AllReadyH.cons rfl (fun K hK => ?_) AllReadyH.nil
      refine step_append_any _ rfl (.tmp 56) (.tmp 59) 37 rfl w.heap.size 25 i0 (.agg #[.int .u32 0, .int .u32 0]) 2 8 Tryd.underlying37 hi0 hz0 hz1 hz2 rfl (by decide) (.slice (some ⟨V.heap.size, 0, none⟩) 0 0) 0 [] rfl (by simpa using World.ownsRow_made V #[] 0 hsz (by simp [maxLen]) (by simp)) w.heap.size (some ad) j C (mvs (L.take j)) rfl (HTake.out _ HB1.out) (mvs_ones _) (by simp only [maxLen]; omega) (by omega) (by simp; omega) ?_
      intro v5 w5 own5 grow5 _
      rw [List.nil_append, Nat.zero_add] at own5
      have B5 : Below w.heap.size w w5 := HB1.out.grown grow5 HB1.out.size (fun g hg => by simp [Value.ownBlock] at hg; omega)
      refine hK.out _ _ trivial (fun hS => ?_)
      clear hK K grow5
      try simp only [Act.put]
      refine wpAnyH_ready (rs := [9]) (by kernel_rfl) (by simp) ?_
      refine AllReadyH.cons rfl (fun K hK => ?_) AllReadyH.nil
      refine step_append_any _ rfl (.tmp 60) (.tmp 64) 37 rfl w.heap.size 25 i0 (.agg #[.int .u32 0, .int .u32 0]) 2 8 Tryd.underlying37 hi0 hz0 hz1 hz2 rfl (by decide) v5 j (mvs (L.take j)) rfl own5 w.heap.size rest (N - (j + 1)) (C - (j + 1)) (mvs (L.drop (j + 1))) rfl (HRest.out _ B5) (mvs_ones _) (by simp only [maxLen]; omega) (by omega) B5.size ?_
      intro v6 w6 own6 grow6 _
      have B6 : Below w.heap.size w w6 := B5.grown grow6 B5.size (fun g hg => (own5.lt g hg).1)
      rw [mvs_erase, show j + (N - (j + 1)) = N - 1 by omega] at own6
      obtain ⟨A6, c6, rfl, hc6, r6⟩ := own_reads own6
      have At6 : Hid (MAt w6 A6 (N - 1) c6 (L.eraseIdx j)) := Lib.hid ⟨r6, hc6, by omega, um_erase hU.out, HD.out.below B6 HD.out.lt⟩
      obtain ⟨N1, hN1⟩ : ∃ N1, N - 1 = N1 := ⟨_, rfl⟩
      rw [hN1] at At6 ⊢
      refine hK.out _ _ trivial (fun hS => ?_)
      clear hK K grow6 own6 own5 hc6 r6 B5
      try simp only [Act.put]
      refine wpAnyH_take (i := 10) (v := .slice A6 N1 c6) rfl (by kernel_rfl) (by kernel_rfl) (by kernel_rfl) (fun _ _ _ h => h) (Or.inl ⟨by kernel_rfl, fun u hSw => (by go_simp)⟩) hS ?_
      try simp only [Act.put]
      refine wpAnyH_done (by kernel_rfl) ?_ _
      try simp only [Act.put]
      clear hS j5 hrest
      go_simp
      go_wp2_with fail
      refine (HMj.out _ _ _ _ At6.out).mono ?_
      rintro e w7 ⟨rfl, h9⟩
      have B7 := Lib.hid (B6.trans (h9.mono B6.size))
      clear h9 B6 j0 j1 j2 j3 j4 j6 j7
      obtain ⟨kk, hkk⟩ : ∃ kk, K j = kk := ⟨_, rfl⟩
      rw [hkk] at HQ ⊢
      have q1 : (kk : Int) ≤ (n0 : Int) := by have := HQ.out.2.1; omega
      have q2 : (n0 : Int) - 1 ≤ (kk : Int) := by have := HQ.out.2.2.1; omega
      have q3 : IntKind.i64.wrap ((n0 : Int) - 1) = (n0 : Int) - 1 := IntWalk.i64_in _ (by omega)
      have q4 : ((kk : Int) != (N1 : Int)) = false := by
        have := HQ.out.2.2.2
        simp; omega
      go_wp2
      go_roundw
      case rel => exact ⟨j + 1, by omega, by go_num, B7.out⟩
      case measure => simp [intOf] <;> omega
    · obtain rfl : N = j := by omega
      go_wp2_with fail
      refine (HM3.out _ Br).mono ?_
      rintro e w8 ⟨rfl, h9⟩
      have B8 := Lib.hid (Br.trans (h9.mono Br.size))
      clear h9 Br
      go_wp2
      go_ret
      exact ⟨rfl, B8.out⟩

set_option maxRecDepth 100000 in
set_option maxHeartbeats 16000000 in
theorem fewer_err_false (A : Option Addr) (N C n0 pc : Nat) (L : List (Int × Int)) (S : Nat) (m X : Int) (K : Nat → Nat) (w : World) (h12 : (N : Int) ≤ 12) (hNC : N ≤ C) (hR : Hid (Reads w w.heap.size 2 A N (mvs L))) (hU : Hid (∀ (k : Nat) (m : Int × Int), L[k]? = some m → UM m))
    (hn0 : (n0 : Int) ≤ (N : Int)) (hpc : (n0 : Int) ≤ (pc : Int)) (ht1 : ((n0 : Int) == (N : Int)) = false) (hX : bits .or .u32 (S : Int) m = X)
    (HKf : Hid (∀ j, j < N → K j ≤ n0 ∧ n0 ≤ K j + 1 ∧ True)) (e3 k3 : Int) (he3 : (e3 != 0) = true)
    (HD : Hid (Db w))
    (HK : Hid (TellsD 8 #[] (.bool true)))
    (HM : Hid (∀ u : World, Below w.heap.size w u → Calls Tryd.prog 20 #[.slice A N C, .int .u32 (S : Int)] u (Said (.tuple #[.int .i64 (n0 : Int), .int .i64 0]) u)))
    (HF : Hid (∀ u : World, Below w.heap.size w u → Calls Tryd.prog 21 #[.slice A N C, .int .u32 (S : Int)] u (Said (.bool false) u)))
    (HCt : Hid (∀ u : World, Calls Tryd.prog 26 #[.int .u32 (S : Int)] u (Draws (.int .i64 (pc : Int)) u)))
    (HM2 : Hid (∀ (j : Nat), j < N → ∀ (A : Option Addr) (n c : Nat) (u : World), MAt u A n c (L.eraseIdx j) → Calls Tryd.prog 20 #[.slice A n c, .int .u32 (S : Int)] u (Said (.tuple #[.int .i64 ((K j : Nat) : Int), .int .i64 0]) u)))
    (HM3 : Hid (∀ u : World, Below w.heap.size w u → Calls Tryd.prog 20 #[.slice A N C, .int .u32 X] u (Said (.tuple #[.int .i64 k3, .int .i64 e3]) u))) :
    Calls Tryd.prog 6 #[.slice A N C, .int .u32 (S : Int), .int .u32 m] w (Said (.bool true) w) := by
  obtain ⟨i0, hi0, hz0, hz1, hz2⟩ := info_parts mask_info
  have z1 : decide (N < n0) = false := decide_eq_false (by omega)
  have z2 : decide (pc < n0) = false := decide_eq_false (by omega)
  go_enter Tryd.func6, Tryd.ntmps6
  go_wp2_with fail
  refine (HK.out _ HD.out).mono ?_
  rintro e w1 ⟨rfl, B1⟩
  go_wp2_with fail
  refine (HM.out _ B1).mono ?_
  rintro e w2 ⟨rfl, h9⟩
  have B2 := B1.trans (h9.mono B1.size)
  clear h9 B1
  go_wp2_with fail
  refine (HF.out _ B2).mono ?_
  rintro e w3 ⟨rfl, h9⟩
  have B3 := B2.trans (h9.mono B2.size)
  clear h9 B2
  go_wp2_with fail
  refine (HCt.out _).mono ?_
  rintro e w4 ⟨rfl, m9, rfl⟩
  have B4 := below_drewN B3 m9
  clear B3
  generalize hW4 : w3.drewN m9 = w4 at *
  clear hW4
  go_wp2_with fail
  go_loopw [53] (fun i wr => ∃ j : Nat, j ≤ N ∧ i = .int .i64 (j : Int) ∧ Below w.heap.size w wr) (fun i _ => N - (intOf i).toNat)
  case atStart => exact ⟨0, by omega, rfl, B4⟩
  case round =>
    clear B4
    obtain ⟨j, hj, rfl, Br⟩ := hrel
    by_cases hlt : j < N
    · have hR' := hR.out
      obtain ⟨ad, hAd, _, _⟩ := hR'.2 (by omega)
      subst hAd
      have j0 : (0 : Int) ≤ (j : Int) := by omega
      have j1 : (j : Int) ≤ (N : Int) := by omega
      have j2 : (j : Int) ≤ (C : Int) := by omega
      have j3 : (j : Int) + 1 ≤ (N : Int) := by omega
      have j4 : (0 : Int) ≤ (j : Int) + 1 := by omega
      have j5 : IntKind.i64.wrap ((j : Int) + 1) = (j : Int) + 1 := IntWalk.i64_in _ (by omega)
      have j6 : ((j : Int) + 1).toNat = j + 1 := by omega
      have j7 : (j : Int) + 1 ≤ (C : Int) := by omega
      have HQ := Lib.hid (And.intro hlt (HKf.out j hlt))
      have HMj := Lib.hid (HM2.out j hlt)
      obtain ⟨rest, hrest⟩ : ∃ r, (if C = j + 1 then some ad else some (ad.add ((j + 1) * 2))) = r := ⟨_, rfl⟩
      have HRest := Lib.hid (fun (u : World) (h : Below w.heap.size w u) => show Reads u w.heap.size 2 rest (N - (j + 1)) (mvs (L.drop (j + 1))) from by rw [← hrest]; exact reads_behind (C := C) (hR'.below h) hNC)
      have HTake := Lib.hid (fun (u : World) (h : Below w.heap.size w u) => show Reads u w.heap.size 2 (some ad) j (mvs (L.take j)) from reads_take (hR'.below h) (by omega))
      clear hR'
      go_upto_region 13 with fail
      have D1 := Br.drew
      clear Br
      refine wp_region_held_drew (S := fun _ => True) (by kernel_rfl) trivial (fun hS => ?_)
      generalize wr.drew = V at *
      have hsz := D1.size
      have HB1 := Lib.hid (D1.alloc hsz (.cells #[] 25))
      refine wpAnyH_take (i := 1) (v := .slice (some ad) N C) rfl (by kernel_rfl) (by kernel_rfl) (by kernel_rfl) (fun _ _ _ h => h) (Or.inl ⟨by kernel_rfl, fun u hSw => (by go_simp)⟩) hS ?_
      try simp only [Act.put]
      refine wpAnyH_take (i := 2) (v := .int .i64 (j : Int)) rfl (by kernel_rfl) (by kernel_rfl) (by kernel_rfl) (fun _ _ _ h => h) (Or.inl ⟨by kernel_rfl, fun u hSw => (by go_simp)⟩) hS ?_
      try simp only [Act.put]
      refine wpAnyH_take (i := 3) (v := .slice (some ad) j C) rfl (by kernel_rfl) (by kernel_rfl) (by kernel_rfl) (fun _ _ _ h => h) (Or.inl ⟨by kernel_rfl, fun u hSw => (by go_simp)⟩) hS ?_
      try simp only [Act.put]
      refine wpAnyH_take (i := 5) (v := .slice (some ad) N C) rfl (by kernel_rfl) (by kernel_rfl) (by kernel_rfl) (fun _ _ _ h => h) (Or.inl ⟨by kernel_rfl, fun u hSw => (by go_simp)⟩) hS ?_
      try simp only [Act.put]
      refine wpAnyH_take (i := 6) (v := .int .i64 (j : Int)) rfl (by kernel_rfl) (by kernel_rfl) (by kernel_rfl) (fun _ _ _ h => h) (Or.inl ⟨by kernel_rfl, fun u hSw => (by go_simp)⟩) hS ?_
      try simp only [Act.put]
      refine wpAnyH_take (i := 7) (v := .int .i64 ((j : Int) + 1)) rfl (by kernel_rfl) (by kernel_rfl) (by kernel_rfl) (fun _ _ _ h => h) (Or.inl ⟨by kernel_rfl, fun u hSw => (by go_simp)⟩) hS ?_
      try simp only [Act.put]
      refine wpAnyH_take (i := 8) (v := .slice rest (N - (j + 1)) (C - (j + 1))) rfl (by kernel_rfl) (by kernel_rfl) (by kernel_rfl) (fun _ _ _ h => h) (Or.inl ⟨by kernel_rfl, fun u hSw => (by go_simp)⟩) hS ?_
      try simp only [Act.put]
      refine wpAnyH_ready (rs := [0]) (by kernel_rfl) (by simp) ?_
      refine AllReadyH.cons rfl (fun K hK => ?_) AllReadyH.nil
      go_simp
      refine hK.out _ _ trivial (fun hS => ?_)
      clear hK K
      try simp only [Act.put]
      refine wpAnyH_ready (rs := [4]) (by kernel_rfl) (by simp) ?_
      refine AllReadyH.cons rfl (fun K hK => ?_) AllReadyH.nil
      refine step_append_any _ rfl (.tmp 56) (.tmp 59) 37 rfl w.heap.size 25 i0 (.agg #[.int .u32 0, .int .u32 0]) 2 8 Tryd.underlying37 hi0 hz0 hz1 hz2 rfl (by decide) (.slice (some ⟨V.heap.size, 0, none⟩) 0 0) 0 [] rfl (by simpa using World.ownsRow_made V #[] 0 hsz (by simp [maxLen]) (by simp)) w.heap.size (some ad) j C (mvs (L.take j)) rfl (HTake.out _ HB1.out) (mvs_ones _) (by simp only [maxLen]; omega) (by omega) (by simp; omega) ?_
      intro v5 w5 own5 grow5 _
      rw [List.nil_append, Nat.zero_add] at own5
      have B5 : Below w.heap.size w w5 := HB1.out.grown grow5 HB1.out.size (fun g hg => by simp [Value.ownBlock] at hg; omega)
      refine hK.out _ _ trivial (fun hS => ?_)
      clear hK K grow5
      try simp only [Act.put]
      refine wpAnyH_ready (rs := [9]) (by kernel_rfl) (by simp) ?_
      refine AllReadyH.cons rfl (fun K hK => ?_) AllReadyH.nil
      refine step_append_any _ rfl (.tmp 60) (.tmp 64) 37 rfl w.heap.size 25 i0 (.agg #[.int .u32 0, .int .u32 0]) 2 8 Tryd.underlying37 hi0 hz0 hz1 hz2 rfl (by decide) v5 j (mvs (L.take j)) rfl own5 w.heap.size rest (N - (j + 1)) (C - (j + 1)) (mvs (L.drop (j + 1))) rfl (HRest.out _ B5) (mvs_ones _) (by simp only [maxLen]; omega) (by omega) B5.size ?_
      intro v6 w6 own6 grow6 _
      have B6 : Below w.heap.size w w6 := B5.grown grow6 B5.size (fun g hg => (own5.lt g hg).1)
      rw [mvs_erase, show j + (N - (j + 1)) = N - 1 by omega] at own6
      obtain ⟨A6, c6, rfl, hc6, r6⟩ := own_reads own6
      have At6 : Hid (MAt w6 A6 (N - 1) c6 (L.eraseIdx j)) := Lib.hid ⟨r6, hc6, by omega, um_erase hU.out, HD.out.below B6 HD.out.lt⟩
      obtain ⟨N1, hN1⟩ : ∃ N1, N - 1 = N1 := ⟨_, rfl⟩
      rw [hN1] at At6 ⊢
      refine hK.out _ _ trivial (fun hS => ?_)
      clear hK K grow6 own6 own5 hc6 r6 B5
      try simp only [Act.put]
      refine wpAnyH_take (i := 10) (v := .slice A6 N1 c6) rfl (by kernel_rfl) (by kernel_rfl) (by kernel_rfl) (fun _ _ _ h => h) (Or.inl ⟨by kernel_rfl, fun u hSw => (by go_simp)⟩) hS ?_
      try simp only [Act.put]
      refine wpAnyH_done (by kernel_rfl) ?_ _
      try simp only [Act.put]
      clear hS j5 hrest
      go_simp
      go_wp2_with fail
      refine (HMj.out _ _ _ _ At6.out).mono ?_
      rintro e w7 ⟨rfl, h9⟩
      have B7 := Lib.hid (B6.trans (h9.mono B6.size))
      clear h9 B6 j0 j1 j2 j3 j4 j6 j7
      obtain ⟨kk, hkk⟩ : ∃ kk, K j = kk := ⟨_, rfl⟩
      rw [hkk] at HQ ⊢
      have q1 : (kk : Int) ≤ (n0 : Int) := by have := HQ.out.2.1; omega
      have q2 : (n0 : Int) - 1 ≤ (kk : Int) := by have := HQ.out.2.2.1; omega
      have q3 : IntKind.i64.wrap ((n0 : Int) - 1) = (n0 : Int) - 1 := IntWalk.i64_in _ (by omega)
      go_wp2
      go_roundw
      case rel => exact ⟨j + 1, by omega, by go_num, B7.out⟩
      case measure => simp [intOf] <;> omega
    · obtain rfl : N = j := by omega
      go_wp2_with fail
      refine (HM3.out _ Br).mono ?_
      rintro e w8 ⟨rfl, h9⟩
      have B8 := Lib.hid (Br.trans (h9.mono Br.size))
      clear h9 Br
      go_wp2
      go_ret
      exact ⟨rfl, B8.out⟩

set_option maxRecDepth 100000 in
set_option maxHeartbeats 16000000 in
theorem fewer_ok_true (A : Option Addr) (N C n0 pc : Nat) (L : List (Int × Int)) (S : Nat) (m X : Int) (K : Nat → Nat) (w : World) (h12 : (N : Int) ≤ 12) (hNC : N ≤ C) (hR : Hid (Reads w w.heap.size 2 A N (mvs L))) (hU : Hid (∀ (k : Nat) (m : Int × Int), L[k]? = some m → UM m))
    (hn0 : (n0 : Int) ≤ (N : Int)) (hpc : (n0 : Int) ≤ (pc : Int)) (ht1 : ((n0 : Int) == (N : Int)) = true) (hX : bits .or .u32 (S : Int) m = X)
    (HKf : Hid (∀ j, j < N → K j ≤ n0 ∧ n0 ≤ K j + 1 ∧ K j = N - 1)) (k3 pm : Nat) (hk3 : (n0 : Int) ≤ (k3 : Int)) (hpm : (k3 : Int) ≤ (n0 : Int) + (pm : Int)) (pm8 : (pm : Int) ≤ 8)
    (HD : Hid (Db w))
    (HK : Hid (TellsD 8 #[] (.bool true)))
    (HM : Hid (∀ u : World, Below w.heap.size w u → Calls Tryd.prog 20 #[.slice A N C, .int .u32 (S : Int)] u (Said (.tuple #[.int .i64 (n0 : Int), .int .i64 0]) u)))
    (HF : Hid (∀ u : World, Below w.heap.size w u → Calls Tryd.prog 21 #[.slice A N C, .int .u32 (S : Int)] u (Said (.bool true) u)))
    (HCt : Hid (∀ u : World, Calls Tryd.prog 26 #[.int .u32 (S : Int)] u (Draws (.int .i64 (pc : Int)) u)))
    (HM2 : Hid (∀ (j : Nat), j < N → ∀ (A : Option Addr) (n c : Nat) (u : World), MAt u A n c (L.eraseIdx j) → Calls Tryd.prog 20 #[.slice A n c, .int .u32 (S : Int)] u (Said (.tuple #[.int .i64 ((K j : Nat) : Int), .int .i64 0]) u)))
    (HM3 : Hid (∀ u : World, Below w.heap.size w u → Calls Tryd.prog 20 #[.slice A N C, .int .u32 X] u (Said (.tuple #[.int .i64 (k3 : Int), .int .i64 0]) u)))
    (HCm : Hid (∀ u : World, Calls Tryd.prog 26 #[.int .u32 m] u (Draws (.int .i64 (pm : Int)) u))) :
    Calls Tryd.prog 6 #[.slice A N C, .int .u32 (S : Int), .int .u32 m] w (Said (.bool true) w) := by
  obtain ⟨i0, hi0, hz0, hz1, hz2⟩ := info_parts mask_info
  have z1 : decide (N < n0) = false := decide_eq_false (by omega)
  have z2 : decide (pc < n0) = false := decide_eq_false (by omega)
  go_enter Tryd.func6, Tryd.ntmps6
  go_wp2_with fail
  refine (HK.out _ HD.out).mono ?_
  rintro e w1 ⟨rfl, B1⟩
  go_wp2_with fail
  refine (HM.out _ B1).mono ?_
  rintro e w2 ⟨rfl, h9⟩
  have B2 := B1.trans (h9.mono B1.size)
  clear h9 B1
  go_wp2_with fail
  refine (HF.out _ B2).mono ?_
  rintro e w3 ⟨rfl, h9⟩
  have B3 := B2.trans (h9.mono B2.size)
  clear h9 B2
  go_wp2_with fail
  refine (HCt.out _).mono ?_
  rintro e w4 ⟨rfl, m9, rfl⟩
  have B4 := below_drewN B3 m9
  clear B3
  generalize hW4 : w3.drewN m9 = w4 at *
  clear hW4
  go_wp2_with fail
  go_loopw [53] (fun i wr => ∃ j : Nat, j ≤ N ∧ i = .int .i64 (j : Int) ∧ Below w.heap.size w wr) (fun i _ => N - (intOf i).toNat)
  case atStart => exact ⟨0, by omega, rfl, B4⟩
  case round =>
    clear B4
    obtain ⟨j, hj, rfl, Br⟩ := hrel
    by_cases hlt : j < N
    · have hR' := hR.out
      obtain ⟨ad, hAd, _, _⟩ := hR'.2 (by omega)
      subst hAd
      have j0 : (0 : Int) ≤ (j : Int) := by omega
      have j1 : (j : Int) ≤ (N : Int) := by omega
      have j2 : (j : Int) ≤ (C : Int) := by omega
      have j3 : (j : Int) + 1 ≤ (N : Int) := by omega
      have j4 : (0 : Int) ≤ (j : Int) + 1 := by omega
      have j5 : IntKind.i64.wrap ((j : Int) + 1) = (j : Int) + 1 := IntWalk.i64_in _ (by omega)
      have j6 : ((j : Int) + 1).toNat = j + 1 := by omega
      have j7 : (j : Int) + 1 ≤ (C : Int) := by omega
      have HQ := Lib.hid (And.intro hlt (HKf.out j hlt))
      have HMj := Lib.hid (HM2.out j hlt)
      obtain ⟨rest, hrest⟩ : ∃ r, (if C = j + 1 then some ad else some (ad.add ((j + 1) * 2))) = r := ⟨_, rfl⟩
      have HRest := Lib.hid (fun (u : World) (h : Below w.heap.size w u) => show Reads u w.heap.size 2 rest (N - (j + 1)) (mvs (L.drop (j + 1))) from by rw [← hrest]; exact reads_behind (C := C) (hR'.below h) hNC)
      have HTake := Lib.hid (fun (u : World) (h : Below w.heap.size w u) => show Reads u w.heap.size 2 (some ad) j (mvs (L.take j)) from reads_take (hR'.below h) (by omega))
      clear hR'
      go_upto_region 13 with fail
      have D1 := Br.drew
      clear Br
      refine wp_region_held_drew (S := fun _ => True) (by kernel_rfl) trivial (fun hS => ?_)
      generalize wr.drew = V at *
      have hsz := D1.size
      have HB1 := Lib.hid (D1.alloc hsz (.cells #[] 25))
      refine wpAnyH_take (i := 1) (v := .slice (some ad) N C) rfl (by kernel_rfl) (by kernel_rfl) (by kernel_rfl) (fun _ _ _ h => h) (Or.inl ⟨by kernel_rfl, fun u hSw => (by go_simp)⟩) hS ?_
      try simp only [Act.put]
      refine wpAnyH_take (i := 2) (v := .int .i64 (j : Int)) rfl (by kernel_rfl) (by kernel_rfl) (by kernel_rfl) (fun _ _ _ h => h) (Or.inl ⟨by kernel_rfl, fun u hSw => (by go_simp)⟩) hS ?_
      try simp only [Act.put]
      refine wpAnyH_take (i := 3) (v := .slice (some ad) j C) rfl (by kernel_rfl) (by kernel_rfl) (by kernel_rfl) (fun _ _ _ h => h) (Or.inl ⟨by kernel_rfl, fun u hSw => (by go_simp)⟩) hS ?_
      try simp only [Act.put]
      refine wpAnyH_take (i := 5) (v := .slice (some ad) N C) rfl (by kernel_rfl) (by kernel_rfl) (by kernel_rfl) (fun _ _ _ h => h) (Or.inl ⟨by kernel_rfl, fun u hSw => (by go_simp)⟩) hS ?_
      try simp only [Act.put]
      refine wpAnyH_take (i := 6) (v := .int .i64 (j : Int)) rfl (by kernel_rfl) (by kernel_rfl) (by kernel_rfl) (fun _ _ _ h => h) (Or.inl ⟨by kernel_rfl, fun u hSw => (by go_simp)⟩) hS ?_
      try simp only [Act.put]
      refine wpAnyH_take (i := 7) (v := .int .i64 ((j : Int) + 1)) rfl (by kernel_rfl) (by kernel_rfl) (by kernel_rfl) (fun _ _ _ h => h) (Or.inl ⟨by kernel_rfl, fun u hSw => (by go_simp)⟩) hS ?_
      try simp only [Act.put]
      refine wpAnyH_take (i := 8) (v := .slice rest (N - (j + 1)) (C - (j + 1))) rfl (by kernel_rfl) (by kernel_rfl) (by kernel_rfl) (fun _ _ _ h => h) (Or.inl ⟨by kernel_rfl, fun u hSw => (by go_simp)⟩) hS ?_
      try simp only [Act.put]
      refine wpAnyH_ready (rs := [0]) (by kernel_rfl) (by simp) ?_
      refine AllReadyH.cons rfl (fun K hK => ?_) AllReadyH.nil
      go_simp
      refine hK.out _ _ trivial (fun hS => ?_)
      clear hK K
      try simp only [Act.put]
      refine wpAnyH_ready (rs := [4]) (by kernel_rfl) (by simp) ?_
      refine AllReadyH.cons rfl (fun K hK => ?_) AllReadyH.nil
      refine step_append_any _ rfl (.tmp 56) (.tmp 59) 37 rfl w.heap.size 25 i0 (.agg #[.int .u32 0, .int .u32 0]) 2 8 Tryd.underlying37 hi0 hz0 hz1 hz2 rfl (by decide) (.slice (some ⟨V.heap.size, 0, none⟩) 0 0) 0 [] rfl (by simpa using World.ownsRow_made V #[] 0 hsz (by simp [maxLen]) (by simp)) w.heap.size (some ad) j C (mvs (L.take j)) rfl (HTake.out _ HB1.out) (mvs_ones _) (by simp only [maxLen]; omega) (by omega) (by simp; omega) ?_
      intro v5 w5 own5 grow5 _
      rw [List.nil_append, Nat.zero_add] at own5
      have B5 : Below w.heap.size w w5 := HB1.out.grown grow5 HB1.out.size (fun g hg => by simp [Value.ownBlock] at hg; omega)
      refine hK.out _ _ trivial (fun hS => ?_)
      clear hK K grow5
      try simp only [Act.put]
      refine wpAnyH_ready (rs := [9]) (by kernel_rfl) (by simp) ?_
      refine AllReadyH.cons rfl (fun K hK => ?_) AllReadyH.nil
      refine step_append_any _ rfl (.tmp 60) (.tmp 64) 37 rfl w.heap.size 25 i0 (.agg #[.int .u32 0, .int .u32 0]) 2 8 Tryd.underlying37 hi0 hz0 hz1 hz2 rfl (by decide) v5 j (mvs (L.take j)) rfl own5 w.heap.size rest (N - (j + 1)) (C - (j + 1)) (mvs (L.drop (j + 1))) rfl (HRest.out _ B5) (mvs_ones _) (by simp only [maxLen]; omega) (by omega) B5.size ?_
      intro v6 w6 own6 grow6 _
      have B6 : Below w.heap.size w w6 := B5.grown grow6 B5.size (fun g hg => (own5.lt g hg).1)
      rw [mvs_erase, show j + (N - (j + 1)) = N - 1 by omega] at own6
      obtain ⟨A6, c6, rfl, hc6, r6⟩ := own_reads own6
      have At6 : Hid (MAt w6 A6 (N - 1) c6 (L.eraseIdx j)) := Lib.hid ⟨r6, hc6, by omega, um_erase hU.out, HD.out.below B6 HD.out.lt⟩
      obtain ⟨N1, hN1⟩ : ∃ N1, N - 1 = N1 := ⟨_, rfl⟩
      rw [hN1] at At6 ⊢
      refine hK.out _ _ trivial (fun hS => ?_)
      clear hK K grow6 own6 own5 hc6 r6 B5
      try simp only [Act.put]
      refine wpAnyH_take (i := 10) (v := .slice A6 N1 c6) rfl (by kernel_rfl) (by kernel_rfl) (by kernel_rfl) (fun _ _ _ h => h) (Or.inl ⟨by kernel_rfl, fun u hSw => (by go_simp)⟩) hS ?_
      try simp only [Act.put]
      refine wpAnyH_done (by kernel_rfl) ?_ _
      try simp only [Act.put]
      clear hS j5 hrest
      go_simp
      go_wp2_with fail
      refine (HMj.out _ _ _ _ At6.out).mono ?_
      rintro e w7 ⟨rfl, h9⟩
      have B7 := Lib.hid (B6.trans (h9.mono B6.size))
      clear h9 B6 j0 j1 j2 j3 j4 j6 j7
      obtain ⟨kk, hkk⟩ : ∃ kk, K j = kk := ⟨_, rfl⟩
      rw [hkk] at HQ ⊢
      have q1 : (kk : Int) ≤ (n0 : Int) := by have := HQ.out.2.1; omega
      have q2 : (n0 : Int) - 1 ≤ (kk : Int) := by have := HQ.out.2.2.1; omega
      have q3 : IntKind.i64.wrap ((n0 : Int) - 1) = (n0 : Int) - 1 := IntWalk.i64_in _ (by omega)
      have q4 : ((kk : Int) != (N1 : Int)) = false := by
        have := HQ.out.2.2.2
        simp; omega
      go_wp2
      go_roundw
      case rel => exact ⟨j + 1, by omega, by go_num, B7.out⟩
      case measure => simp [intOf] <;> omega
    · obtain rfl : N = j := by omega
      go_wp2_with fail
      refine (HM3.out _ Br).mono ?_
      rintro e w8 ⟨rfl, h9⟩
      have B8 := Lib.hid (Br.trans (h9.mono Br.size))
      clear h9 Br
      have q5 : IntKind.i64.wrap ((n0 : Int) + (pm : Int)) = (n0 : Int) + (pm : Int) := IntWalk.i64_in _ (by omega)
      go_wp2_with fail
      refine (HCm.out _).mono ?_
      rintro e w9 ⟨rfl, m9, rfl⟩
      have B9 := Lib.hid (below_drewN B8.out m9)
      go_wp2
      go_ret
      exact ⟨rfl, B9.out⟩

set_option maxRecDepth 100000 in
set_option maxHeartbeats 16000000 in
theorem fewer_ok_false (A : Option Addr) (N C n0 pc : Nat) (L : List (Int × Int)) (S : Nat) (m X : Int) (K : Nat → Nat) (w : World) (h12 : (N : Int) ≤ 12) (hNC : N ≤ C) (hR : Hid (Reads w w.heap.size 2 A N (mvs L))) (hU : Hid (∀ (k : Nat) (m : Int × Int), L[k]? = some m → UM m))
    (hn0 : (n0 : Int) ≤ (N : Int)) (hpc : (n0 : Int) ≤ (pc : Int)) (ht1 : ((n0 : Int) == (N : Int)) = false) (hX : bits .or .u32 (S : Int) m = X)
    (HKf : Hid (∀ j, j < N → K j ≤ n0 ∧ n0 ≤ K j + 1 ∧ True)) (k3 pm : Nat) (hk3 : (n0 : Int) ≤ (k3 : Int)) (hpm : (k3 : Int) ≤ (n0 : Int) + (pm : Int)) (pm8 : (pm : Int) ≤ 8)
    (HD : Hid (Db w))
    (HK : Hid (TellsD 8 #[] (.bool true)))
    (HM : Hid (∀ u : World, Below w.heap.size w u → Calls Tryd.prog 20 #[.slice A N C, .int .u32 (S : Int)] u (Said (.tuple #[.int .i64 (n0 : Int), .int .i64 0]) u)))
    (HF : Hid (∀ u : World, Below w.heap.size w u → Calls Tryd.prog 21 #[.slice A N C, .int .u32 (S : Int)] u (Said (.bool false) u)))
    (HCt : Hid (∀ u : World, Calls Tryd.prog 26 #[.int .u32 (S : Int)] u (Draws (.int .i64 (pc : Int)) u)))
    (HM2 : Hid (∀ (j : Nat), j < N → ∀ (A : Option Addr) (n c : Nat) (u : World), MAt u A n c (L.eraseIdx j) → Calls Tryd.prog 20 #[.slice A n c, .int .u32 (S : Int)] u (Said (.tuple #[.int .i64 ((K j : Nat) : Int), .int .i64 0]) u)))
    (HM3 : Hid (∀ u : World, Below w.heap.size w u → Calls Tryd.prog 20 #[.slice A N C, .int .u32 X] u (Said (.tuple #[.int .i64 (k3 : Int), .int .i64 0]) u)))
    (HCm : Hid (∀ u : World, Calls Tryd.prog 26 #[.int .u32 m] u (Draws (.int .i64 (pm : Int)) u))) :
    Calls Tryd.prog 6 #[.slice A N C, .int .u32 (S : Int), .int .u32 m] w (Said (.bool true) w) := by
  obtain ⟨i0, hi0, hz0, hz1, hz2⟩ := info_parts mask_info
  have z1 : decide (N < n0) = false := decide_eq_false (by omega)
  have z2 : decide (pc < n0) = false := decide_eq_false (by omega)
  go_enter Tryd.func6, Tryd.ntmps6
  go_wp2_with fail
  refine (HK.out _ HD.out).mono ?_
  rintro e w1 ⟨rfl, B1⟩
  go_wp2_with fail
  refine (HM.out _ B1).mono ?_
  rintro e w2 ⟨rfl, h9⟩
  have B2 := B1.trans (h9.mono B1.size)
  clear h9 B1
  go_wp2_with fail
  refine (HF.out _ B2).mono ?_
  rintro e w3 ⟨rfl, h9⟩
  have B3 := B2.trans (h9.mono B2.size)
  clear h9 B2
  go_wp2_with fail
  refine (HCt.out _).mono ?_
  rintro e w4 ⟨rfl, m9, rfl⟩
  have B4 := below_drewN B3 m9
  clear B3
  generalize hW4 : w3.drewN m9 = w4 at *
  clear hW4
  go_wp2_with fail
  go_loopw [53] (fun i wr => ∃ j : Nat, j ≤ N ∧ i = .int .i64 (j : Int) ∧ Below w.heap.size w wr) (fun i _ => N - (intOf i).toNat)
  case atStart => exact ⟨0, by omega, rfl, B4⟩
  case round =>
    clear B4
    obtain ⟨j, hj, rfl, Br⟩ := hrel
    by_cases hlt : j < N
    · have hR' := hR.out
      obtain ⟨ad, hAd, _, _⟩ := hR'.2 (by omega)
      subst hAd
      have j0 : (0 : Int) ≤ (j : Int) := by omega
      have j1 : (j : Int) ≤ (N : Int) := by omega
      have j2 : (j : Int) ≤ (C : Int) := by omega
      have j3 : (j : Int) + 1 ≤ (N : Int) := by omega
      have j4 : (0 : Int) ≤ (j : Int) + 1 := by omega
      have j5 : IntKind.i64.wrap ((j : Int) + 1) = (j : Int) + 1 := IntWalk.i64_in _ (by omega)
      have j6 : ((j : Int) + 1).toNat = j + 1 := by omega
      have j7 : (j : Int) + 1 ≤ (C : Int) := by omega
      have HQ := Lib.hid (And.intro hlt (HKf.out j hlt))
      have HMj := Lib.hid (HM2.out j hlt)
      obtain ⟨rest, hrest⟩ : ∃ r, (if C = j + 1 then some ad else some (ad.add ((j + 1) * 2))) = r := ⟨_, rfl⟩
      have HRest := Lib.hid (fun (u : World) (h : Below w.heap.size w u) => show Reads u w.heap.size 2 rest (N - (j + 1)) (mvs (L.drop (j + 1))) from by rw [← hrest]; exact reads_behind (C := C) (hR'.below h) hNC)
      have HTake := Lib.hid (fun (u : World) (h : Below w.heap.size w u) => show Reads u w.heap.size 2 (some ad) j (mvs (L.take j)) from reads_take (hR'.below h) (by omega))
      clear hR'
      go_upto_region 13 with fail
      have D1 := Br.drew
      clear Br
      refine wp_region_held_drew (S := fun _ => True) (by kernel_rfl) trivial (fun hS => ?_)
      generalize wr.drew = V at *
      have hsz := D1.size
      have HB1 := Lib.hid (D1.alloc hsz (.cells #[] 25))
      refine wpAnyH_take (i := 1) (v := .slice (some ad) N C) rfl (by kernel_rfl) (by kernel_rfl) (by kernel_rfl) (fun _ _ _ h => h) (Or.inl ⟨by kernel_rfl, fun u hSw => (by go_simp)⟩) hS ?_
      try simp only [Act.put]
      refine wpAnyH_take (i := 2) (v := .int .i64 (j : Int)) rfl (by kernel_rfl) (by kernel_rfl) (by kernel_rfl) (fun _ _ _ h => h) (Or.inl ⟨by kernel_rfl, fun u hSw => (by go_simp)⟩) hS ?_
      try simp only [Act.put]
      refine wpAnyH_take (i := 3) (v := .slice (some ad) j C) rfl (by kernel_rfl) (by kernel_rfl) (by kernel_rfl) (fun _ _ _ h => h) (Or.inl ⟨by kernel_rfl, fun u hSw => (by go_simp)⟩) hS ?_
      try simp only [Act.put]
      refine wpAnyH_take (i := 5) (v := .slice (some ad) N C) rfl (by kernel_rfl) (by kernel_rfl) (by kernel_rfl) (fun _ _ _ h => h) (Or.inl ⟨by kernel_rfl, fun u hSw => (by go_simp)⟩) hS ?_
      try simp only [Act.put]
      refine wpAnyH_take (i := 6) (v := .int .i64 (j : Int)) rfl (by kernel_rfl) (by kernel_rfl) (by kernel_rfl) (fun _ _ _ h => h) (Or.inl ⟨by kernel_rfl, fun u hSw => (by go_simp)⟩) hS ?_
      try simp only [Act.put]
      refine wpAnyH_take (i := 7) (v := .int .i64 ((j : Int) + 1)) rfl (by kernel_rfl) (by kernel_rfl) (by kernel_rfl) (fun _ _ _ h => h) (Or.inl ⟨by kernel_rfl, fun u hSw => (by go_simp)⟩) hS ?_
      try simp only [Act.put]
      refine wpAnyH_take (i := 8) (v := .slice rest (N - (j + 1)) (C - (j + 1))) rfl (by kernel_rfl) (by kernel_rfl) (by kernel_rfl) (fun _ _ _ h => h) (Or.inl ⟨by kernel_rfl, fun u hSw => (by go_simp)⟩) hS ?_
      try simp only [Act.put]
      refine wpAnyH_ready (rs := [0]) (by kernel_rfl) (by simp) ?_
      refine AllReadyH.cons rfl (fun K hK => ?_) AllReadyH.nil
      go_simp
      refine hK.out _ _ trivial (fun hS => ?_)
      clear hK K
      try simp only [Act.put]
      refine wpAnyH_ready (rs := [4]) (by kernel_rfl) (by simp) ?_
      refine AllReadyH.cons rfl (fun K hK => ?_) AllReadyH.nil
      refine step_append_any _ rfl (.tmp 56) (.tmp 59) 37 rfl w.heap.size 25 i0 (.agg #[.int .u32 0, .int .u32 0]) 2 8 Tryd.underlying37 hi0 hz0 hz1 hz2 rfl (by decide) (.slice (some ⟨V.heap.size, 0, none⟩) 0 0) 0 [] rfl (by simpa using World.ownsRow_made V #[] 0 hsz (by simp [maxLen]) (by simp)) w.heap.size (some ad) j C (mvs (L.take j)) rfl (HTake.out _ HB1.out) (mvs_ones _) (by simp only [maxLen]; omega) (by omega) (by simp; omega) ?_
      intro v5 w5 own5 grow5 _
      rw [List.nil_append, Nat.zero_add] at own5
      have B5 : Below w.heap.size w w5 := HB1.out.grown grow5 HB1.out.size (fun g hg => by simp [Value.ownBlock] at hg; omega)
      refine hK.out _ _ trivial (fun hS => ?_)
      clear hK K grow5
      try simp only [Act.put]
      refine wpAnyH_ready (rs := [9]) (by kernel_rfl) (by simp) ?_
      refine AllReadyH.cons rfl (fun K hK => ?_) AllReadyH.nil
      refine step_append_any _ rfl (.tmp 60) (.tmp 64) 37 rfl w.heap.size 25 i0 (.agg #[.int .u32 0, .int .u32 0]) 2 8 Tryd.underlying37 hi0 hz0 hz1 hz2 rfl (by decide) v5 j (mvs (L.take j)) rfl own5 w.heap.size rest (N - (j + 1)) (C - (j + 1)) (mvs (L.drop (j + 1))) rfl (HRest.out _ B5) (mvs_ones _) (by simp only [maxLen]; omega) (by omega) B5.size ?_
      intro v6 w6 own6 grow6 _
      have B6 : Below w.heap.size w w6 := B5.grown grow6 B5.size (fun g hg => (own5.lt g hg).1)
      rw [mvs_erase, show j + (N - (j + 1)) = N - 1 by omega] at own6
      obtain ⟨A6, c6, rfl, hc6, r6⟩ := own_reads own6
      have At6 : Hid (MAt w6 A6 (N - 1) c6 (L.eraseIdx j)) := Lib.hid ⟨r6, hc6, by omega, um_erase hU.out, HD.out.below B6 HD.out.lt⟩
      obtain ⟨N1, hN1⟩ : ∃ N1, N - 1 = N1 := ⟨_, rfl⟩
      rw [hN1] at At6 ⊢
      refine hK.out _ _ trivial (fun hS => ?_)
      clear hK K grow6 own6 own5 hc6 r6 B5
      try simp only [Act.put]
      refine wpAnyH_take (i := 10) (v := .slice A6 N1 c6) rfl (by kernel_rfl) (by kernel_rfl) (by kernel_rfl) (fun _ _ _ h => h) (Or.inl ⟨by kernel_rfl, fun u hSw => (by go_simp)⟩) hS ?_
      try simp only [Act.put]
      refine wpAnyH_done (by kernel_rfl) ?_ _
      try simp only [Act.put]
      clear hS j5 hrest
      go_simp
      go_wp2_with fail
      refine (HMj.out _ _ _ _ At6.out).mono ?_
      rintro e w7 ⟨rfl, h9⟩
      have B7 := Lib.hid (B6.trans (h9.mono B6.size))
      clear h9 B6 j0 j1 j2 j3 j4 j6 j7
      obtain ⟨kk, hkk⟩ : ∃ kk, K j = kk := ⟨_, rfl⟩
      rw [hkk] at HQ ⊢
      have q1 : (kk : Int) ≤ (n0 : Int) := by have := HQ.out.2.1; omega
      have q2 : (n0 : Int) - 1 ≤ (kk : Int) := by have := HQ.out.2.2.1; omega
      have q3 : IntKind.i64.wrap ((n0 : Int) - 1) = (n0 : Int) - 1 := IntWalk.i64_in _ (by omega)
      go_wp2
      go_roundw
      case rel => exact ⟨j + 1, by omega, by go_num, B7.out⟩
      case measure => simp [intOf] <;> omega
    · obtain rfl : N = j := by omega
      go_wp2_with fail
      refine (HM3.out _ Br).mono ?_
      rintro e w8 ⟨rfl, h9⟩
      have B8 := Lib.hid (Br.trans (h9.mono Br.size))
      clear h9 Br
      have q5 : IntKind.i64.wrap ((n0 : Int) + (pm : Int)) = (n0 : Int) + (pm : Int) := IntWalk.i64_in _ (by omega)
      go_wp2_with fail
      refine (HCm.out _).mono ?_
      rintro e w9 ⟨rfl, m9, rfl⟩
      have B9 := Lib.hid (below_drewN B8.out m9)
      go_wp2
      go_ret
      exact ⟨rfl, B9.out⟩

set_option maxRecDepth 100000 in
set_option maxHeartbeats 16000000 in
theorem fewer_err_long_true (ad : Addr) (M0 N C n0 pc : Nat) (hM0 : (12 : Int) < (M0 : Int)) (HT : Hid (N = 12)) (hC : (12 : Int) ≤ (C : Int)) (L : List (Int × Int)) (S : Nat) (m X : Int) (K : Nat → Nat) (w : World) (h12 : (N : Int) ≤ 12) (hNC : N ≤ C) (hR : Hid (Reads w w.heap.size 2 (some ad) N (mvs L))) (hU : Hid (∀ (k : Nat) (m : Int × Int), L[k]? = some m → UM m))
    (hn0 : (n0 : Int) ≤ (N : Int)) (hpc : (n0 : Int) ≤ (pc : Int)) (ht1 : ((n0 : Int) == (N : Int)) = true) (hX : bits .or .u32 (S : Int) m = X)
    (HKf : Hid (∀ j, j < N → K j ≤ n0 ∧ n0 ≤ K j + 1 ∧ K j = N - 1)) (e3 k3 : Int) (he3 : (e3 != 0) = true)
    (HD : Hid (Db w))
    (HK : Hid (TellsD 8 #[] (.bool true)))
    (HM : Hid (∀ u : World, Below w.heap.size w u → Calls Tryd.prog 20 #[.slice (some ad) N C, .int .u32 (S : Int)] u (Said (.tuple #[.int .i64 (n0 : Int), .int .i64 0]) u)))
    (HF : Hid (∀ u : World, Below w.heap.size w u → Calls Tryd.prog 21 #[.slice (some ad) N C, .int .u32 (S : Int)] u (Said (.bool true) u)))
    (HCt : Hid (∀ u : World, Calls Tryd.prog 26 #[.int .u32 (S : Int)] u (Draws (.int .i64 (pc : Int)) u)))
    (HM2 : Hid (∀ (j : Nat), j < N → ∀ (A : Option Addr) (n c : Nat) (u : World), MAt u A n c (L.eraseIdx j) → Calls Tryd.prog 20 #[.slice A n c, .int .u32 (S : Int)] u (Said (.tuple #[.int .i64 ((K j : Nat) : Int), .int .i64 0]) u)))
    (HM3 : Hid (∀ u : World, Below w.heap.size w u → Calls Tryd.prog 20 #[.slice (some ad) N C, .int .u32 X] u (Said (.tuple #[.int .i64 k3, .int .i64 e3]) u))) :
    Calls Tryd.prog 6 #[.slice (some ad) M0 C, .int .u32 (S : Int), .int .u32 m] w (Said (.bool true) w) := by
  obtain ⟨i0, hi0, hz0, hz1, hz2⟩ := info_parts mask_info
  have z1 : decide (N < n0) = false := decide_eq_false (by omega)
  have z2 : decide (pc < n0) = false := decide_eq_false (by omega)
  go_enter Tryd.func6, Tryd.ntmps6
  go_wp2_with fail
  refine (HK.out _ HD.out).mono ?_
  rintro e w1 ⟨rfl, B1⟩
  go_wp2_with fail
  rw [show (Value.slice (some ad) 12 C) = .slice (some ad) N C by rw [HT.out]]
  refine (HM.out _ B1).mono ?_
  rintro e w2 ⟨rfl, h9⟩
  have B2 := B1.trans (h9.mono B1.size)
  clear h9 B1
  go_wp2_with fail
  refine (HF.out _ B2).mono ?_
  rintro e w3 ⟨rfl, h9⟩
  have B3 := B2.trans (h9.mono B2.size)
  clear h9 B2
  go_wp2_with fail
  refine (HCt.out _).mono ?_
  rintro e w4 ⟨rfl, m9, rfl⟩
  have B4 := below_drewN B3 m9
  clear B3
  generalize hW4 : w3.drewN m9 = w4 at *
  clear hW4
  go_wp2_with fail
  go_loopw [53] (fun i wr => ∃ j : Nat, j ≤ N ∧ i = .int .i64 (j : Int) ∧ Below w.heap.size w wr) (fun i _ => N - (intOf i).toNat)
  case atStart => exact ⟨0, by omega, rfl, B4⟩
  case round =>
    clear B4
    obtain ⟨j, hj, rfl, Br⟩ := hrel
    by_cases hlt : j < N
    · have hR' := hR.out
      have j0 : (0 : Int) ≤ (j : Int) := by omega
      have j1 : (j : Int) ≤ (N : Int) := by omega
      have j2 : (j : Int) ≤ (C : Int) := by omega
      have j3 : (j : Int) + 1 ≤ (N : Int) := by omega
      have j4 : (0 : Int) ≤ (j : Int) + 1 := by omega
      have j5 : IntKind.i64.wrap ((j : Int) + 1) = (j : Int) + 1 := IntWalk.i64_in _ (by omega)
      have j6 : ((j : Int) + 1).toNat = j + 1 := by omega
      have j7 : (j : Int) + 1 ≤ (C : Int) := by omega
      have HQ := Lib.hid (And.intro hlt (HKf.out j hlt))
      have HMj := Lib.hid (HM2.out j hlt)
      obtain ⟨rest, hrest⟩ : ∃ r, (if C = j + 1 then some ad else some (ad.add ((j + 1) * 2))) = r := ⟨_, rfl⟩
      have HRest := Lib.hid (fun (u : World) (h : Below w.heap.size w u) => show Reads u w.heap.size 2 rest (N - (j + 1)) (mvs (L.drop (j + 1))) from by rw [← hrest]; exact reads_behind (C := C) (hR'.below h) hNC)
      have HTake := Lib.hid (fun (u : World) (h : Below w.heap.size w u) => show Reads u w.heap.size 2 (some ad) j (mvs (L.take j)) from reads_take (hR'.below h) (by omega))
      clear hR'
      go_upto_region 13 with fail
      have D1 := Br.drew
      clear Br
      refine wp_region_held_drew (S := fun _ => True) (by kernel_rfl) trivial (fun hS => ?_)
      generalize wr.drew = V at *
      have hsz := D1.size
      have HB1 := Lib.hid (D1.alloc hsz (.cells #[] 25))
      refine wpAnyH_take (i := 1) (v := .slice (some ad) N C) rfl (by kernel_rfl) (by kernel_rfl) (by kernel_rfl) (fun _ _ _ h => h) (Or.inl ⟨by kernel_rfl, fun u hSw => (by go_simp)⟩) hS ?_
      try simp only [Act.put]
      refine wpAnyH_take (i := 2) (v := .int .i64 (j : Int)) rfl (by kernel_rfl) (by kernel_rfl) (by kernel_rfl) (fun _ _ _ h => h) (Or.inl ⟨by kernel_rfl, fun u hSw => (by go_simp)⟩) hS ?_
      try simp only [Act.put]
      refine wpAnyH_take (i := 3) (v := .slice (some ad) j C) rfl (by kernel_rfl) (by kernel_rfl) (by kernel_rfl) (fun _ _ _ h => h) (Or.inl ⟨by kernel_rfl, fun u hSw => (by go_simp)⟩) hS ?_
      try simp only [Act.put]
      refine wpAnyH_take (i := 5) (v := .slice (some ad) N C) rfl (by kernel_rfl) (by kernel_rfl) (by kernel_rfl) (fun _ _ _ h => h) (Or.inl ⟨by kernel_rfl, fun u hSw => (by go_simp)⟩) hS ?_
      try simp only [Act.put]
      refine wpAnyH_take (i := 6) (v := .int .i64 (j : Int)) rfl (by kernel_rfl) (by kernel_rfl) (by kernel_rfl) (fun _ _ _ h => h) (Or.inl ⟨by kernel_rfl, fun u hSw => (by go_simp)⟩) hS ?_
      try simp only [Act.put]
      refine wpAnyH_take (i := 7) (v := .int .i64 ((j : Int) + 1)) rfl (by kernel_rfl) (by kernel_rfl) (by kernel_rfl) (fun _ _ _ h => h) (Or.inl ⟨by kernel_rfl, fun u hSw => (by go_simp)⟩) hS ?_
      try simp only [Act.put]
      refine wpAnyH_take (i := 8) (v := .slice rest (N - (j + 1)) (C - (j + 1))) rfl (by kernel_rfl) (by kernel_rfl) (by kernel_rfl) (fun _ _ _ h => h) (Or.inl ⟨by kernel_rfl, fun u hSw => (by go_simp)⟩) hS ?_
      try simp only [Act.put]
      refine wpAnyH_ready (rs := [0]) (by kernel_rfl) (by simp) ?_
      refine AllReadyH.cons rfl (fun K hK => ?_) AllReadyH.nil
      go_simp
      refine hK.out _ _ trivial (fun hS => ?_)
      clear hK K
      try simp only [Act.put]
      refine wpAnyH_ready (rs := [4]) (by kernel_rfl) (by simp) ?_
      refine AllReadyH.cons rfl (fun K hK => ?_) AllReadyH.nil
      refine step_append_any _ rfl (.tmp 56) (.tmp 59) 37 rfl w.heap.size 25 i0 (.agg #[.int .u32 0, .int .u32 0]) 2 8 Tryd.underlying37 hi0 hz0 hz1 hz2 rfl (by decide) (.slice (some ⟨V.heap.size, 0, none⟩) 0 0) 0 [] rfl (by simpa using World.ownsRow_made V #[] 0 hsz (by simp [maxLen]) (by simp)) w.heap.size (some ad) j C (mvs (L.take j)) rfl (HTake.out _ HB1.out) (mvs_ones _) (by simp only [maxLen]; omega) (by omega) (by simp; omega) ?_
      intro v5 w5 own5 grow5 _
      rw [List.nil_append, Nat.zero_add] at own5
      have B5 : Below w.heap.size w w5 := HB1.out.grown grow5 HB1.out.size (fun g hg => by simp [Value.ownBlock] at hg; omega)
      refine hK.out _ _ trivial (fun hS => ?_)
      clear hK K grow5
      try simp only [Act.put]
      refine wpAnyH_ready (rs := [9]) (by kernel_rfl) (by simp) ?_
      refine AllReadyH.cons rfl (fun K hK => ?_) AllReadyH.nil
      refine step_append_any _ rfl (.tmp 60) (.tmp 64) 37 rfl w.heap.size 25 i0 (.agg #[.int .u32 0, .int .u32 0]) 2 8 Tryd.underlying37 hi0 hz0 hz1 hz2 rfl (by decide) v5 j (mvs (L.take j)) rfl own5 w.heap.size rest (N - (j + 1)) (C - (j + 1)) (mvs (L.drop (j + 1))) rfl (HRest.out _ B5) (mvs_ones _) (by simp only [maxLen]; omega) (by omega) B5.size ?_
      intro v6 w6 own6 grow6 _
      have B6 : Below w.heap.size w w6 := B5.grown grow6 B5.size (fun g hg => (own5.lt g hg).1)
      rw [mvs_erase, show j + (N - (j + 1)) = N - 1 by omega] at own6
      obtain ⟨A6, c6, rfl, hc6, r6⟩ := own_reads own6
      have At6 : Hid (MAt w6 A6 (N - 1) c6 (L.eraseIdx j)) := Lib.hid ⟨r6, hc6, by omega, um_erase hU.out, HD.out.below B6 HD.out.lt⟩
      obtain ⟨N1, hN1⟩ : ∃ N1, N - 1 = N1 := ⟨_, rfl⟩
      rw [hN1] at At6 ⊢
      refine hK.out _ _ trivial (fun hS => ?_)
      clear hK K grow6 own6 own5 hc6 r6 B5
      try simp only [Act.put]
      refine wpAnyH_take (i := 10) (v := .slice A6 N1 c6) rfl (by kernel_rfl) (by kernel_rfl) (by kernel_rfl) (fun _ _ _ h => h) (Or.inl ⟨by kernel_rfl, fun u hSw => (by go_simp)⟩) hS ?_
      try simp only [Act.put]
      refine wpAnyH_done (by kernel_rfl) ?_ _
      try simp only [Act.put]
      clear hS j5 hrest
      go_simp
      go_wp2_with fail
      refine (HMj.out _ _ _ _ At6.out).mono ?_
      rintro e w7 ⟨rfl, h9⟩
      have B7 := Lib.hid (B6.trans (h9.mono B6.size))
      clear h9 B6 j0 j1 j2 j3 j4 j6 j7
      obtain ⟨kk, hkk⟩ : ∃ kk, K j = kk := ⟨_, rfl⟩
      rw [hkk] at HQ ⊢
      have q1 : (kk : Int) ≤ (n0 : Int) := by have := HQ.out.2.1; omega
      have q2 : (n0 : Int) - 1 ≤ (kk : Int) := by have := HQ.out.2.2.1; omega
      have q3 : IntKind.i64.wrap ((n0 : Int) - 1) = (n0 : Int) - 1 := IntWalk.i64_in _ (by omega)
      have q4 : ((kk : Int) != (N1 : Int)) = false := by
        have := HQ.out.2.2.2
        simp; omega
      go_wp2
      go_roundw
      case rel => exact ⟨j + 1, by omega, by go_num, B7.out⟩
      case measure => simp [intOf] <;> omega
    · obtain rfl : N = j := by omega
      go_wp2_with fail
      refine (HM3.out _ Br).mono ?_
      rintro e w8 ⟨rfl, h9⟩
      have B8 := Lib.hid (Br.trans (h9.mono Br.size))
      clear h9 Br
      go_wp2
      go_ret
      exact ⟨rfl, B8.out⟩

set_option maxRecDepth 100000 in
set_option maxHeartbeats 16000000 in
theorem fewer_err_long_false (ad : Addr) (M0 N C n0 pc : Nat) (hM0 : (12 : Int) < (M0 : Int)) (HT : Hid (N = 12)) (hC : (12 : Int) ≤ (C : Int)) (L : List (Int × Int)) (S : Nat) (m X : Int) (K : Nat → Nat) (w : World) (h12 : (N : Int) ≤ 12) (hNC : N ≤ C) (hR : Hid (Reads w w.heap.size 2 (some ad) N (mvs L))) (hU : Hid (∀ (k : Nat) (m : Int × Int), L[k]? = some m → UM m))
    (hn0 : (n0 : Int) ≤ (N : Int)) (hpc : (n0 : Int) ≤ (pc : Int)) (ht1 : ((n0 : Int) == (N : Int)) = false) (hX : bits .or .u32 (S : Int) m = X)
    (HKf : Hid (∀ j, j < N → K j ≤ n0 ∧ n0 ≤ K j + 1 ∧ True)) (e3 k3 : Int) (he3 : (e3 != 0) = true)
    (HD : Hid (Db w))
    (HK : Hid (TellsD 8 #[] (.bool true)))
    (HM : Hid (∀ u : World, Below w.heap.size w u → Calls Tryd.prog 20 #[.slice (some ad) N C, .int .u32 (S : Int)] u (Said (.tuple #[.int .i64 (n0 : Int), .int .i64 0]) u)))
    (HF : Hid (∀ u : World, Below w.heap.size w u → Calls Tryd.prog 21 #[.slice (some ad) N C, .int .u32 (S : Int)] u (Said (.bool false) u)))
    (HCt : Hid (∀ u : World, Calls Tryd.prog 26 #[.int .u32 (S : Int)] u (Draws (.int .i64 (pc : Int)) u)))
    (HM2 : Hid (∀ (j : Nat), j < N → ∀ (A : Option Addr) (n c : Nat) (u : World), MAt u A n c (L.eraseIdx j) → Calls Tryd.prog 20 #[.slice A n c, .int .u32 (S : Int)] u (Said (.tuple #[.int .i64 ((K j : Nat) : Int), .int .i64 0]) u)))
    (HM3 : Hid (∀ u : World, Below w.heap.size w u → Calls Tryd.prog 20 #[.slice (some ad) N C, .int .u32 X] u (Said (.tuple #[.int .i64 k3, .int .i64 e3]) u))) :
    Calls Tryd.prog 6 #[.slice (some ad) M0 C, .int .u32 (S : Int), .int .u32 m] w (Said (.bool true) w) := by
  obtain ⟨i0, hi0, hz0, hz1, hz2⟩ := info_parts mask_info
  have z1 : decide (N < n0) = false := decide_eq_false (by omega)
  have z2 : decide (pc < n0) = false := decide_eq_false (by omega)
  go_enter Tryd.func6, Tryd.ntmps6
  go_wp2_with fail
  refine (HK.out _ HD.out).mono ?_
  rintro e w1 ⟨rfl, B1⟩
  go_wp2_with fail
  rw [show (Value.slice (some ad) 12 C) = .slice (some ad) N C by rw [HT.out]]
  refine (HM.out _ B1).mono ?_
  rintro e w2 ⟨rfl, h9⟩
  have B2 := B1.trans (h9.mono B1.size)
  clear h9 B1
  go_wp2_with fail
  refine (HF.out _ B2).mono ?_
  rintro e w3 ⟨rfl, h9⟩
  have B3 := B2.trans (h9.mono B2.size)
  clear h9 B2
  go_wp2_with fail
  refine (HCt.out _).mono ?_
  rintro e w4 ⟨rfl, m9, rfl⟩
  have B4 := below_drewN B3 m9
  clear B3
  generalize hW4 : w3.drewN m9 = w4 at *
  clear hW4
  go_wp2_with fail
  go_loopw [53] (fun i wr => ∃ j : Nat, j ≤ N ∧ i = .int .i64 (j : Int) ∧ Below w.heap.size w wr) (fun i _ => N - (intOf i).toNat)
  case atStart => exact ⟨0, by omega, rfl, B4⟩
  case round =>
    clear B4
    obtain ⟨j, hj, rfl, Br⟩ := hrel
    by_cases hlt : j < N
    · have hR' := hR.out
      have j0 : (0 : Int) ≤ (j : Int) := by omega
      have j1 : (j : Int) ≤ (N : Int) := by omega
      have j2 : (j : Int) ≤ (C : Int) := by omega
      have j3 : (j : Int) + 1 ≤ (N : Int) := by omega
      have j4 : (0 : Int) ≤ (j : Int) + 1 := by omega
      have j5 : IntKind.i64.wrap ((j : Int) + 1) = (j : Int) + 1 := IntWalk.i64_in _ (by omega)
      have j6 : ((j : Int) + 1).toNat = j + 1 := by omega
      have j7 : (j : Int) + 1 ≤ (C : Int) := by omega
      have HQ := Lib.hid (And.intro hlt (HKf.out j hlt))
      have HMj := Lib.hid (HM2.out j hlt)
      obtain ⟨rest, hrest⟩ : ∃ r, (if C = j + 1 then some ad else some (ad.add ((j + 1) * 2))) = r := ⟨_, rfl⟩
      have HRest := Lib.hid (fun (u : World) (h : Below w.heap.size w u) => show Reads u w.heap.size 2 rest (N - (j + 1)) (mvs (L.drop (j + 1))) from by rw [← hrest]; exact reads_behind (C := C) (hR'.below h) hNC)
      have HTake := Lib.hid (fun (u : World) (h : Below w.heap.size w u) => show Reads u w.heap.size 2 (some ad) j (mvs (L.take j)) from reads_take (hR'.below h) (by omega))
      clear hR'
      go_upto_region 13 with fail
      have D1 := Br.drew
      clear Br
      refine wp_region_held_drew (S := fun _ => True) (by kernel_rfl) trivial (fun hS => ?_)
      generalize wr.drew = V at *
      have hsz := D1.size
      have HB1 := Lib.hid (D1.alloc hsz (.cells #[] 25))
      refine wpAnyH_take (i := 1) (v := .slice (some ad) N C) rfl (by kernel_rfl) (by kernel_rfl) (by kernel_rfl) (fun _ _ _ h => h) (Or.inl ⟨by kernel_rfl, fun u hSw => (by go_simp)⟩) hS ?_
      try simp only [Act.put]
      refine wpAnyH_take (i := 2) (v := .int .i64 (j : Int)) rfl (by kernel_rfl) (by kernel_rfl) (by kernel_rfl) (fun _ _ _ h => h) (Or.inl ⟨by kernel_rfl, fun u hSw => (by go_simp)⟩) hS ?_
      try simp only [Act.put]
      refine wpAnyH_take (i := 3) (v := .slice (some ad) j C) rfl (by kernel_rfl) (by kernel_rfl) (by kernel_rfl) (fun _ _ _ h => h) (Or.inl ⟨by kernel_rfl, fun u hSw => (by go_simp)⟩) hS ?_
      try simp only [Act.put]
      refine wpAnyH_take (i := 5) (v := .slice (some ad) N C) rfl (by kernel_rfl) (by kernel_rfl) (by kernel_rfl) (fun _ _ _ h => h) (Or.inl ⟨by kernel_rfl, fun u hSw => (by go_simp)⟩) hS ?_
      try simp only [Act.put]
      refine wpAnyH_take (i := 6) (v := .int .i64 (j : Int)) rfl (by kernel_rfl) (by kernel_rfl) (by kernel_rfl) (fun _ _ _ h => h) (Or.inl ⟨by kernel_rfl, fun u hSw => (by go_simp)⟩) hS ?_
      try simp only [Act.put]
      refine wpAnyH_take (i := 7) (v := .int .i64 ((j : Int) + 1)) rfl (by kernel_rfl) (by kernel_rfl) (by kernel_rfl) (fun _ _ _ h => h) (Or.inl ⟨by kernel_rfl, fun u hSw => (by go_simp)⟩) hS ?_
      try simp only [Act.put]
      refine wpAnyH_take (i := 8) (v := .slice rest (N - (j + 1)) (C - (j + 1))) rfl (by kernel_rfl) (by kernel_rfl) (by kernel_rfl) (fun _ _ _ h => h) (Or.inl ⟨by kernel_rfl, fun u hSw => (by go_simp)⟩) hS ?_
      try simp only [Act.put]
      refine wpAnyH_ready (rs := [0]) (by kernel_rfl) (by simp) ?_
      refine AllReadyH.cons rfl (fun K hK => ?_) AllReadyH.nil
      go_simp
      refine hK.out _ _ trivial (fun hS => ?_)
      clear hK K
      try simp only [Act.put]
      refine wpAnyH_ready (rs := [4]) (by kernel_rfl) (by simp) ?_
      refine AllReadyH.cons rfl (fun K hK => ?_) AllReadyH.nil
      refine step_append_any _ rfl (.tmp 56) (.tmp 59) 37 rfl w.heap.size 25 i0 (.agg #[.int .u32 0, .int .u32 0]) 2 8 Tryd.underlying37 hi0 hz0 hz1 hz2 rfl (by decide) (.slice (some ⟨V.heap.size, 0, none⟩) 0 0) 0 [] rfl (by simpa using World.ownsRow_made V #[] 0 hsz (by simp [maxLen]) (by simp)) w.heap.size (some ad) j C (mvs (L.take j)) rfl (HTake.out _ HB1.out) (mvs_ones _) (by simp only [maxLen]; omega) (by omega) (by simp; omega) ?_
      intro v5 w5 own5 grow5 _
      rw [List.nil_append, Nat.zero_add] at own5
      have B5 : Below w.heap.size w w5 := HB1.out.grown grow5 HB1.out.size (fun g hg => by simp [Value.ownBlock] at hg; omega)
      refine hK.out _ _ trivial (fun hS => ?_)
      clear hK K grow5
      try simp only [Act.put]
      refine wpAnyH_ready (rs := [9]) (by kernel_rfl) (by simp) ?_
      refine AllReadyH.cons rfl (fun K hK => ?_) AllReadyH.nil
      refine step_append_any _ rfl (.tmp 60) (.tmp 64) 37 rfl w.heap.size 25 i0 (.agg #[.int .u32 0, .int .u32 0]) 2 8 Tryd.underlying37 hi0 hz0 hz1 hz2 rfl (by decide) v5 j (mvs (L.take j)) rfl own5 w.heap.size rest (N - (j + 1)) (C - (j + 1)) (mvs (L.drop (j + 1))) rfl (HRest.out _ B5) (mvs_ones _) (by simp only [maxLen]; omega) (by omega) B5.size ?_
      intro v6 w6 own6 grow6 _
      have B6 : Below w.heap.size w w6 := B5.grown grow6 B5.size (fun g hg => (own5.lt g hg).1)
      rw [mvs_erase, show j + (N - (j + 1)) = N - 1 by omega] at own6
      obtain ⟨A6, c6, rfl, hc6, r6⟩ := own_reads own6
      have At6 : Hid (MAt w6 A6 (N - 1) c6 (L.eraseIdx j)) := Lib.hid ⟨r6, hc6, by omega, um_erase hU.out, HD.out.below B6 HD.out.lt⟩
      obtain ⟨N1, hN1⟩ : ∃ N1, N - 1 = N1 := ⟨_, rfl⟩
      rw [hN1] at At6 ⊢
      refine hK.out _ _ trivial (fun hS => ?_)
      clear hK K grow6 own6 own5 hc6 r6 B5
      try simp only [Act.put]
      refine wpAnyH_take (i := 10) (v := .slice A6 N1 c6) rfl (by kernel_rfl) (by kernel_rfl) (by kernel_rfl) (fun _ _ _ h => h) (Or.inl ⟨by kernel_rfl, fun u hSw => (by go_simp)⟩) hS ?_
      try simp only [Act.put]
      refine wpAnyH_done (by kernel_rfl) ?_ _
      try simp only [Act.put]
      clear hS j5 hrest
      go_simp
      go_wp2_with fail
      refine (HMj.out _ _ _ _ At6.out).mono ?_
      rintro e w7 ⟨rfl, h9⟩
      have B7 := Lib.hid (B6.trans (h9.mono B6.size))
      clear h9 B6 j0 j1 j2 j3 j4 j6 j7
      obtain ⟨kk, hkk⟩ : ∃ kk, K j = kk := ⟨_, rfl⟩
      rw [hkk] at HQ ⊢
      have q1 : (kk : Int) ≤ (n0 : Int) := by have := HQ.out.2.1; omega
      have q2 : (n0 : Int) - 1 ≤ (kk : Int) := by have := HQ.out.2.2.1; omega
      have q3 : IntKind.i64.wrap ((n0 : Int) - 1) = (n0 : Int) - 1 := IntWalk.i64_in _ (by omega)
      go_wp2
      go_roundw
      case rel => exact ⟨j + 1, by omega, by go_num, B7.out⟩
      case measure => simp [intOf] <;> omega
    · obtain rfl : N = j := by omega
      go_wp2_with fail
      refine (HM3.out _ Br).mono ?_
      rintro e w8 ⟨rfl, h9⟩
      have B8 := Lib.hid (Br.trans (h9.mono Br.size))
      clear h9 Br
      go_wp2
      go_ret
      exact ⟨rfl, B8.out⟩

set_option maxRecDepth 100000 in
set_option maxHeartbeats 16000000 in
theorem fewer_ok_long_true (ad : Addr) (M0 N C n0 pc : Nat) (hM0 : (12 : Int) < (M0 : Int)) (HT : Hid (N = 12)) (hC : (12 : Int) ≤ (C : Int)) (L : List (Int × Int)) (S : Nat) (m X : Int) (K : Nat → Nat) (w : World) (h12 : (N : Int) ≤ 12) (hNC : N ≤ C) (hR : Hid (Reads w w.heap.size 2 (some ad) N (mvs L))) (hU : Hid (∀ (k : Nat) (m : Int × Int), L[k]? = some m → UM m))
    (hn0 : (n0 : Int) ≤ (N : Int)) (hpc : (n0 : Int) ≤ (pc : Int)) (ht1 : ((n0 : Int) == (N : Int)) = true) (hX : bits .or .u32 (S : Int) m = X)
    (HKf : Hid (∀ j, j < N → K j ≤ n0 ∧ n0 ≤ K j + 1 ∧ K j = N - 1)) (k3 pm : Nat) (hk3 : (n0 : Int) ≤ (k3 : Int)) (hpm : (k3 : Int) ≤ (n0 : Int) + (pm : Int)) (pm8 : (pm : Int) ≤ 8)
    (HD : Hid (Db w))
    (HK : Hid (TellsD 8 #[] (.bool true)))
    (HM : Hid (∀ u : World, Below w.heap.size w u → Calls Tryd.prog 20 #[.slice (some ad) N C, .int .u32 (S : Int)] u (Said (.tuple #[.int .i64 (n0 : Int), .int .i64 0]) u)))
    (HF : Hid (∀ u : World, Below w.heap.size w u → Calls Tryd.prog 21 #[.slice (some ad) N C, .int .u32 (S : Int)] u (Said (.bool true) u)))
    (HCt : Hid (∀ u : World, Calls Tryd.prog 26 #[.int .u32 (S : Int)] u (Draws (.int .i64 (pc : Int)) u)))
    (HM2 : Hid (∀ (j : Nat), j < N → ∀ (A : Option Addr) (n c : Nat) (u : World), MAt u A n c (L.eraseIdx j) → Calls Tryd.prog 20 #[.slice A n c, .int .u32 (S : Int)] u (Said (.tuple #[.int .i64 ((K j : Nat) : Int), .int .i64 0]) u)))
    (HM3 : Hid (∀ u : World, Below w.heap.size w u → Calls Tryd.prog 20 #[.slice (some ad) N C, .int .u32 X] u (Said (.tuple #[.int .i64 (k3 : Int), .int .i64 0]) u)))
    (HCm : Hid (∀ u : World, Calls Tryd.prog 26 #[.int .u32 m] u (Draws (.int .i64 (pm : Int)) u))) :
    Calls Tryd.prog 6 #[.slice (some ad) M0 C, .int .u32 (S : Int), .int .u32 m] w (Said (.bool true) w) := by
  obtain ⟨i0, hi0, hz0, hz1, hz2⟩ := info_parts mask_info
  have z1 : decide (N < n0) = false := decide_eq_false (by omega)
  have z2 : decide (pc < n0) = false := decide_eq_false (by omega)
  go_enter Tryd.func6, Tryd.ntmps6
  go_wp2_with fail
  refine (HK.out _ HD.out).mono ?_
  rintro e w1 ⟨rfl, B1⟩
  go_wp2_with fail
  rw [show (Value.slice (some ad) 12 C) = .slice (some ad) N C by rw [HT.out]]
  refine (HM.out _ B1).mono ?_
  rintro e w2 ⟨rfl, h9⟩
  have B2 := B1.trans (h9.mono B1.size)
  clear h9 B1
  go_wp2_with fail
  refine (HF.out _ B2).mono ?_
  rintro e w3 ⟨rfl, h9⟩
  have B3 := B2.trans (h9.mono B2.size)
  clear h9 B2
  go_wp2_with fail
  refine (HCt.out _).mono ?_
  rintro e w4 ⟨rfl, m9, rfl⟩
  have B4 := below_drewN B3 m9
  clear B3
  generalize hW4 : w3.drewN m9 = w4 at *
  clear hW4
  go_wp2_with fail
  go_loopw [53] (fun i wr => ∃ j : Nat, j ≤ N ∧ i = .int .i64 (j : Int) ∧ Below w.heap.size w wr) (fun i _ => N - (intOf i).toNat)
  case atStart => exact ⟨0, by omega, rfl, B4⟩
  case round =>
    clear B4
    obtain ⟨j, hj, rfl, Br⟩ := hrel
    by_cases hlt : j < N
    · have hR' := hR.out
      have j0 : (0 : Int) ≤ (j : Int) := by omega
      have j1 : (j : Int) ≤ (N : Int) := by omega
      have j2 : (j : Int) ≤ (C : Int) := by omega
      have j3 : (j : Int) + 1 ≤ (N : Int) := by omega
      have j4 : (0 : Int) ≤ (j : Int) + 1 := by omega
      have j5 : IntKind.i64.wrap ((j : Int) + 1) = (j : Int) + 1 := IntWalk.i64_in _ (by omega)
      have j6 : ((j : Int) + 1).toNat = j + 1 := by omega
      have j7 : (j : Int) + 1 ≤ (C : Int) := by omega
      have HQ := Lib.hid (And.intro hlt (HKf.out j hlt))
      have HMj := Lib.hid (HM2.out j hlt)
      obtain ⟨rest, hrest⟩ : ∃ r, (if C = j + 1 then some ad else some (ad.add ((j + 1) * 2))) = r := ⟨_, rfl⟩
      have HRest := Lib.hid (fun (u : World) (h : Below w.heap.size w u) => show Reads u w.heap.size 2 rest (N - (j + 1)) (mvs (L.drop (j + 1))) from by rw [← hrest]; exact reads_behind (C := C) (hR'.below h) hNC)
      have HTake := Lib.hid (fun (u : World) (h : Below w.heap.size w u) => show Reads u w.heap.size 2 (some ad) j (mvs (L.take j)) from reads_take (hR'.below h) (by omega))
      clear hR'
      go_upto_region 13 with fail
      have D1 := Br.drew
      clear Br
      refine wp_region_held_drew (S := fun _ => True) (by kernel_rfl) trivial (fun hS => ?_)
      generalize wr.drew = V at *
      have hsz := D1.size
      have HB1 := Lib.hid (D1.alloc hsz (.cells #[] 25))
      refine wpAnyH_take (i := 1) (v := .slice (some ad) N C) rfl (by kernel_rfl) (by kernel_rfl) (by kernel_rfl) (fun _ _ _ h => h) (Or.inl ⟨by kernel_rfl, fun u hSw => (by go_simp)⟩) hS ?_
      try simp only [Act.put]
      refine wpAnyH_take (i := 2) (v := .int .i64 (j : Int)) rfl (by kernel_rfl) (by kernel_rfl) (by kernel_rfl) (fun _ _ _ h => h) (Or.inl ⟨by kernel_rfl, fun u hSw => (by go_simp)⟩) hS ?_
      try simp only [Act.put]
      refine wpAnyH_take (i := 3) (v := .slice (some ad) j C) rfl (by kernel_rfl) (by kernel_rfl) (by kernel_rfl) (fun _ _ _ h => h) (Or.inl ⟨by kernel_rfl, fun u hSw => (by go_simp)⟩) hS ?_
      try simp only [Act.put]
      refine wpAnyH_take (i := 5) (v := .slice (some ad) N C) rfl (by kernel_rfl) (by kernel_rfl) (by kernel_rfl) (fun _ _ _ h => h) (Or.inl ⟨by kernel_rfl, fun u hSw => (by go_simp)⟩) hS ?_
      try simp only [Act.put]
      refine wpAnyH_take (i := 6) (v := .int .i64 (j : Int)) rfl (by kernel_rfl) (by kernel_rfl) (by kernel_rfl) (fun _ _ _ h => h) (Or.inl ⟨by kernel_rfl, fun u hSw => (by go_simp)⟩) hS ?_
      try simp only [Act.put]
      refine wpAnyH_take (i := 7) (v := .int .i64 ((j : Int) + 1)) rfl (by kernel_rfl) (by kernel_rfl) (by kernel_rfl) (fun _ _ _ h => h) (Or.inl ⟨by kernel_rfl, fun u hSw => (by go_simp)⟩) hS ?_
      try simp only [Act.put]
      refine wpAnyH_take (i := 8) (v := .slice rest (N - (j + 1)) (C - (j + 1))) rfl (by kernel_rfl) (by kernel_rfl) (by kernel_rfl) (fun _ _ _ h => h) (Or.inl ⟨by kernel_rfl, fun u hSw => (by go_simp)⟩) hS ?_
      try simp only [Act.put]
      refine wpAnyH_ready (rs := [0]) (by kernel_rfl) (by simp) ?_
      refine AllReadyH.cons rfl (fun K hK => ?_) AllReadyH.nil
      go_simp
      refine hK.out _ _ trivial (fun hS => ?_)
      clear hK K
      try simp only [Act.put]
      refine wpAnyH_ready (rs := [4]) (by kernel_rfl) (by simp) ?_
      refine AllReadyH.cons rfl (fun K hK => ?_) AllReadyH.nil
      refine step_append_any _ rfl (.tmp 56) (.tmp 59) 37 rfl w.heap.size 25 i0 (.agg #[.int .u32 0, .int .u32 0]) 2 8 Tryd.underlying37 hi0 hz0 hz1 hz2 rfl (by decide) (.slice (some ⟨V.heap.size, 0, none⟩) 0 0) 0 [] rfl (by simpa using World.ownsRow_made V #[] 0 hsz (by simp [maxLen]) (by simp)) w.heap.size (some ad) j C (mvs (L.take j)) rfl (HTake.out _ HB1.out) (mvs_ones _) (by simp only [maxLen]; omega) (by omega) (by simp; omega) ?_
      intro v5 w5 own5 grow5 _
      rw [List.nil_append, Nat.zero_add] at own5
      have B5 : Below w.heap.size w w5 := HB1.out.grown grow5 HB1.out.size (fun g hg => by simp [Value.ownBlock] at hg; omega)
      refine hK.out _ _ trivial (fun hS => ?_)
      clear hK K grow5
      try simp only [Act.put]
      refine wpAnyH_ready (rs := [9]) (by kernel_rfl) (by simp) ?_
      refine AllReadyH.cons rfl (fun K hK => ?_) AllReadyH.nil
      refine step_append_any _ rfl (.tmp 60) (.tmp 64) 37 rfl w.heap.size 25 i0 (.agg #[.int .u32 0, .int .u32 0]) 2 8 Tryd.underlying37 hi0 hz0 hz1 hz2 rfl (by decide) v5 j (mvs (L.take j)) rfl own5 w.heap.size rest (N - (j + 1)) (C - (j + 1)) (mvs (L.drop (j + 1))) rfl (HRest.out _ B5) (mvs_ones _) (by simp only [maxLen]; omega) (by omega) B5.size ?_
      intro v6 w6 own6 grow6 _
      have B6 : Below w.heap.size w w6 := B5.grown grow6 B5.size (fun g hg => (own5.lt g hg).1)
      rw [mvs_erase, show j + (N - (j + 1)) = N - 1 by omega] at own6
      obtain ⟨A6, c6, rfl, hc6, r6⟩ := own_reads own6
      have At6 : Hid (MAt w6 A6 (N - 1) c6 (L.eraseIdx j)) := Lib.hid ⟨r6, hc6, by omega, um_erase hU.out, HD.out.below B6 HD.out.lt⟩
      obtain ⟨N1, hN1⟩ : ∃ N1, N - 1 = N1 := ⟨_, rfl⟩
      rw [hN1] at At6 ⊢
      refine hK.out _ _ trivial (fun hS => ?_)
      clear hK K grow6 own6 own5 hc6 r6 B5
      try simp only [Act.put]
      refine wpAnyH_take (i := 10) (v := .slice A6 N1 c6) rfl (by kernel_rfl) (by kernel_rfl) (by kernel_rfl) (fun _ _ _ h => h) (Or.inl ⟨by kernel_rfl, fun u hSw => (by go_simp)⟩) hS ?_
      try simp only [Act.put]
      refine wpAnyH_done (by kernel_rfl) ?_ _
      try simp only [Act.put]
      clear hS j5 hrest
      go_simp
      go_wp2_with fail
      refine (HMj.out _ _ _ _ At6.out).mono ?_
      rintro e w7 ⟨rfl, h9⟩
      have B7 := Lib.hid (B6.trans (h9.mono B6.size))
      clear h9 B6 j0 j1 j2 j3 j4 j6 j7
      obtain ⟨kk, hkk⟩ : ∃ kk, K j = kk := ⟨_, rfl⟩
      rw [hkk] at HQ ⊢
      have q1 : (kk : Int) ≤ (n0 : Int) := by have := HQ.out.2.1; omega
      have q2 : (n0 : Int) - 1 ≤ (kk : Int) := by have := HQ.out.2.2.1; omega
      have q3 : IntKind.i64.wrap ((n0 : Int) - 1) = (n0 : Int) - 1 := IntWalk.i64_in _ (by omega)
      have q4 : ((kk : Int) != (N1 : Int)) = false := by
        have := HQ.out.2.2.2
        simp; omega
      go_wp2
      go_roundw
      case rel => exact ⟨j + 1, by omega, by go_num, B7.out⟩
      case measure => simp [intOf] <;> omega
    · obtain rfl : N = j := by omega
      go_wp2_with fail
      refine (HM3.out _ Br).mono ?_
      rintro e w8 ⟨rfl, h9⟩
      have B8 := Lib.hid (Br.trans (h9.mono Br.size))
      clear h9 Br
      have q5 : IntKind.i64.wrap ((n0 : Int) + (pm : Int)) = (n0 : Int) + (pm : Int) := IntWalk.i64_in _ (by omega)
      go_wp2_with fail
      refine (HCm.out _).mono ?_
      rintro e w9 ⟨rfl, m9, rfl⟩
      have B9 := Lib.hid (below_drewN B8.out m9)
      go_wp2
      go_ret
      exact ⟨rfl, B9.out⟩

set_option maxRecDepth 100000 in
set_option maxHeartbeats 16000000 in
theorem fewer_ok_long_false (ad : Addr) (M0 N C n0 pc : Nat) (hM0 : (12 : Int) < (M0 : Int)) (HT : Hid (N = 12)) (hC : (12 : Int) ≤ (C : Int)) (L : List (Int × Int)) (S : Nat) (m X : Int) (K : Nat → Nat) (w : World) (h12 : (N : Int) ≤ 12) (hNC : N ≤ C) (hR : Hid (Reads w w.heap.size 2 (some ad) N (mvs L))) (hU : Hid (∀ (k : Nat) (m : Int × Int), L[k]? = some m → UM m))
    (hn0 : (n0 : Int) ≤ (N : Int)) (hpc : (n0 : Int) ≤ (pc : Int)) (ht1 : ((n0 : Int) == (N : Int)) = false) (hX : bits .or .u32 (S : Int) m = X)
    (HKf : Hid (∀ j, j < N → K j ≤ n0 ∧ n0 ≤ K j + 1 ∧ True)) (k3 pm : Nat) (hk3 : (n0 : Int) ≤ (k3 : Int)) (hpm : (k3 : Int) ≤ (n0 : Int) + (pm : Int)) (pm8 : (pm : Int) ≤ 8)
    (HD : Hid (Db w))
    (HK : Hid (TellsD 8 #[] (.bool true)))
    (HM : Hid (∀ u : World, Below w.heap.size w u → Calls Tryd.prog 20 #[.slice (some ad) N C, .int .u32 (S : Int)] u (Said (.tuple #[.int .i64 (n0 : Int), .int .i64 0]) u)))
    (HF : Hid (∀ u : World, Below w.heap.size w u → Calls Tryd.prog 21 #[.slice (some ad) N C, .int .u32 (S : Int)] u (Said (.bool false) u)))
    (HCt : Hid (∀ u : World, Calls Tryd.prog 26 #[.int .u32 (S : Int)] u (Draws (.int .i64 (pc : Int)) u)))
    (HM2 : Hid (∀ (j : Nat), j < N → ∀ (A : Option Addr) (n c : Nat) (u : World), MAt u A n c (L.eraseIdx j) → Calls Tryd.prog 20 #[.slice A n c, .int .u32 (S : Int)] u (Said (.tuple #[.int .i64 ((K j : Nat) : Int), .int .i64 0]) u)))
    (HM3 : Hid (∀ u : World, Below w.heap.size w u → Calls Tryd.prog 20 #[.slice (some ad) N C, .int .u32 X] u (Said (.tuple #[.int .i64 (k3 : Int), .int .i64 0]) u)))
    (HCm : Hid (∀ u : World, Calls Tryd.prog 26 #[.int .u32 m] u (Draws (.int .i64 (pm : Int)) u))) :
    Calls Tryd.prog 6 #[.slice (some ad) M0 C, .int .u32 (S : Int), .int .u32 m] w (Said (.bool true) w) := by
  obtain ⟨i0, hi0, hz0, hz1, hz2⟩ := info_parts mask_info
  have z1 : decide (N < n0) = false := decide_eq_false (by omega)
  have z2 : decide (pc < n0) = false := decide_eq_false (by omega)
  go_enter Tryd.func6, Tryd.ntmps6
  go_wp2_with fail
  refine (HK.out _ HD.out).mono ?_
  rintro e w1 ⟨rfl, B1⟩
  go_wp2_with fail
  rw [show (Value.slice (some ad) 12 C) = .slice (some ad) N C by rw [HT.out]]
  refine (HM.out _ B1).mono ?_
  rintro e w2 ⟨rfl, h9⟩
  have B2 := B1.trans (h9.mono B1.size)
  clear h9 B1
  go_wp2_with fail
  refine (HF.out _ B2).mono ?_
  rintro e w3 ⟨rfl, h9⟩
  have B3 := B2.trans (h9.mono B2.size)
  clear h9 B2
  go_wp2_with fail
  refine (HCt.out _).mono ?_
  rintro e w4 ⟨rfl, m9, rfl⟩
  have B4 := below_drewN B3 m9
  clear B3
  generalize hW4 : w3.drewN m9 = w4 at *
  clear hW4
  go_wp2_with fail
  go_loopw [53] (fun i wr => ∃ j : Nat, j ≤ N ∧ i = .int .i64 (j : Int) ∧ Below w.heap.size w wr) (fun i _ => N - (intOf i).toNat)
  case atStart => exact ⟨0, by omega, rfl, B4⟩
  case round =>
    clear B4
    obtain ⟨j, hj, rfl, Br⟩ := hrel
    by_cases hlt : j < N
    · have hR' := hR.out
      have j0 : (0 : Int) ≤ (j : Int) := by omega
      have j1 : (j : Int) ≤ (N : Int) := by omega
      have j2 : (j : Int) ≤ (C : Int) := by omega
      have j3 : (j : Int) + 1 ≤ (N : Int) := by omega
      have j4 : (0 : Int) ≤ (j : Int) + 1 := by omega
      have j5 : IntKind.i64.wrap ((j : Int) + 1) = (j : Int) + 1 := IntWalk.i64_in _ (by omega)
      have j6 : ((j : Int) + 1).toNat = j + 1 := by omega
      have j7 : (j : Int) + 1 ≤ (C : Int) := by omega
      have HQ := Lib.hid (And.intro hlt (HKf.out j hlt))
      have HMj := Lib.hid (HM2.out j hlt)
      obtain ⟨rest, hrest⟩ : ∃ r, (if C = j + 1 then some ad else some (ad.add ((j + 1) * 2))) = r := ⟨_, rfl⟩
      have HRest := Lib.hid (fun (u : World) (h : Below w.heap.size w u) => show Reads u w.heap.size 2 rest (N - (j + 1)) (mvs (L.drop (j + 1))) from by rw [← hrest]; exact reads_behind (C := C) (hR'.below h) hNC)
      have HTake := Lib.hid (fun (u : World) (h : Below w.heap.size w u) => show Reads u w.heap.size 2 (some ad) j (mvs (L.take j)) from reads_take (hR'.below h) (by omega))
      clear hR'
      go_upto_region 13 with fail
      have D1 := Br.drew
      clear Br
      refine wp_region_held_drew (S := fun _ => True) (by kernel_rfl) trivial (fun hS => ?_)
      generalize wr.drew = V at *
      have hsz := D1.size
      have HB1 := Lib.hid (D1.alloc hsz (.cells #[] 25))
      refine wpAnyH_take (i := 1) (v := .slice (some ad) N C) rfl (by kernel_rfl) (by kernel_rfl) (by kernel_rfl) (fun _ _ _ h => h) (Or.inl ⟨by kernel_rfl, fun u hSw => (by go_simp)⟩) hS ?_
      try simp only [Act.put]
      refine wpAnyH_take (i := 2) (v := .int .i64 (j : Int)) rfl (by kernel_rfl) (by kernel_rfl) (by kernel_rfl) (fun _ _ _ h => h) (Or.inl ⟨by kernel_rfl, fun u hSw => (by go_simp)⟩) hS ?_
      try simp only [Act.put]
      refine wpAnyH_take (i := 3) (v := .slice (some ad) j C) rfl (by kernel_rfl) (by kernel_rfl) (by kernel_rfl) (fun _ _ _ h => h) (Or.inl ⟨by kernel_rfl, fun u hSw => (by go_simp)⟩) hS ?_
      try simp only [Act.put]
      refine wpAnyH_take (i := 5) (v := .slice (some ad) N C) rfl (by kernel_rfl) (by kernel_rfl) (by kernel_rfl) (fun _ _ _ h => h) (Or.inl ⟨by kernel_rfl, fun u hSw => (by go_simp)⟩) hS ?_
      try simp only [Act.put]
      refine wpAnyH_take (i := 6) (v := .int .i64 (j : Int)) rfl (by kernel_rfl) (by kernel_rfl) (by kernel_rfl) (fun _ _ _ h => h) (Or.inl ⟨by kernel_rfl, fun u hSw => (by go_simp)⟩) hS ?_
      try simp only [Act.put]
      refine wpAnyH_take (i := 7) (v := .int .i64 ((j : Int) + 1)) rfl (by kernel_rfl) (by kernel_rfl) (by kernel_rfl) (fun _ _ _ h => h) (Or.inl ⟨by kernel_rfl, fun u hSw => (by go_simp)⟩) hS ?_
      try simp only [Act.put]
      refine wpAnyH_take (i := 8) (v := .slice rest (N - (j + 1)) (C - (j + 1))) rfl (by kernel_rfl) (by kernel_rfl) (by kernel_rfl) (fun _ _ _ h => h) (Or.inl ⟨by kernel_rfl, fun u hSw => (by go_simp)⟩) hS ?_
      try simp only [Act.put]
      refine wpAnyH_ready (rs := [0]) (by kernel_rfl) (by simp) ?_
      refine AllReadyH.cons rfl (fun K hK => ?_) AllReadyH.nil
      go_simp
      refine hK.out _ _ trivial (fun hS => ?_)
      clear hK K
      try simp only [Act.put]
      refine wpAnyH_ready (rs := [4]) (by kernel_rfl) (by simp) ?_
      refine AllReadyH.cons rfl (fun K hK => ?_) AllReadyH.nil
      refine step_append_any _ rfl (.tmp 56) (.tmp 59) 37 rfl w.heap.size 25 i0 (.agg #[.int .u32 0, .int .u32 0]) 2 8 Tryd.underlying37 hi0 hz0 hz1 hz2 rfl (by decide) (.slice (some ⟨V.heap.size, 0, none⟩) 0 0) 0 [] rfl (by simpa using World.ownsRow_made V #[] 0 hsz (by simp [maxLen]) (by simp)) w.heap.size (some ad) j C (mvs (L.take j)) rfl (HTake.out _ HB1.out) (mvs_ones _) (by simp only [maxLen]; omega) (by omega) (by simp; omega) ?_
      intro v5 w5 own5 grow5 _
      rw [List.nil_append, Nat.zero_add] at own5
      have B5 : Below w.heap.size w w5 := HB1.out.grown grow5 HB1.out.size (fun g hg => by simp [Value.ownBlock] at hg; omega)
      refine hK.out _ _ trivial (fun hS => ?_)
      clear hK K grow5
      try simp only [Act.put]
      refine wpAnyH_ready (rs := [9]) (by kernel_rfl) (by simp) ?_
      refine AllReadyH.cons rfl (fun K hK => ?_) AllReadyH.nil
      refine step_append_any _ rfl (.tmp 60) (.tmp 64) 37 rfl w.heap.size 25 i0 (.agg #[.int .u32 0, .int .u32 0]) 2 8 Tryd.underlying37 hi0 hz0 hz1 hz2 rfl (by decide) v5 j (mvs (L.take j)) rfl own5 w.heap.size rest (N - (j + 1)) (C - (j + 1)) (mvs (L.drop (j + 1))) rfl (HRest.out _ B5) (mvs_ones _) (by simp only [maxLen]; omega) (by omega) B5.size ?_
      intro v6 w6 own6 grow6 _
      have B6 : Below w.heap.size w w6 := B5.grown grow6 B5.size (fun g hg => (own5.lt g hg).1)
      rw [mvs_erase, show j + (N - (j + 1)) = N - 1 by omega] at own6
      obtain ⟨A6, c6, rfl, hc6, r6⟩ := own_reads own6
      have At6 : Hid (MAt w6 A6 (N - 1) c6 (L.eraseIdx j)) := Lib.hid ⟨r6, hc6, by omega, um_erase hU.out, HD.out.below B6 HD.out.lt⟩
      obtain ⟨N1, hN1⟩ : ∃ N1, N - 1 = N1 := ⟨_, rfl⟩
      rw [hN1] at At6 ⊢
      refine hK.out _ _ trivial (fun hS => ?_)
      clear hK K grow6 own6 own5 hc6 r6 B5
      try simp only [Act.put]
      refine wpAnyH_take (i := 10) (v := .slice A6 N1 c6) rfl (by kernel_rfl) (by kernel_rfl) (by kernel_rfl) (fun _ _ _ h => h) (Or.inl ⟨by kernel_rfl, fun u hSw => (by go_simp)⟩) hS ?_
      try simp only [Act.put]
      refine wpAnyH_done (by kernel_rfl) ?_ _
      try simp only [Act.put]
      clear hS j5 hrest
      go_simp
      go_wp2_with fail
      refine (HMj.out _ _ _ _ At6.out).mono ?_
      rintro e w7 ⟨rfl, h9⟩
      have B7 := Lib.hid (B6.trans (h9.mono B6.size))
      clear h9 B6 j0 j1 j2 j3 j4 j6 j7
      obtain ⟨kk, hkk⟩ : ∃ kk, K j = kk := ⟨_, rfl⟩
      rw [hkk] at HQ ⊢
      have q1 : (kk : Int) ≤ (n0 : Int) := by have := HQ.out.2.1; omega
      have q2 : (n0 : Int) - 1 ≤ (kk : Int) := by have := HQ.out.2.2.1; omega
      have q3 : IntKind.i64.wrap ((n0 : Int) - 1) = (n0 : Int) - 1 := IntWalk.i64_in _ (by omega)
      go_wp2
      go_roundw
      case rel => exact ⟨j + 1, by omega, by go_num, B7.out⟩
      case measure => simp [intOf] <;> omega
    · obtain rfl : N = j := by omega
      go_wp2_with fail
      refine (HM3.out _ Br).mono ?_
      rintro e w8 ⟨rfl, h9⟩
      have B8 := Lib.hid (Br.trans (h9.mono Br.size))
      clear h9 Br
      have q5 : IntKind.i64.wrap ((n0 : Int) + (pm : Int)) = (n0 : Int) + (pm : Int) := IntWalk.i64_in _ (by omega)
      go_wp2_with fail
      refine (HCm.out _).mono ?_
      rintro e w9 ⟨rfl, m9, rfl⟩
      have B9 := Lib.hid (below_drewN B8.out m9)
      go_wp2
      go_ret
      exact ⟨rfl, B9.out⟩

end Go.Proofs.YtcdlhfhachpcdaaDoor
