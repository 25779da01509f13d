/-
  The landed domain: a row's number, and the place of a number (with the library's Compare and Find). No statement is proved here.
-/
import Derived.Test.YtknimnopopnbhaaEm
import Derived.Test.YtknimnopopnbhaaDe
import Derived.Deep.RegionLaw
namespace Go.Proofs.Ytknimnopopnbhaa
open Go.RowKit

def cmpZ (a b : Int) : Int := if a < b then -1 else if b < a then 1 else 0

set_option maxRecDepth 100000 in
set_option maxHeartbeats 400000 in
theorem isnan_any (a : Int) (w : World) : Calls Try.prog 91 #[.int .i64 a] w fun e w' => e = .returned (.bool false) ∧ w = w' := by
  have e0 : (a == a) = true := by simp
  go_enter Try.func91, Try.ntmps91
  go_wp2
  go_ret
  exact ⟨rfl, rfl⟩

set_option maxRecDepth 100000 in
set_option maxHeartbeats 1000000 in
theorem compare_any (a b : Int) (w : World) : Calls Try.prog 86 #[.int .i64 a, .int .i64 b] w fun e w' => e = .returned (.int .i64 (cmpZ a b)) ∧ w = w' := by
  have HN := Lib.hid (fun (x : Int) (u : World) => isnan_any x u)
  by_cases h1 : a < b
  · have HV : Hid (cmpZ a b = -1) := Lib.hid (if_pos h1)
    have e1 : decide (a < b) = true := decide_eq_true h1
    go_enter Try.func86, Try.ntmps86
    go_wp2_with fail
    refine (HN.out _ _).mono ?_
    rintro e w' ⟨rfl, rfl⟩
    go_wp2_with fail
    refine (HN.out _ _).mono ?_
    rintro e w' ⟨rfl, rfl⟩
    go_wp2
    go_ret
    exact ⟨retI HV.out.symm, rfl⟩
  · have e1 : decide (a < b) = false := decide_eq_false h1
    by_cases h2 : b < a
    · have HV : Hid (cmpZ a b = 1) := Lib.hid (by unfold cmpZ; rw [if_neg h1, if_pos h2])
      have e2 : decide (b < a) = true := decide_eq_true h2
      go_enter Try.func86, Try.ntmps86
      go_wp2_with fail
      refine (HN.out _ _).mono ?_
      rintro e w' ⟨rfl, rfl⟩
      go_wp2_with fail
      refine (HN.out _ _).mono ?_
      rintro e w' ⟨rfl, rfl⟩
      go_wp2
      go_ret
      exact ⟨retI HV.out.symm, rfl⟩
    · have HV : Hid (cmpZ a b = 0) := Lib.hid (by unfold cmpZ; rw [if_neg h1, if_neg h2])
      have e2 : decide (b < a) = false := decide_eq_false h2
      go_enter Try.func86, Try.ntmps86
      go_wp2_with fail
      refine (HN.out _ _).mono ?_
      rintro e w' ⟨rfl, rfl⟩
      go_wp2_with fail
      refine (HN.out _ _).mono ?_
      rintro e w' ⟨rfl, rfl⟩
      go_wp2
      go_ret
      exact ⟨retI HV.out.symm, rfl⟩

set_option maxRecDepth 100000 in
set_option maxHeartbeats 400000 in
theorem dnumber_any (ad : Addr) (n c k : Nat) (x : Int) (w : World) (hk : k < n) (hc : w.cell? (ad.add (k * 4)) = some (.int .i64 x)) :
    Calls Try.prog 65 #[.slice (some ad) n c, .int .i64 (k : Int)] w fun e w' => e = .returned (.int .i64 x) ∧ w = w' := by
  have j0 : (0 : Int) ≤ (k : Int) := by omega
  have j1 : (k : Int) < (n : Int) := by omega
  clear hk
  go_enter Try.func65, Try.ntmps65
  go_wp2
  go_ret
  exact ⟨rfl, rfl⟩

set_option maxRecDepth 100000 in
set_option maxHeartbeats 1000000 in
theorem dclos_any (b5 b4 b3 : Nat) (ad : Addr) (n c k : Nat) (id x : Int) (w : World) (h5 : w.cell? ⟨b5, 0, none⟩ = some (.int .i64 id)) (h4 : w.cell? ⟨b4, 0, none⟩ = some (.func (.func 65) #[] #[])) (h3 : w.cell? ⟨b3, 0, none⟩ = some (.slice (some ad) n c))
    (l5 : b5 < w.heap.size) (l4 : b4 < w.heap.size) (l3 : b3 < w.heap.size) (la : ad.block < w.heap.size) (hk : k < n) (hc : w.cell? (ad.add (k * 4)) = some (.int .i64 x)) :
    Calls Try.prog 85 #[.int .i64 (k : Int), .pointer (some ⟨b5, 0, none⟩), .pointer (some ⟨b4, 0, none⟩), .pointer (some ⟨b3, 0, none⟩)] w (Said (.int .i64 (cmpZ id x)) w) := by
  have HKs := Lib.hid (fun (u : World) (h : Below w.heap.size w u) => And.intro ((h.cell (p := ⟨b5, 0, none⟩) l5).trans h5) (And.intro ((h.cell (p := ⟨b4, 0, none⟩) l4).trans h4) (And.intro ((h.cell (p := ⟨b3, 0, none⟩) l3).trans h3) ((h.cell (p := ad.add (k * 4)) (by rw [block_of_add]; exact la)).trans hc))))
  have HN := Lib.hid (fun (u : World) (h : Below w.heap.size w u) => dnumber_any ad n c k x u hk (HKs.out u h).2.2.2)
  have HC := Lib.hid (fun u => compare_any id x u)
  have B0 := (Below.refl w.heap.size w).drew
  clear h5 h4 h3 l5 l4 l3 la hk hc
  go_enter Try.func85, Try.ntmps85
  go_upto_region 1 with fail
  refine wp_region_held_drew (S := fun u => Below w.heap.size w u) (by kernel_rfl) B0 (fun hS => ?_)
  generalize w.drew = V at B0 hS ⊢
  refine wpAnyH_take (i := 0) (v := .int .i64 id) rfl (by kernel_rfl) (by kernel_rfl) (by kernel_rfl) (fun _ _ _ h => h) (Or.inl ⟨by kernel_rfl, fun u hSw => (by have q := (HKs.out u hSw).1; go_simp)⟩) hS ?_
  change wpAnyH _ _ _ _ _ _ _ (Act.put _ (some 6) _) _
  simp only [Act.put]
  refine wpAnyH_take (i := 1) (v := .func (.func 65) #[] #[]) rfl (by kernel_rfl) (by kernel_rfl) (by kernel_rfl) (fun _ _ _ h => h) (Or.inl ⟨by kernel_rfl, fun u hSw => (by have q := (HKs.out u hSw).2.1; go_simp)⟩) hS ?_
  change wpAnyH _ _ _ _ _ _ _ (Act.put _ (some 7) _) _
  simp only [Act.put]
  refine wpAnyH_take (i := 2) (v := .slice (some ad) n c) rfl (by kernel_rfl) (by kernel_rfl) (by kernel_rfl) (fun _ _ _ h => h) (Or.inl ⟨by kernel_rfl, fun u hSw => (by have q := (HKs.out u hSw).2.2.1; go_simp)⟩) hS ?_
  change wpAnyH _ _ _ _ _ _ _ (Act.put _ (some 8) _) _
  simp only [Act.put]
  refine wpAnyH_take (i := 3) (v := .int .i64 (k : Int)) rfl (by kernel_rfl) (by kernel_rfl) (by kernel_rfl) (fun _ _ _ h => h) (Or.inl ⟨by kernel_rfl, fun u hSw => (by go_simp)⟩) hS ?_
  change wpAnyH _ _ _ _ _ _ _ (Act.put _ (some 9) _) _
  simp only [Act.put]
  refine wpAnyH_ready (rs := [4]) (by kernel_rfl) (by simp) ?_
  refine AllReadyH.cons rfl (fun K hK => ?_) AllReadyH.nil
  go_simp
  refine (HN.out _ B0).mono ?_
  rintro e w1 ⟨rfl, rfl⟩
  refine hK.out _ _ B0 (fun hS => ?_)
  clear hK K
  refine wpAnyH_ready (rs := [5]) (by kernel_rfl) (by simp) ?_
  refine AllReadyH.cons rfl (fun K hK => ?_) AllReadyH.nil
  go_simp
  refine (HC.out _).mono ?_
  rintro e w1 ⟨rfl, rfl⟩
  refine hK.out _ _ B0 (fun hS => ?_)
  clear hK K
  refine wpAnyH_take (i := 6) (v := .int .i64 (cmpZ id x)) rfl (by kernel_rfl) (by kernel_rfl) (by kernel_rfl) (fun _ _ _ h => h) (Or.inl ⟨by kernel_rfl, fun u hSw => (by go_simp)⟩) hS ?_
  change wpAnyH _ _ _ _ _ _ _ (Act.put _ (some 5) _) _
  simp only [Act.put]
  refine wpAnyH_done (by kernel_rfl) ?_ _
  clear hS
  have HE := Lib.hid B0
  clear B0
  go_wp2
  go_ret
  exact ⟨rfl, HE.out⟩

set_option maxRecDepth 100000 in
set_option maxHeartbeats 4000000 in
theorem dsort_any (n : Nat) (l : List Dom) (b5 b4 b3 : Nat) (id : Int) (w : World) (hR : Rise l) (hl : l.length = n) (hn : n ≤ 1000)
    (hc : ∀ (u : World) (k : Nat) (x : Dom), Below w.heap.size w u → l[k]? = some x → Calls Try.prog 85 #[.int .i64 (k : Int), .pointer (some ⟨b5, 0, none⟩), .pointer (some ⟨b4, 0, none⟩), .pointer (some ⟨b3, 0, none⟩)] u (Said (.int .i64 (cmpZ id x.1)) u)) :
    Calls Try.prog 84 #[.int .i64 (n : Int), .func (.func 85) #[] #[.pointer (some ⟨b5, 0, none⟩), .pointer (some ⟨b4, 0, none⟩), .pointer (some ⟨b3, 0, none⟩)]] w (Said (.tuple #[.int .i64 ((low l id : Nat) : Int), .bool (kf l id).isSome]) w) := by
  have HC := Lib.hid hc
  have HRi := Lib.hid hR
  have HL := Lib.hid hl
  clear hc hR hl
  go_enter Try.func84, Try.ntmps84
  go_wp2_with fail
  go_loopw [4, 6] (fun iv jv wr => ∃ i j : Nat, i ≤ j ∧ j ≤ n ∧ iv = .int .i64 (i : Int) ∧ jv = .int .i64 (j : Int) ∧ Hid (∀ (k : Nat) (x : Dom), k < i → l[k]? = some x → x.1 < id) ∧ Hid (∀ (k : Nat) (x : Dom), j ≤ k → l[k]? = some x → id ≤ x.1) ∧ Below w.heap.size w wr) (fun iv jv _ => (intOf jv).toNat - (intOf iv).toNat)
  case atStart => exact ⟨0, n, by omega, by omega, rfl, rfl, Lib.hid (fun k x h _ => by omega), Lib.hid (fun k x h hx => by have := (List.getElem?_eq_some_iff.1 hx).1; have := HL.out; omega), Below.refl _ _⟩
  case round =>
    obtain ⟨i, j, hij, hjn, rfl, rfl, Hlo, Hhi, hB⟩ := hrel
    by_cases hlt : i < j
    · obtain ⟨h, hh⟩ : ∃ h, h = (i + j) / 2 := ⟨_, rfl⟩
      have h1 : i ≤ h ∧ h < j := by omega
      obtain ⟨x, hx⟩ := elem_at (l := l) (k := h) (by rw [HL.out]; omega)
      have HX := Lib.hid hx
      have l1 : decide ((i : Int) < (j : Int)) = true := decide_eq_true (by omega)
      have s1 : ((i : Int) + (j : Int)) / 2 = (h : Int) := by omega
      have HCx := Lib.hid (fun (u : World) (hu : Below w.heap.size w u) => HC.out u h x hu hx)
      clear hx hlt hh
      by_cases hz : x.1 < id
      · rw [show cmpZ id x.1 = 1 by unfold cmpZ; rw [if_neg (by omega), if_pos hz]] at HCx
        have HN : Hid (∀ (k : Nat) (y : Dom), k < h + 1 → l[k]? = some y → y.1 < id) := Lib.hid (fun k y hk hy => (low_lt HRi.out hy).2 (by have := (low_lt HRi.out HX.out).1 hz; omega))
        clear hz
        go_wp2_with fail
        refine (HCx.out _ hB).mono ?_
        rintro e w1 ⟨rfl, h9⟩
        have B1 := hB.trans (h9.mono hB.size)
        clear h9 hB
        go_wp2
        go_roundw
        case rel => exact ⟨h + 1, j, by omega, by omega, by go_num, rfl, HN, Hhi, B1⟩
        case measure => simp [intOf] <;> omega
      · obtain ⟨q, hq, hq0⟩ : ∃ q, cmpZ id x.1 = q ∧ decide ((0 : Int) < q) = false := ⟨_, rfl, by unfold cmpZ; rw [if_neg hz]; split <;> rfl⟩
        rw [hq] at HCx
        have HN : Hid (∀ (k : Nat) (y : Dom), h ≤ k → l[k]? = some y → id ≤ y.1) := Lib.hid (fun k y hk hy => by
          have h2 : ¬ h < low l id := fun q => hz ((low_lt HRi.out HX.out).2 q)
          have h3 : ¬ y.1 < id := fun q => h2 (by have := (low_lt HRi.out hy).1 q; omega)
          omega)
        clear hz hq
        go_wp2_with fail
        refine (HCx.out _ hB).mono ?_
        rintro e w1 ⟨rfl, h9⟩
        have B1 := hB.trans (h9.mono hB.size)
        clear h9 hB
        go_wp2
        go_roundw
        case rel => exact ⟨i, h, by omega, by omega, rfl, by go_num, Hlo, HN, B1⟩
        case measure => simp [intOf] <;> omega
    · obtain rfl : i = j := by omega
      have HV : Hid (low l id = i) := Lib.hid (low_unique HRi.out (by rw [HL.out]; omega) Hlo.out Hhi.out)
      have l1 : decide ((i : Int) < (i : Int)) = false := decide_eq_false (by omega)
      by_cases hin : i < n
      · obtain ⟨x, hx⟩ := elem_at (l := l) (k := i) (by rw [HL.out]; omega)
        have HCx := Lib.hid (HC.out wr i x hB hx)
        have l2 : decide ((i : Int) < (n : Int)) = true := decide_eq_true (by omega)
        obtain ⟨q, hq⟩ : ∃ q, cmpZ id x.1 = q := ⟨_, rfl⟩
        rw [hq] at HCx
        have hge := Hhi.out i x (Nat.le_refl _) hx
        by_cases he : x.1 = id
        · have HF : Hid ((kf l id).isSome = true) := Lib.hid (by rw [low_eq HRi.out (by rw [HV.out]; exact hx) he]; rfl)
          have q0 : (q == 0) = true := by rw [← hq]; unfold cmpZ; rw [if_neg (by omega), if_neg (by omega)]; rfl
          clear hx hq hge he
          go_wp2_with fail
          refine HCx.out.mono ?_
          rintro e w1 ⟨rfl, h9⟩
          have B1 := hB.trans (h9.mono hB.size)
          go_wp2
          go_ret2
          exact ⟨by rw [HV.out, HF.out]; rfl, B1⟩
        · have HF : Hid ((kf l id).isSome = false) := Lib.hid (by rw [low_none HRi.out (fun y hy => by rw [HV.out, hx] at hy; injection hy with hy; subst hy; exact he)]; rfl)
          have q0 : (q == 0) = false := by rw [← hq]; unfold cmpZ; rw [if_pos (by omega)]; rfl
          clear hx hq hge he
          go_wp2_with fail
          refine HCx.out.mono ?_
          rintro e w1 ⟨rfl, h9⟩
          have B1 := hB.trans (h9.mono hB.size)
          go_wp2
          go_ret2
          exact ⟨by rw [HV.out, HF.out]; rfl, B1⟩
      · have HF : Hid ((kf l id).isSome = false) := Lib.hid (by rw [low_none HRi.out (fun y hy => by rw [HV.out] at hy; have := (List.getElem?_eq_some_iff.1 hy).1; have := HL.out; omega)]; rfl)
        have l2 : decide ((i : Int) < (n : Int)) = false := decide_eq_false (by omega)
        go_wp2
        go_ret2
        exact ⟨by rw [HV.out, HF.out]; rfl, hB⟩

set_option maxRecDepth 100000 in
set_option maxHeartbeats 4000000 in
theorem dfind_any (A : Option Addr) (n c : Nat) (l : List Dom) (id : Int) (w : World) (hG : Reads w w.heap.size 4 A n (flat dv l)) (hR : Rise l) (hn : n ≤ 1000) :
    Calls Try.prog 75 #[.slice A n c, .func (.func 65) #[] #[], .int .i64 id] w (Said (.tuple #[.int .i64 ((low l id : Nat) : Int), .bool (kf l id).isSome]) w) := by
  obtain ⟨J1, J2, J3, J0⟩ := blks3 w 89 90 3 #[.slice A n c] #[.func (.func 65) #[] #[]] #[.int .i64 id]
  have hl := doms_len hG
  have HJ := Lib.hid (And.intro J1 (And.intro J2 (And.intro J3 J0)))
  clear J1 J2 J3 J0
  have HS := Lib.hid (fun (W : World) (hsz : W.heap.size = w.heap.size + 1 + 1 + 1) (K1 : Blk W w.heap.size 89 #[.slice A n c]) (K2 : Blk W (w.heap.size + 1) 90 #[.func (.func 65) #[] #[]]) (K3 : Blk W (w.heap.size + 1 + 1) 3 #[.int .i64 id]) (B0 : Below w.heap.size w W) =>
    dsort_any n l (w.heap.size + 1 + 1) (w.heap.size + 1) w.heap.size id W hR hl hn (fun u k x hu hx => by
      have hk := (List.getElem?_eq_some_iff.1 hx).1
      have Bu := B0.trans (hu.mono (show w.heap.size ≤ W.heap.size by omega))
      obtain ⟨x1, x2, x3, x4⟩ := x
      obtain ⟨ad, rfl, hb, c0, _⟩ := dom_at (hG.below Bu) hx
      have hs2 := hu.size
      have q3 := K3.below hu (show w.heap.size + 1 + 1 < W.heap.size by omega)
      have q2 := K2.below hu (show w.heap.size + 1 < W.heap.size by omega)
      have q1 := K1.below hu (show w.heap.size < W.heap.size by omega)
      exact dclos_any (w.heap.size + 1 + 1) (w.heap.size + 1) w.heap.size ad n c k id x1 u (q3.cell 0) (q2.cell 0) (q1.cell 0) (by omega) (by omega) (by omega) (by omega) (by omega) c0))
  have HK := Lib.hid HJ.out
  have k1 := HJ.out.1.cell 0
  have hsz : (((w.alloc (.cells #[.slice A n c] 89)).alloc (.cells #[.func (.func 65) #[] #[]] 90)).alloc (.cells #[.int .i64 id] 3)).heap.size = w.heap.size + 1 + 1 + 1 := by simp
  have HZ := Lib.hid hsz
  clear HJ hG hR hn hl hsz
  go_enter Try.func75, Try.ntmps75
  go_wp2_with fail
  refine (HS.out _ HZ.out HK.out.1 HK.out.2.1 HK.out.2.2.1 HK.out.2.2.2).mono ?_
  rintro e w1 ⟨rfl, h9⟩
  have B1 := HK.out.2.2.2.trans (h9.mono HK.out.2.2.2.size)
  clear h9 k1
  go_wp2
  go_ret2
  exact ⟨rfl, B1⟩

set_option maxRecDepth 100000 in
set_option maxHeartbeats 2000000 in
theorem dat_any (A : Option Addr) (n c : Nat) (ds : List Dom) (B : Option Addr) (m d : Nat) (us : List Vc) (id : Int) (w : World) (hG : GR w A n c ds B m d us) (hR : Rise ds) :
    Calls Try.prog 43 #[.agg #[.slice A n c, .slice B m d], .int .i64 id] w (Said (.tuple #[.int .i64 ((low ds id : Nat) : Int), .bool (kf ds id).isSome]) w) := by
  have HK := Lib.hid (box1 w 25 #[.slice A n c, .slice B m d])
  have HF := Lib.hid (fun (u : World) (h : Below w.heap.size w u) => dfind_any A n c ds id u (hG.below h).doms hR hG.n9)
  have k1 := HK.out.1.cell 0
  have k2 := HK.out.1.cell 1
  clear hG hR
  go_enter Try.func43, Try.ntmps43
  go_wp2_with fail
  refine (HF.out _ HK.out.2).mono ?_
  rintro e w1 ⟨rfl, h9⟩
  have B1 := HK.out.2.trans (h9.mono HK.out.2.size)
  clear h9 k1 k2
  go_wp2
  go_ret2
  exact ⟨rfl, B1⟩

set_option maxRecDepth 100000 in
set_option maxHeartbeats 400000 in
theorem vnumber_any (ad : Addr) (n c k : Nat) (x : Int) (w : World) (hk : k < n) (hc : w.cell? (ad.add (k * 4)) = some (.int .i64 x)) :
    Calls Try.prog 67 #[.slice (some ad) n c, .int .i64 (k : Int)] w fun e w' => e = .returned (.int .i64 x) ∧ w = w' := by
  have j0 : (0 : Int) ≤ (k : Int) := by omega
  have j1 : (k : Int) < (n : Int) := by omega
  clear hk
  go_enter Try.func67, Try.ntmps67
  go_wp2
  go_ret
  exact ⟨rfl, rfl⟩

set_option maxRecDepth 100000 in
set_option maxHeartbeats 1000000 in
theorem vclos_any (b5 b4 b3 : Nat) (ad : Addr) (n c k : Nat) (id x : Int) (w : World) (h5 : w.cell? ⟨b5, 0, none⟩ = some (.int .i64 id)) (h4 : w.cell? ⟨b4, 0, none⟩ = some (.func (.func 67) #[] #[])) (h3 : w.cell? ⟨b3, 0, none⟩ = some (.slice (some ad) n c))
    (l5 : b5 < w.heap.size) (l4 : b4 < w.heap.size) (l3 : b3 < w.heap.size) (la : ad.block < w.heap.size) (hk : k < n) (hc : w.cell? (ad.add (k * 4)) = some (.int .i64 x)) :
    Calls Try.prog 89 #[.int .i64 (k : Int), .pointer (some ⟨b5, 0, none⟩), .pointer (some ⟨b4, 0, none⟩), .pointer (some ⟨b3, 0, none⟩)] w (Said (.int .i64 (cmpZ id x)) w) := by
  have HKs := Lib.hid (fun (u : World) (h : Below w.heap.size w u) => And.intro ((h.cell (p := ⟨b5, 0, none⟩) l5).trans h5) (And.intro ((h.cell (p := ⟨b4, 0, none⟩) l4).trans h4) (And.intro ((h.cell (p := ⟨b3, 0, none⟩) l3).trans h3) ((h.cell (p := ad.add (k * 4)) (by rw [block_of_add]; exact la)).trans hc))))
  have HN := Lib.hid (fun (u : World) (h : Below w.heap.size w u) => vnumber_any ad n c k x u hk (HKs.out u h).2.2.2)
  have HC := Lib.hid (fun u => compare_any id x u)
  have B0 := (Below.refl w.heap.size w).drew
  clear h5 h4 h3 l5 l4 l3 la hk hc
  go_enter Try.func89, Try.ntmps89
  go_upto_region 1 with fail
  refine wp_region_held_drew (S := fun u => Below w.heap.size w u) (by kernel_rfl) B0 (fun hS => ?_)
  generalize w.drew = V at B0 hS ⊢
  refine wpAnyH_take (i := 0) (v := .int .i64 id) rfl (by kernel_rfl) (by kernel_rfl) (by kernel_rfl) (fun _ _ _ h => h) (Or.inl ⟨by kernel_rfl, fun u hSw => (by have q := (HKs.out u hSw).1; go_simp)⟩) hS ?_
  change wpAnyH _ _ _ _ _ _ _ (Act.put _ (some 6) _) _
  simp only [Act.put]
  refine wpAnyH_take (i := 1) (v := .func (.func 67) #[] #[]) rfl (by kernel_rfl) (by kernel_rfl) (by kernel_rfl) (fun _ _ _ h => h) (Or.inl ⟨by kernel_rfl, fun u hSw => (by have q := (HKs.out u hSw).2.1; go_simp)⟩) hS ?_
  change wpAnyH _ _ _ _ _ _ _ (Act.put _ (some 7) _) _
  simp only [Act.put]
  refine wpAnyH_take (i := 2) (v := .slice (some ad) n c) rfl (by kernel_rfl) (by kernel_rfl) (by kernel_rfl) (fun _ _ _ h => h) (Or.inl ⟨by kernel_rfl, fun u hSw => (by have q := (HKs.out u hSw).2.2.1; go_simp)⟩) hS ?_
  change wpAnyH _ _ _ _ _ _ _ (Act.put _ (some 8) _) _
  simp only [Act.put]
  refine wpAnyH_take (i := 3) (v := .int .i64 (k : Int)) rfl (by kernel_rfl) (by kernel_rfl) (by kernel_rfl) (fun _ _ _ h => h) (Or.inl ⟨by kernel_rfl, fun u hSw => (by go_simp)⟩) hS ?_
  change wpAnyH _ _ _ _ _ _ _ (Act.put _ (some 9) _) _
  simp only [Act.put]
  refine wpAnyH_ready (rs := [4]) (by kernel_rfl) (by simp) ?_
  refine AllReadyH.cons rfl (fun K hK => ?_) AllReadyH.nil
  go_simp
  refine (HN.out _ B0).mono ?_
  rintro e w1 ⟨rfl, rfl⟩
  refine hK.out _ _ B0 (fun hS => ?_)
  clear hK K
  refine wpAnyH_ready (rs := [5]) (by kernel_rfl) (by simp) ?_
  refine AllReadyH.cons rfl (fun K hK => ?_) AllReadyH.nil
  go_simp
  refine (HC.out _).mono ?_
  rintro e w1 ⟨rfl, rfl⟩
  refine hK.out _ _ B0 (fun hS => ?_)
  clear hK K
  refine wpAnyH_take (i := 6) (v := .int .i64 (cmpZ id x)) rfl (by kernel_rfl) (by kernel_rfl) (by kernel_rfl) (fun _ _ _ h => h) (Or.inl ⟨by kernel_rfl, fun u hSw => (by go_simp)⟩) hS ?_
  change wpAnyH _ _ _ _ _ _ _ (Act.put _ (some 5) _) _
  simp only [Act.put]
  refine wpAnyH_done (by kernel_rfl) ?_ _
  clear hS
  have HE := Lib.hid B0
  clear B0
  go_wp2
  go_ret
  exact ⟨rfl, HE.out⟩

set_option maxRecDepth 100000 in
set_option maxHeartbeats 4000000 in
theorem vsort_any (n : Nat) (l : List Vc) (b5 b4 b3 : Nat) (id : Int) (w : World) (hR : Rise l) (hl : l.length = n) (hn : n ≤ 1000)
    (hc : ∀ (u : World) (k : Nat) (x : Vc), Below w.heap.size w u → l[k]? = some x → Calls Try.prog 89 #[.int .i64 (k : Int), .pointer (some ⟨b5, 0, none⟩), .pointer (some ⟨b4, 0, none⟩), .pointer (some ⟨b3, 0, none⟩)] u (Said (.int .i64 (cmpZ id x.1)) u)) :
    Calls Try.prog 84 #[.int .i64 (n : Int), .func (.func 89) #[] #[.pointer (some ⟨b5, 0, none⟩), .pointer (some ⟨b4, 0, none⟩), .pointer (some ⟨b3, 0, none⟩)]] w (Said (.tuple #[.int .i64 ((low l id : Nat) : Int), .bool (kf l id).isSome]) w) := by
  have HC := Lib.hid hc
  have HRi := Lib.hid hR
  have HL := Lib.hid hl
  clear hc hR hl
  go_enter Try.func84, Try.ntmps84
  go_wp2_with fail
  go_loopw [4, 6] (fun iv jv wr => ∃ i j : Nat, i ≤ j ∧ j ≤ n ∧ iv = .int .i64 (i : Int) ∧ jv = .int .i64 (j : Int) ∧ Hid (∀ (k : Nat) (x : Vc), k < i → l[k]? = some x → x.1 < id) ∧ Hid (∀ (k : Nat) (x : Vc), j ≤ k → l[k]? = some x → id ≤ x.1) ∧ Below w.heap.size w wr) (fun iv jv _ => (intOf jv).toNat - (intOf iv).toNat)
  case atStart => exact ⟨0, n, by omega, by omega, rfl, rfl, Lib.hid (fun k x h _ => by omega), Lib.hid (fun k x h hx => by have := (List.getElem?_eq_some_iff.1 hx).1; have := HL.out; omega), Below.refl _ _⟩
  case round =>
    obtain ⟨i, j, hij, hjn, rfl, rfl, Hlo, Hhi, hB⟩ := hrel
    by_cases hlt : i < j
    · obtain ⟨h, hh⟩ : ∃ h, h = (i + j) / 2 := ⟨_, rfl⟩
      have h1 : i ≤ h ∧ h < j := by omega
      obtain ⟨x, hx⟩ := elem_at (l := l) (k := h) (by rw [HL.out]; omega)
      have HX := Lib.hid hx
      have l1 : decide ((i : Int) < (j : Int)) = true := decide_eq_true (by omega)
      have s1 : ((i : Int) + (j : Int)) / 2 = (h : Int) := by omega
      have HCx := Lib.hid (fun (u : World) (hu : Below w.heap.size w u) => HC.out u h x hu hx)
      clear hx hlt hh
      by_cases hz : x.1 < id
      · rw [show cmpZ id x.1 = 1 by unfold cmpZ; rw [if_neg (by omega), if_pos hz]] at HCx
        have HN : Hid (∀ (k : Nat) (y : Vc), k < h + 1 → l[k]? = some y → y.1 < id) := Lib.hid (fun k y hk hy => (low_lt HRi.out hy).2 (by have := (low_lt HRi.out HX.out).1 hz; omega))
        clear hz
        go_wp2_with fail
        refine (HCx.out _ hB).mono ?_
        rintro e w1 ⟨rfl, h9⟩
        have B1 := hB.trans (h9.mono hB.size)
        clear h9 hB
        go_wp2
        go_roundw
        case rel => exact ⟨h + 1, j, by omega, by omega, by go_num, rfl, HN, Hhi, B1⟩
        case measure => simp [intOf] <;> omega
      · obtain ⟨q, hq, hq0⟩ : ∃ q, cmpZ id x.1 = q ∧ decide ((0 : Int) < q) = false := ⟨_, rfl, by unfold cmpZ; rw [if_neg hz]; split <;> rfl⟩
        rw [hq] at HCx
        have HN : Hid (∀ (k : Nat) (y : Vc), h ≤ k → l[k]? = some y → id ≤ y.1) := Lib.hid (fun k y hk hy => by
          have h2 : ¬ h < low l id := fun q => hz ((low_lt HRi.out HX.out).2 q)
          have h3 : ¬ y.1 < id := fun q => h2 (by have := (low_lt HRi.out hy).1 q; omega)
          omega)
        clear hz hq
        go_wp2_with fail
        refine (HCx.out _ hB).mono ?_
        rintro e w1 ⟨rfl, h9⟩
        have B1 := hB.trans (h9.mono hB.size)
        clear h9 hB
        go_wp2
        go_roundw
        case rel => exact ⟨i, h, by omega, by omega, rfl, by go_num, Hlo, HN, B1⟩
        case measure => simp [intOf] <;> omega
    · obtain rfl : i = j := by omega
      have HV : Hid (low l id = i) := Lib.hid (low_unique HRi.out (by rw [HL.out]; omega) Hlo.out Hhi.out)
      have l1 : decide ((i : Int) < (i : Int)) = false := decide_eq_false (by omega)
      by_cases hin : i < n
      · obtain ⟨x, hx⟩ := elem_at (l := l) (k := i) (by rw [HL.out]; omega)
        have HCx := Lib.hid (HC.out wr i x hB hx)
        have l2 : decide ((i : Int) < (n : Int)) = true := decide_eq_true (by omega)
        obtain ⟨q, hq⟩ : ∃ q, cmpZ id x.1 = q := ⟨_, rfl⟩
        rw [hq] at HCx
        have hge := Hhi.out i x (Nat.le_refl _) hx
        by_cases he : x.1 = id
        · have HF : Hid ((kf l id).isSome = true) := Lib.hid (by rw [low_eq HRi.out (by rw [HV.out]; exact hx) he]; rfl)
          have q0 : (q == 0) = true := by rw [← hq]; unfold cmpZ; rw [if_neg (by omega), if_neg (by omega)]; rfl
          clear hx hq hge he
          go_wp2_with fail
          refine HCx.out.mono ?_
          rintro e w1 ⟨rfl, h9⟩
          have B1 := hB.trans (h9.mono hB.size)
          go_wp2
          go_ret2
          exact ⟨by rw [HV.out, HF.out]; rfl, B1⟩
        · have HF : Hid ((kf l id).isSome = false) := Lib.hid (by rw [low_none HRi.out (fun y hy => by rw [HV.out, hx] at hy; injection hy with hy; subst hy; exact he)]; rfl)
          have q0 : (q == 0) = false := by rw [← hq]; unfold cmpZ; rw [if_pos (by omega)]; rfl
          clear hx hq hge he
          go_wp2_with fail
          refine HCx.out.mono ?_
          rintro e w1 ⟨rfl, h9⟩
          have B1 := hB.trans (h9.mono hB.size)
          go_wp2
          go_ret2
          exact ⟨by rw [HV.out, HF.out]; rfl, B1⟩
      · have HF : Hid ((kf l id).isSome = false) := Lib.hid (by rw [low_none HRi.out (fun y hy => by rw [HV.out] at hy; have := (List.getElem?_eq_some_iff.1 hy).1; have := HL.out; omega)]; rfl)
        have l2 : decide ((i : Int) < (n : Int)) = false := decide_eq_false (by omega)
        go_wp2
        go_ret2
        exact ⟨by rw [HV.out, HF.out]; rfl, hB⟩

set_option maxRecDepth 100000 in
set_option maxHeartbeats 4000000 in
theorem vfind_any (A : Option Addr) (n c : Nat) (l : List Vc) (id : Int) (w : World) (hG : Reads w w.heap.size 4 A n (flat cv l)) (hR : Rise l) (hn : n ≤ 1000) :
    Calls Try.prog 82 #[.slice A n c, .func (.func 67) #[] #[], .int .i64 id] w (Said (.tuple #[.int .i64 ((low l id : Nat) : Int), .bool (kf l id).isSome]) w) := by
  obtain ⟨J1, J2, J3, J0⟩ := blks3 w 93 94 3 #[.slice A n c] #[.func (.func 67) #[] #[]] #[.int .i64 id]
  have hl := vcs_len hG
  have HJ := Lib.hid (And.intro J1 (And.intro J2 (And.intro J3 J0)))
  clear J1 J2 J3 J0
  have HS := Lib.hid (fun (W : World) (hsz : W.heap.size = w.heap.size + 1 + 1 + 1) (K1 : Blk W w.heap.size 93 #[.slice A n c]) (K2 : Blk W (w.heap.size + 1) 94 #[.func (.func 67) #[] #[]]) (K3 : Blk W (w.heap.size + 1 + 1) 3 #[.int .i64 id]) (B0 : Below w.heap.size w W) =>
    vsort_any n l (w.heap.size + 1 + 1) (w.heap.size + 1) w.heap.size id W hR hl hn (fun u k x hu hx => by
      have hk := (List.getElem?_eq_some_iff.1 hx).1
      have Bu := B0.trans (hu.mono (show w.heap.size ≤ W.heap.size by omega))
      obtain ⟨x1, x2, x3, x4⟩ := x
      obtain ⟨ad, rfl, hb, c0, _⟩ := vc_at (hG.below Bu) hx
      have hs2 := hu.size
      have q3 := K3.below hu (show w.heap.size + 1 + 1 < W.heap.size by omega)
      have q2 := K2.below hu (show w.heap.size + 1 < W.heap.size by omega)
      have q1 := K1.below hu (show w.heap.size < W.heap.size by omega)
      exact vclos_any (w.heap.size + 1 + 1) (w.heap.size + 1) w.heap.size ad n c k id x1 u (q3.cell 0) (q2.cell 0) (q1.cell 0) (by omega) (by omega) (by omega) (by omega) (by omega) c0))
  have HK := Lib.hid HJ.out
  have k1 := HJ.out.1.cell 0
  have hsz : (((w.alloc (.cells #[.slice A n c] 93)).alloc (.cells #[.func (.func 67) #[] #[]] 94)).alloc (.cells #[.int .i64 id] 3)).heap.size = w.heap.size + 1 + 1 + 1 := by simp
  have HZ := Lib.hid hsz
  clear HJ hG hR hn hl hsz
  go_enter Try.func82, Try.ntmps82
  go_wp2_with fail
  refine (HS.out _ HZ.out HK.out.1 HK.out.2.1 HK.out.2.2.1 HK.out.2.2.2).mono ?_
  rintro e w1 ⟨rfl, h9⟩
  have B1 := HK.out.2.2.2.trans (h9.mono HK.out.2.2.2.size)
  clear h9 k1
  go_wp2
  go_ret2
  exact ⟨rfl, B1⟩

set_option maxRecDepth 100000 in
set_option maxHeartbeats 2000000 in
theorem vat_any (A : Option Addr) (n c : Nat) (ds : List Dom) (B : Option Addr) (m d : Nat) (us : List Vc) (id : Int) (w : World) (hG : GR w A n c ds B m d us) (hR : Rise us) :
    Calls Try.prog 58 #[.agg #[.slice A n c, .slice B m d], .int .i64 id] w (Said (.tuple #[.int .i64 ((low us id : Nat) : Int), .bool (kf us id).isSome]) w) := by
  have HK := Lib.hid (box1 w 25 #[.slice A n c, .slice B m d])
  have HF := Lib.hid (fun (u : World) (h : Below w.heap.size w u) => vfind_any B m d us id u (hG.below h).vcs hR hG.m9)
  have k1 := HK.out.1.cell 0
  have k2 := HK.out.1.cell 1
  clear hG hR
  go_enter Try.func58, Try.ntmps58
  go_wp2_with fail
  refine (HF.out _ HK.out.2).mono ?_
  rintro e w1 ⟨rfl, h9⟩
  have B1 := HK.out.2.trans (h9.mono HK.out.2.size)
  clear h9 k1 k2
  go_wp2
  go_ret2
  exact ⟨rfl, B1⟩

end Go.Proofs.Ytknimnopopnbhaa
