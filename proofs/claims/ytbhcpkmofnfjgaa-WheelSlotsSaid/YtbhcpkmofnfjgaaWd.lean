/-
  The library's Compare and BinarySearchFunc at timers; the landed wheel: number, due, find. No statement is proved here.
-/
import Derived.Test.YtbhcpkmofnfjgaaWb
namespace Go.Proofs.Ytbhcpkmofnfjgaa
open Go.RowKit

def cmpY (a b : Int) : Int := if a < b then -1 else if b < a then 1 else 0


set_option maxRecDepth 100000 in
set_option maxHeartbeats 400000 in
theorem iisnan_any (a : Int) (w : World) : Calls Try.prog 51 #[.int .i64 a] w fun e w' => e = .returned (.bool false) ∧ w = w' := by
  have e0 : (a == a) = true := by simp
  go_enter Try.func51, Try.ntmps51
  go_wp2
  go_ret
  exact ⟨rfl, rfl⟩

set_option maxRecDepth 100000 in
set_option maxHeartbeats 1000000 in
theorem icompare_any (a b : Int) (w : World) : Calls Try.prog 43 #[.int .i64 a, .int .i64 b] w fun e w' => e = .returned (.int .i64 (cmpY a b)) ∧ w = w' := by
  have HN := Lib.hid (fun (x : Int) (u : World) => iisnan_any x u)
  by_cases h1 : a < b
  · have HV : Hid (cmpY a b = -1) := Lib.hid (if_pos h1)
    have e1 : decide (a < b) = true := decide_eq_true h1
    go_enter Try.func43, Try.ntmps43
    go_wp2_with fail
    refine (HN.out _ _).mono ?_
    rintro e w' ⟨rfl, rfl⟩
    go_wp2_with fail
    refine (HN.out _ _).mono ?_
    rintro e w' ⟨rfl, rfl⟩
    go_wp2
    go_ret
    exact ⟨retI HV.out.symm, rfl⟩
  · have e1 : decide (a < b) = false := decide_eq_false h1
    by_cases h2 : b < a
    · have HV : Hid (cmpY a b = 1) := Lib.hid (by unfold cmpY; rw [if_neg h1, if_pos h2])
      have e2 : decide (b < a) = true := decide_eq_true h2
      go_enter Try.func43, Try.ntmps43
      go_wp2_with fail
      refine (HN.out _ _).mono ?_
      rintro e w' ⟨rfl, rfl⟩
      go_wp2_with fail
      refine (HN.out _ _).mono ?_
      rintro e w' ⟨rfl, rfl⟩
      go_wp2
      go_ret
      exact ⟨retI HV.out.symm, rfl⟩
    · have HV : Hid (cmpY a b = 0) := Lib.hid (by unfold cmpY; rw [if_neg h1, if_neg h2])
      have e2 : decide (b < a) = false := decide_eq_false h2
      go_enter Try.func43, Try.ntmps43
      go_wp2_with fail
      refine (HN.out _ _).mono ?_
      rintro e w' ⟨rfl, rfl⟩
      go_wp2_with fail
      refine (HN.out _ _).mono ?_
      rintro e w' ⟨rfl, rfl⟩
      go_wp2
      go_ret
      exact ⟨retI HV.out.symm, rfl⟩

set_option maxRecDepth 100000 in
set_option maxHeartbeats 400000 in
theorem number_any (a b : Int) (w : World) : Calls Try.prog 29 #[.agg #[.int .i64 a, .int .i64 b]] w (Said (.int .i64 a) w) := by
  obtain ⟨K0, GB⟩ := box1 w 44 #[.int .i64 a, .int .i64 b]
  have z0 := K0.cell 0
  have z1 := K0.cell 1
  go_enter Try.func29, Try.ntmps29
  go_wp2
  go_ret
  exact ⟨rfl, GB⟩

set_option maxRecDepth 100000 in
set_option maxHeartbeats 1000000 in
theorem iclos_any (a b x : Int) (g : Nat) (w : World) (K : Blk w g 62 #[.func (.func 29) #[] #[]]) : Calls Try.prog 42 #[.agg #[.int .i64 a, .int .i64 b], .int .i64 x, .pointer (some ⟨g, 0, none⟩)] w (Said (.int .i64 (cmpY a x)) w) := by
  obtain ⟨K0, GB⟩ := box1 w 44 #[.int .i64 a, .int .i64 b]
  have HC := Lib.hid (fun (u : World) => icompare_any a x u)
  have HU := Lib.hid (fun (u : World) => number_any a b u)
  have K1 := K.alloc (.cells #[.int .i64 a, .int .i64 b] 44)
  have z0 := K0.cell 0
  have z1 := K0.cell 1
  have f0 := K1.cell 0
  clear K
  go_enter Try.func42, Try.ntmps42
  go_wp2_with fail
  refine (HU.out _).mono ?_
  rintro e w1 ⟨rfl, h9⟩
  replace GB := GB.trans (h9.mono GB.size)
  clear h9 z0 z1 f0 K0 K1
  go_wp2_with fail
  refine (HC.out _).mono ?_
  rintro e w1 ⟨rfl, rfl⟩
  go_wp2
  go_ret
  exact ⟨rfl, GB⟩

set_option maxRecDepth 100000 in
set_option maxHeartbeats 4000000 in
theorem isearch_any (A : Option Addr) (n c : Nat) (ts : List Tm) (x : Int) (g : Nat) (w : World) (hQ : WR w A n ts) (hS : SortK (·.1) ts) (K : Blk w g 62 #[.func (.func 29) #[] #[]]) :
    Calls Try.prog 41 #[.slice A n c, .int .i64 x, .func (.func 42) #[] #[.pointer (some ⟨g, 0, none⟩)]] w (Said (.tuple #[.int .i64 ((lowK (·.1) ts x : Nat) : Int), .bool (metK (·.1) ts x)]) w) := by
  have HC := Lib.hid (fun (a b : Int) (u : World) (h : Blk u g 62 #[.func (.func 29) #[] #[]]) => iclos_any a b x g u h)
  have HS := Lib.hid hS
  have hn := hQ.small
  have HL := Lib.hid hQ.len
  have HQ := Lib.hid hQ
  have HK := Lib.hid K
  have HKl := Lib.hid K.lt
  clear hS hQ K
  go_enter Try.func41, Try.ntmps41
  go_wp2_with fail
  go_loopw [9, 10] (fun iv jv wr => ∃ i j : Nat, i ≤ j ∧ j ≤ n ∧ iv = .int .i64 (i : Int) ∧ jv = .int .i64 (j : Int) ∧ Hid (∀ (k : Nat) (y : Tm), k < i → ts[k]? = some y → y.1 < x) ∧ Hid (∀ (k : Nat) (y : Tm), j ≤ k → ts[k]? = some y → x ≤ y.1) ∧ Below w.heap.size w wr) (fun iv jv _ => (intOf jv).toNat - (intOf iv).toNat)
  case atStart => exact ⟨0, n, by omega, by omega, rfl, rfl, Lib.hid (fun k y h _ => by omega), Lib.hid (fun k y h hy => by have := (List.getElem?_eq_some_iff.1 hy).1; have := HL.out; omega), Below.refl _ _⟩
  case round =>
    obtain ⟨i, j, hij, hjn, rfl, rfl, Hlo, Hhi, hB⟩ := hrel
    by_cases hlt : i < j
    · obtain ⟨m, hh⟩ : ∃ m, m = (i + j) / 2 := ⟨_, rfl⟩
      have h1 : i ≤ m ∧ m < j := by omega
      obtain ⟨⟨a, b⟩, hx⟩ := elem_at (l := ts) (k := m) (by rw [HL.out]; omega)
      obtain ⟨ad, rfl, hb, c0, c1⟩ := tm_at (HQ.out.below hB).row hx
      have HX := Lib.hid hx
      have l1 : decide ((i : Int) < (j : Int)) = true := decide_eq_true (by omega)
      have s1 : ((i : Int) + (j : Int)) / 2 = (m : Int) := by omega
      have HCx := Lib.hid (HC.out a b wr (HK.out.below hB HKl.out))
      have m0 : (0 : Int) ≤ (m : Int) := by omega
      have m1 : (m : Int) < (n : Int) := by omega
      clear hx hlt hh
      by_cases hz : a < x
      · rw [show cmpY a x = -1 from if_pos hz] at HCx
        have HN : Hid (∀ (k : Nat) (y : Tm), k < m + 1 → ts[k]? = some y → y.1 < x) := Lib.hid (fun k y hk hy => by
          have h5 : y.1 ≤ a := HS.out.at_ (by omega) hy HX.out
          omega)
        clear hz
        go_wp2_with fail
        refine HCx.out.mono ?_
        rintro e w1 ⟨rfl, h9⟩
        have B1 := hB.trans (h9.mono hB.size)
        clear h9 hB
        go_wp2
        go_roundw
        case rel => exact ⟨m + 1, j, by omega, by omega, by go_num, rfl, HN, Hhi, B1⟩
        case measure => simp [intOf] <;> omega
      · obtain ⟨q, hq, hq0⟩ : ∃ q, cmpY a x = q ∧ decide (q < 0) = false := ⟨_, rfl, by unfold cmpY; rw [if_neg hz]; split <;> rfl⟩
        rw [hq] at HCx
        have HN : Hid (∀ (k : Nat) (y : Tm), m ≤ k → ts[k]? = some y → x ≤ y.1) := Lib.hid (fun k y hk hy => by
          have h5 : a ≤ y.1 := HS.out.at_ hk HX.out hy
          omega)
        clear hz hq
        go_wp2_with fail
        refine HCx.out.mono ?_
        rintro e w1 ⟨rfl, h9⟩
        have B1 := hB.trans (h9.mono hB.size)
        clear h9 hB
        go_wp2
        go_roundw
        case rel => exact ⟨i, m, by omega, by omega, rfl, by go_num, Hlo, HN, B1⟩
        case measure => simp [intOf] <;> omega
    · obtain rfl : i = j := by omega
      have HV : Hid (lowK (·.1) ts x = i) := Lib.hid (low_is (by rw [HL.out]; omega) Hlo.out Hhi.out)
      have l1 : decide ((i : Int) < (i : Int)) = false := decide_eq_false (by omega)
      by_cases hin : i < n
      · obtain ⟨⟨a, b⟩, hx⟩ := elem_at (l := ts) (k := i) (by rw [HL.out]; omega)
        obtain ⟨ad, rfl, hb, c0, c1⟩ := tm_at (HQ.out.below hB).row hx
        have HCx := Lib.hid (HC.out a b wr (HK.out.below hB HKl.out))
        have l2 : decide ((i : Int) < (n : Int)) = true := decide_eq_true (by omega)
        have m0 : (0 : Int) ≤ (i : Int) := by omega
        have m1 : (i : Int) < (n : Int) := by omega
        obtain ⟨q, hq⟩ : ∃ q, cmpY a x = q := ⟨_, rfl⟩
        rw [hq] at HCx
        have hge : x ≤ a := Hhi.out i _ (Nat.le_refl _) hx
        have HF : Hid (metK (·.1) ts x = decide (a = x)) := Lib.hid (by unfold metK; rw [HV.out, hx]; rfl)
        by_cases he : a = x
        · rw [decide_eq_true he] at HF
          have q0 : (q == 0) = true := by rw [← hq]; unfold cmpY; rw [if_neg (by omega), if_neg (by omega)]; rfl
          clear hx hq hge he
          go_wp2_with fail
          refine HCx.out.mono ?_
          rintro e w1 ⟨rfl, h9⟩
          have B1 := hB.trans (h9.mono hB.size)
          go_wp2
          go_ret2
          exact ⟨by rw [HV.out, HF.out]; rfl, B1⟩
        · rw [decide_eq_false he] at HF
          have q0 : (q == 0) = false := by
            have : x < a := by omega
            rw [← hq]; unfold cmpY; rw [if_neg (by omega), if_pos this]; rfl
          clear hx hq hge he
          go_wp2_with fail
          refine HCx.out.mono ?_
          rintro e w1 ⟨rfl, h9⟩
          have B1 := hB.trans (h9.mono hB.size)
          go_wp2
          go_ret2
          exact ⟨by rw [HV.out, HF.out]; rfl, B1⟩
      · have l2 : decide ((i : Int) < (n : Int)) = false := decide_eq_false (by omega)
        have HF : Hid (metK (·.1) ts x = false) := Lib.hid (by unfold metK; rw [HV.out, List.getElem?_eq_none (by rw [HL.out]; omega)]; rfl)
        go_wp2
        go_ret2
        exact ⟨by rw [HV.out, HF.out]; rfl, hB⟩

set_option maxRecDepth 100000 in
set_option maxHeartbeats 1000000 in
theorem ifind_any (A : Option Addr) (n c : Nat) (ts : List Tm) (x : Int) (w : World) (hQ : WR w A n ts) (hS : SortK (·.1) ts) :
    Calls Try.prog 28 #[.slice A n c, .int .i64 x, .func (.func 29) #[] #[]] w (Said (.tuple #[.int .i64 ((lowK (·.1) ts x : Nat) : Int), .bool (metK (·.1) ts x)]) w) := by
  obtain ⟨K0, GB⟩ := box1 w 62 #[.func (.func 29) #[] #[]]
  have HB := Lib.hid (isearch_any A n c ts x w.heap.size _ (hQ.below GB) hS K0)
  clear hQ hS K0
  go_enter Try.func28, Try.ntmps28
  go_wp2_with fail
  refine HB.out.mono ?_
  rintro e w1 ⟨rfl, h9⟩
  replace GB := GB.trans (h9.mono GB.size)
  go_wp2
  go_ret2
  exact ⟨rfl, GB⟩


set_option maxRecDepth 100000 in
set_option maxHeartbeats 400000 in
theorem jisnan_any (a : Int) (w : World) : Calls Try.prog 58 #[.int .i64 a] w fun e w' => e = .returned (.bool false) ∧ w = w' := by
  have e0 : (a == a) = true := by simp
  go_enter Try.func58, Try.ntmps58
  go_wp2
  go_ret
  exact ⟨rfl, rfl⟩

set_option maxRecDepth 100000 in
set_option maxHeartbeats 1000000 in
theorem jcompare_any (a b : Int) (w : World) : Calls Try.prog 55 #[.int .i64 a, .int .i64 b] w fun e w' => e = .returned (.int .i64 (cmpY a b)) ∧ w = w' := by
  have HN := Lib.hid (fun (x : Int) (u : World) => jisnan_any x u)
  by_cases h1 : a < b
  · have HV : Hid (cmpY a b = -1) := Lib.hid (if_pos h1)
    have e1 : decide (a < b) = true := decide_eq_true h1
    go_enter Try.func55, Try.ntmps55
    go_wp2_with fail
    refine (HN.out _ _).mono ?_
    rintro e w' ⟨rfl, rfl⟩
    go_wp2_with fail
    refine (HN.out _ _).mono ?_
    rintro e w' ⟨rfl, rfl⟩
    go_wp2
    go_ret
    exact ⟨retI HV.out.symm, rfl⟩
  · have e1 : decide (a < b) = false := decide_eq_false h1
    by_cases h2 : b < a
    · have HV : Hid (cmpY a b = 1) := Lib.hid (by unfold cmpY; rw [if_neg h1, if_pos h2])
      have e2 : decide (b < a) = true := decide_eq_true h2
      go_enter Try.func55, Try.ntmps55
      go_wp2_with fail
      refine (HN.out _ _).mono ?_
      rintro e w' ⟨rfl, rfl⟩
      go_wp2_with fail
      refine (HN.out _ _).mono ?_
      rintro e w' ⟨rfl, rfl⟩
      go_wp2
      go_ret
      exact ⟨retI HV.out.symm, rfl⟩
    · have HV : Hid (cmpY a b = 0) := Lib.hid (by unfold cmpY; rw [if_neg h1, if_neg h2])
      have e2 : decide (b < a) = false := decide_eq_false h2
      go_enter Try.func55, Try.ntmps55
      go_wp2_with fail
      refine (HN.out _ _).mono ?_
      rintro e w' ⟨rfl, rfl⟩
      go_wp2_with fail
      refine (HN.out _ _).mono ?_
      rintro e w' ⟨rfl, rfl⟩
      go_wp2
      go_ret
      exact ⟨retI HV.out.symm, rfl⟩

set_option maxRecDepth 100000 in
set_option maxHeartbeats 400000 in
theorem due_any (a b : Int) (w : World) : Calls Try.prog 49 #[.agg #[.int .i64 a, .int .i64 b]] w (Said (.int .i64 b) w) := by
  obtain ⟨K0, GB⟩ := box1 w 44 #[.int .i64 a, .int .i64 b]
  have z0 := K0.cell 0
  have z1 := K0.cell 1
  go_enter Try.func49, Try.ntmps49
  go_wp2
  go_ret
  exact ⟨rfl, GB⟩

set_option maxRecDepth 100000 in
set_option maxHeartbeats 1000000 in
theorem jclos_any (a b x : Int) (g : Nat) (w : World) (K : Blk w g 82 #[.func (.func 49) #[] #[]]) : Calls Try.prog 54 #[.agg #[.int .i64 a, .int .i64 b], .int .i64 x, .pointer (some ⟨g, 0, none⟩)] w (Said (.int .i64 (cmpY b x)) w) := by
  obtain ⟨K0, GB⟩ := box1 w 44 #[.int .i64 a, .int .i64 b]
  have HC := Lib.hid (fun (u : World) => jcompare_any b x u)
  have HU := Lib.hid (fun (u : World) => due_any a b u)
  have K1 := K.alloc (.cells #[.int .i64 a, .int .i64 b] 44)
  have z0 := K0.cell 0
  have z1 := K0.cell 1
  have f0 := K1.cell 0
  clear K
  go_enter Try.func54, Try.ntmps54
  go_wp2_with fail
  refine (HU.out _).mono ?_
  rintro e w1 ⟨rfl, h9⟩
  replace GB := GB.trans (h9.mono GB.size)
  clear h9 z0 z1 f0 K0 K1
  go_wp2_with fail
  refine (HC.out _).mono ?_
  rintro e w1 ⟨rfl, rfl⟩
  go_wp2
  go_ret
  exact ⟨rfl, GB⟩

set_option maxRecDepth 100000 in
set_option maxHeartbeats 4000000 in
theorem jsearch_any (A : Option Addr) (n c : Nat) (ts : List Tm) (x : Int) (g : Nat) (w : World) (hQ : WR w A n ts) (hS : SortK (·.2) ts) (K : Blk w g 82 #[.func (.func 49) #[] #[]]) :
    Calls Try.prog 53 #[.slice A n c, .int .i64 x, .func (.func 54) #[] #[.pointer (some ⟨g, 0, none⟩)]] w (Said (.tuple #[.int .i64 ((lowK (·.2) ts x : Nat) : Int), .bool (metK (·.2) ts x)]) w) := by
  have HC := Lib.hid (fun (a b : Int) (u : World) (h : Blk u g 82 #[.func (.func 49) #[] #[]]) => jclos_any a b x g u h)
  have HS := Lib.hid hS
  have hn := hQ.small
  have HL := Lib.hid hQ.len
  have HQ := Lib.hid hQ
  have HK := Lib.hid K
  have HKl := Lib.hid K.lt
  clear hS hQ K
  go_enter Try.func53, Try.ntmps53
  go_wp2_with fail
  go_loopw [9, 10] (fun iv jv wr => ∃ i j : Nat, i ≤ j ∧ j ≤ n ∧ iv = .int .i64 (i : Int) ∧ jv = .int .i64 (j : Int) ∧ Hid (∀ (k : Nat) (y : Tm), k < i → ts[k]? = some y → y.2 < x) ∧ Hid (∀ (k : Nat) (y : Tm), j ≤ k → ts[k]? = some y → x ≤ y.2) ∧ Below w.heap.size w wr) (fun iv jv _ => (intOf jv).toNat - (intOf iv).toNat)
  case atStart => exact ⟨0, n, by omega, by omega, rfl, rfl, Lib.hid (fun k y h _ => by omega), Lib.hid (fun k y h hy => by have := (List.getElem?_eq_some_iff.1 hy).1; have := HL.out; omega), Below.refl _ _⟩
  case round =>
    obtain ⟨i, j, hij, hjn, rfl, rfl, Hlo, Hhi, hB⟩ := hrel
    by_cases hlt : i < j
    · obtain ⟨m, hh⟩ : ∃ m, m = (i + j) / 2 := ⟨_, rfl⟩
      have h1 : i ≤ m ∧ m < j := by omega
      obtain ⟨⟨a, b⟩, hx⟩ := elem_at (l := ts) (k := m) (by rw [HL.out]; omega)
      obtain ⟨ad, rfl, hb, c0, c1⟩ := tm_at (HQ.out.below hB).row hx
      have HX := Lib.hid hx
      have l1 : decide ((i : Int) < (j : Int)) = true := decide_eq_true (by omega)
      have s1 : ((i : Int) + (j : Int)) / 2 = (m : Int) := by omega
      have HCx := Lib.hid (HC.out a b wr (HK.out.below hB HKl.out))
      have m0 : (0 : Int) ≤ (m : Int) := by omega
      have m1 : (m : Int) < (n : Int) := by omega
      clear hx hlt hh
      by_cases hz : b < x
      · rw [show cmpY b x = -1 from if_pos hz] at HCx
        have HN : Hid (∀ (k : Nat) (y : Tm), k < m + 1 → ts[k]? = some y → y.2 < x) := Lib.hid (fun k y hk hy => by
          have h5 : y.2 ≤ b := HS.out.at_ (by omega) hy HX.out
          omega)
        clear hz
        go_wp2_with fail
        refine HCx.out.mono ?_
        rintro e w1 ⟨rfl, h9⟩
        have B1 := hB.trans (h9.mono hB.size)
        clear h9 hB
        go_wp2
        go_roundw
        case rel => exact ⟨m + 1, j, by omega, by omega, by go_num, rfl, HN, Hhi, B1⟩
        case measure => simp [intOf] <;> omega
      · obtain ⟨q, hq, hq0⟩ : ∃ q, cmpY b x = q ∧ decide (q < 0) = false := ⟨_, rfl, by unfold cmpY; rw [if_neg hz]; split <;> rfl⟩
        rw [hq] at HCx
        have HN : Hid (∀ (k : Nat) (y : Tm), m ≤ k → ts[k]? = some y → x ≤ y.2) := Lib.hid (fun k y hk hy => by
          have h5 : b ≤ y.2 := HS.out.at_ hk HX.out hy
          omega)
        clear hz hq
        go_wp2_with fail
        refine HCx.out.mono ?_
        rintro e w1 ⟨rfl, h9⟩
        have B1 := hB.trans (h9.mono hB.size)
        clear h9 hB
        go_wp2
        go_roundw
        case rel => exact ⟨i, m, by omega, by omega, rfl, by go_num, Hlo, HN, B1⟩
        case measure => simp [intOf] <;> omega
    · obtain rfl : i = j := by omega
      have HV : Hid (lowK (·.2) ts x = i) := Lib.hid (low_is (by rw [HL.out]; omega) Hlo.out Hhi.out)
      have l1 : decide ((i : Int) < (i : Int)) = false := decide_eq_false (by omega)
      by_cases hin : i < n
      · obtain ⟨⟨a, b⟩, hx⟩ := elem_at (l := ts) (k := i) (by rw [HL.out]; omega)
        obtain ⟨ad, rfl, hb, c0, c1⟩ := tm_at (HQ.out.below hB).row hx
        have HCx := Lib.hid (HC.out a b wr (HK.out.below hB HKl.out))
        have l2 : decide ((i : Int) < (n : Int)) = true := decide_eq_true (by omega)
        have m0 : (0 : Int) ≤ (i : Int) := by omega
        have m1 : (i : Int) < (n : Int) := by omega
        obtain ⟨q, hq⟩ : ∃ q, cmpY b x = q := ⟨_, rfl⟩
        rw [hq] at HCx
        have hge : x ≤ b := Hhi.out i _ (Nat.le_refl _) hx
        have HF : Hid (metK (·.2) ts x = decide (b = x)) := Lib.hid (by unfold metK; rw [HV.out, hx]; rfl)
        by_cases he : b = x
        · rw [decide_eq_true he] at HF
          have q0 : (q == 0) = true := by rw [← hq]; unfold cmpY; rw [if_neg (by omega), if_neg (by omega)]; rfl
          clear hx hq hge he
          go_wp2_with fail
          refine HCx.out.mono ?_
          rintro e w1 ⟨rfl, h9⟩
          have B1 := hB.trans (h9.mono hB.size)
          go_wp2
          go_ret2
          exact ⟨by rw [HV.out, HF.out]; rfl, B1⟩
        · rw [decide_eq_false he] at HF
          have q0 : (q == 0) = false := by
            have : x < b := by omega
            rw [← hq]; unfold cmpY; rw [if_neg (by omega), if_pos this]; rfl
          clear hx hq hge he
          go_wp2_with fail
          refine HCx.out.mono ?_
          rintro e w1 ⟨rfl, h9⟩
          have B1 := hB.trans (h9.mono hB.size)
          go_wp2
          go_ret2
          exact ⟨by rw [HV.out, HF.out]; rfl, B1⟩
      · have l2 : decide ((i : Int) < (n : Int)) = false := decide_eq_false (by omega)
        have HF : Hid (metK (·.2) ts x = false) := Lib.hid (by unfold metK; rw [HV.out, List.getElem?_eq_none (by rw [HL.out]; omega)]; rfl)
        go_wp2
        go_ret2
        exact ⟨by rw [HV.out, HF.out]; rfl, hB⟩

set_option maxRecDepth 100000 in
set_option maxHeartbeats 1000000 in
theorem jfind_any (A : Option Addr) (n c : Nat) (ts : List Tm) (x : Int) (w : World) (hQ : WR w A n ts) (hS : SortK (·.2) ts) :
    Calls Try.prog 48 #[.slice A n c, .int .i64 x, .func (.func 49) #[] #[]] w (Said (.tuple #[.int .i64 ((lowK (·.2) ts x : Nat) : Int), .bool (metK (·.2) ts x)]) w) := by
  obtain ⟨K0, GB⟩ := box1 w 82 #[.func (.func 49) #[] #[]]
  have HB := Lib.hid (jsearch_any A n c ts x w.heap.size _ (hQ.below GB) hS K0)
  clear hQ hS K0
  go_enter Try.func48, Try.ntmps48
  go_wp2_with fail
  refine HB.out.mono ?_
  rintro e w1 ⟨rfl, h9⟩
  replace GB := GB.trans (h9.mono GB.size)
  go_wp2
  go_ret2
  exact ⟨rfl, GB⟩

end Go.Proofs.Ytbhcpkmofnfjgaa
