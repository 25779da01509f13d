/-
  The library's Compare and BinarySearchFunc; the landed vtime: find, rise. No statement is proved here.
-/
import Derived.Test.YtfgabmelmopgdaaVa
namespace Go.Proofs.Ytfgabmelmopgdaa
open Go.RowKit

def cmpY (a b : Int) : Int := if a < b then -1 else if b < a then 1 else 0

set_option maxRecDepth 100000 in
set_option maxHeartbeats 400000 in
theorem iisnan_any (a : Int) (w : World) : Calls Try.prog 93 #[.int .i64 a] w fun e w' => e = .returned (.bool false) ∧ w = w' := by
  have e0 : (a == a) = true := by simp
  go_enter Try.func93, Try.ntmps93
  go_wp2
  go_ret
  exact ⟨rfl, rfl⟩

set_option maxRecDepth 100000 in
set_option maxHeartbeats 1000000 in
theorem icompare_any (a b : Int) (w : World) : Calls Try.prog 76 #[.int .i64 a, .int .i64 b] w fun e w' => e = .returned (.int .i64 (cmpY a b)) ∧ w = w' := by
  have HN := Lib.hid (fun (x : Int) (u : World) => iisnan_any x u)
  by_cases h1 : a < b
  · have HV : Hid (cmpY a b = -1) := Lib.hid (if_pos h1)
    have e1 : decide (a < b) = true := decide_eq_true h1
    go_enter Try.func76, Try.ntmps76
    go_wp2_with fail
    refine (HN.out _ _).mono ?_
    rintro e w' ⟨rfl, rfl⟩
    go_wp2_with fail
    refine (HN.out _ _).mono ?_
    rintro e w' ⟨rfl, rfl⟩
    go_wp2
    go_ret
    exact ⟨retI HV.out.symm, rfl⟩
  · have e1 : decide (a < b) = false := decide_eq_false h1
    by_cases h2 : b < a
    · have HV : Hid (cmpY a b = 1) := Lib.hid (by unfold cmpY; rw [if_neg h1, if_pos h2])
      have e2 : decide (b < a) = true := decide_eq_true h2
      go_enter Try.func76, Try.ntmps76
      go_wp2_with fail
      refine (HN.out _ _).mono ?_
      rintro e w' ⟨rfl, rfl⟩
      go_wp2_with fail
      refine (HN.out _ _).mono ?_
      rintro e w' ⟨rfl, rfl⟩
      go_wp2
      go_ret
      exact ⟨retI HV.out.symm, rfl⟩
    · have HV : Hid (cmpY a b = 0) := Lib.hid (by unfold cmpY; rw [if_neg h1, if_neg h2])
      have e2 : decide (b < a) = false := decide_eq_false h2
      go_enter Try.func76, Try.ntmps76
      go_wp2_with fail
      refine (HN.out _ _).mono ?_
      rintro e w' ⟨rfl, rfl⟩
      go_wp2_with fail
      refine (HN.out _ _).mono ?_
      rintro e w' ⟨rfl, rfl⟩
      go_wp2
      go_ret
      exact ⟨retI HV.out.symm, rfl⟩


set_option maxRecDepth 100000 in
set_option maxHeartbeats 1000000 in
theorem fclos_any (a b : Int) (h l x : Nat) (id : Int) (w : World) : Calls Try.prog 75 #[.agg #[.int .i64 a, .int .i64 b, .int .u64 (h : Int), .int .u64 (l : Int), .int .u64 (x : Int)], .int .i64 id] w (Said (.int .i64 (cmpY a id)) w) := by
  obtain ⟨K0, GB⟩ := box1 w 40 #[.int .i64 a, .int .i64 b, .int .u64 (h : Int), .int .u64 (l : Int), .int .u64 (x : Int)]
  have HC := Lib.hid (fun (u : World) => icompare_any a id u)
  have z0 := K0.cell 0
  go_enter Try.func75, Try.ntmps75
  go_wp2_with fail
  refine (HC.out _).mono ?_
  rintro e w1 ⟨rfl, rfl⟩
  go_wp2
  go_ret
  exact ⟨rfl, GB⟩

set_option maxRecDepth 100000 in
set_option maxHeartbeats 4000000 in
theorem bsearch_any (A : Option Addr) (n c : Nat) (qs : List Rn) (id : Int) (w : World) (hQ : Reads w w.heap.size 5 A n (flat rv qs)) (hR : Rise qs) (hn : n ≤ 1000) :
    Calls Try.prog 74 #[.slice A n c, .int .i64 id, .func (.func 75) #[] #[]] w (Said (.tuple #[.int .i64 ((low qs id : Nat) : Int), .bool (kf qs id).isSome]) w) := by
  have HC := Lib.hid (fun (a b : Int) (h l x : Nat) (u : World) => fclos_any a b h l x id u)
  have HRi := Lib.hid hR
  have HQ := Lib.hid hQ
  have HL := Lib.hid (rns_len hQ)
  clear hR hQ
  go_enter Try.func74, Try.ntmps74
  go_wp2_with fail
  go_loopw [9, 10] (fun iv jv wr => ∃ i j : Nat, i ≤ j ∧ j ≤ n ∧ iv = .int .i64 (i : Int) ∧ jv = .int .i64 (j : Int) ∧ Hid (∀ (k : Nat) (x : Rn), k < i → qs[k]? = some x → x.1 < id) ∧ Hid (∀ (k : Nat) (x : Rn), j ≤ k → qs[k]? = some x → id ≤ x.1) ∧ Below w.heap.size w wr) (fun iv jv _ => (intOf jv).toNat - (intOf iv).toNat)
  case atStart => exact ⟨0, n, by omega, by omega, rfl, rfl, Lib.hid (fun k x h _ => by omega), Lib.hid (fun k x h hx => by have := (List.getElem?_eq_some_iff.1 hx).1; have := HL.out; omega), Below.refl _ _⟩
  case round =>
    obtain ⟨i, j, hij, hjn, rfl, rfl, Hlo, Hhi, hB⟩ := hrel
    by_cases hlt : i < j
    · obtain ⟨m, hh⟩ : ∃ m, m = (i + j) / 2 := ⟨_, rfl⟩
      have h1 : i ≤ m ∧ m < j := by omega
      obtain ⟨⟨a, b, h, l, x⟩, hx⟩ := elem_at (l := qs) (k := m) (by rw [HL.out]; omega)
      obtain ⟨ad, rfl, hb, c0, c1, c2, c3, c4⟩ := rn_at (HQ.out.below hB) hx
      have HX := Lib.hid hx
      have l1 : decide ((i : Int) < (j : Int)) = true := decide_eq_true (by omega)
      have s1 : ((i : Int) + (j : Int)) / 2 = (m : Int) := by omega
      have HCx := Lib.hid (fun (u : World) => HC.out a b h l x u)
      have m0 : (0 : Int) ≤ (m : Int) := by omega
      have m1 : (m : Int) < (n : Int) := by omega
      clear hx hlt hh
      by_cases hz : a < id
      · rw [show cmpY a id = -1 from if_pos hz] at HCx
        have HN : Hid (∀ (k : Nat) (y : Rn), k < m + 1 → qs[k]? = some y → y.1 < id) := Lib.hid (fun k y hk hy => (low_lt HRi.out hy).2 (by have := (low_lt HRi.out HX.out).1 hz; omega))
        clear hz
        go_wp2_with fail
        refine (HCx.out _).mono ?_
        rintro e w1 ⟨rfl, h9⟩
        have B1 := hB.trans (h9.mono hB.size)
        clear h9 hB
        go_wp2
        go_roundw
        case rel => exact ⟨m + 1, j, by omega, by omega, by go_num, rfl, HN, Hhi, B1⟩
        case measure => simp [intOf] <;> omega
      · obtain ⟨q, hq, hq0⟩ : ∃ q, cmpY a id = q ∧ decide (q < 0) = false := ⟨_, rfl, by unfold cmpY; rw [if_neg hz]; split <;> rfl⟩
        rw [hq] at HCx
        have HN : Hid (∀ (k : Nat) (y : Rn), m ≤ k → qs[k]? = some y → id ≤ y.1) := Lib.hid (fun k y hk hy => by
          have h2 : ¬ m < low qs id := fun q => hz ((low_lt HRi.out HX.out).2 q)
          have h3 : ¬ y.1 < id := fun q => h2 (by have := (low_lt HRi.out hy).1 q; omega)
          omega)
        clear hz hq
        go_wp2_with fail
        refine (HCx.out _).mono ?_
        rintro e w1 ⟨rfl, h9⟩
        have B1 := hB.trans (h9.mono hB.size)
        clear h9 hB
        go_wp2
        go_roundw
        case rel => exact ⟨i, m, by omega, by omega, rfl, by go_num, Hlo, HN, B1⟩
        case measure => simp [intOf] <;> omega
    · obtain rfl : i = j := by omega
      have HV : Hid (low qs id = i) := Lib.hid (low_unique HRi.out (by rw [HL.out]; omega) Hlo.out Hhi.out)
      have l1 : decide ((i : Int) < (i : Int)) = false := decide_eq_false (by omega)
      by_cases hin : i < n
      · obtain ⟨⟨a, b, h, l, x⟩, hx⟩ := elem_at (l := qs) (k := i) (by rw [HL.out]; omega)
        obtain ⟨ad, rfl, hb, c0, c1, c2, c3, c4⟩ := rn_at (HQ.out.below hB) hx
        have HCx := Lib.hid (HC.out a b h l x wr)
        have l2 : decide ((i : Int) < (n : Int)) = true := decide_eq_true (by omega)
        have m0 : (0 : Int) ≤ (i : Int) := by omega
        have m1 : (i : Int) < (n : Int) := by omega
        obtain ⟨q, hq⟩ : ∃ q, cmpY a id = q := ⟨_, rfl⟩
        rw [hq] at HCx
        have hge := Hhi.out i _ (Nat.le_refl _) hx
        by_cases he : a = id
        · have HF : Hid ((kf qs id).isSome = true) := Lib.hid (by rw [low_eq HRi.out (by rw [HV.out]; exact hx) he]; rfl)
          have q0 : (q == 0) = true := by rw [← hq]; unfold cmpY; rw [if_neg (by omega), if_neg (by omega)]; rfl
          clear hx hq hge he
          go_wp2_with fail
          refine HCx.out.mono ?_
          rintro e w1 ⟨rfl, h9⟩
          have B1 := hB.trans (h9.mono hB.size)
          go_wp2
          go_ret2
          exact ⟨by rw [HV.out, HF.out]; rfl, B1⟩
        · have HF : Hid ((kf qs id).isSome = false) := Lib.hid (by rw [low_none HRi.out (fun y hy => by rw [HV.out, hx] at hy; injection hy with hy; subst hy; exact he)]; rfl)
          have q0 : (q == 0) = false := by
            have : id < a := by
              have h5 : id ≤ a := hge
              omega
            rw [← hq]; unfold cmpY; rw [if_neg (by omega), if_pos this]; rfl
          clear hx hq hge he
          go_wp2_with fail
          refine HCx.out.mono ?_
          rintro e w1 ⟨rfl, h9⟩
          have B1 := hB.trans (h9.mono hB.size)
          go_wp2
          go_ret2
          exact ⟨by rw [HV.out, HF.out]; rfl, B1⟩
      · have l2 : decide ((i : Int) < (n : Int)) = false := decide_eq_false (by omega)
        have HF : Hid ((kf qs id).isSome = false) := Lib.hid (by rw [low_none HRi.out (fun y hy => by have := (List.getElem?_eq_some_iff.1 hy).1; rw [HV.out, HL.out] at this; omega)]; rfl)
        go_wp2
        go_ret2
        exact ⟨by rw [HV.out, HF.out]; rfl, hB⟩

set_option maxRecDepth 100000 in
set_option maxHeartbeats 1000000 in
theorem find_any (A : Option Addr) (n c : Nat) (qs : List Rn) (id : Int) (w : World) (hQ : Reads w w.heap.size 5 A n (flat rv qs)) (hR : Rise qs) (hn : n ≤ 1000) :
    Calls Try.prog 39 #[.slice A n c, .int .i64 id] w (Said (.tuple #[.int .i64 ((low qs id : Nat) : Int), .bool (kf qs id).isSome]) w) := by
  have HS := Lib.hid (bsearch_any A n c qs id w hQ hR hn)
  clear hQ hR
  go_enter Try.func39, Try.ntmps39
  go_wp2_with fail
  refine HS.out.mono ?_
  rintro e w1 ⟨rfl, h9⟩
  go_wp2
  go_ret2
  exact ⟨rfl, h9⟩

theorem riseI_at {last : Int} {l : List Int} {k : Nat} {x : Int} (h : l[k]? = some x) : riseI last (l.drop k) = (decide (last < x) && decide (x ≤ 16) && riseI x (l.drop (k + 1))) := by
  have hk := (List.getElem?_eq_some_iff.1 h).1
  have e : l.drop k = x :: l.drop (k + 1) := by rw [List.drop_eq_getElem_cons hk, (List.getElem?_eq_some_iff.1 h).2]
  rw [e]
  rfl
/-- what came last -/
def lastI (is : List Int) : Nat → Int
  | 0 => 0
  | k + 1 => is.getD k 0
theorem lastI_at {is : List Int} {k : Nat} {x : Int} (h : is[k]? = some x) : lastI is (k + 1) = x := by show is.getD k 0 = x; rw [List.getD_eq_getElem?_getD, h]; rfl
/-- numbers that lie somewhere -/
structure IR (w : World) (A : Option Addr) (n : Nat) (is : List Int) : Prop where
  row : Reads w w.heap.size 1 A n (vs is)
  small : n ≤ 1000
theorem IR.len {w : World} {A : Option Addr} {n : Nat} {is : List Int} (h : IR w A n is) : is.length = n := by
  have h1 := h.row.1
  rw [length_vs] at h1
  omega
theorem IR.below {w w' : World} {A : Option Addr} {n : Nat} {is : List Int} (h : IR w A n is) (hb : Below w.heap.size w w') : IR w' A n is := ⟨(h.row.below hb).more hb.size, h.small⟩
theorem IR.at_ {w : World} {A : Option Addr} {n : Nat} {is : List Int} (h : IR w A n is) {j : Nat} {x : Int} (hx : is[j]? = some x) : ∃ ad, A = some ad ∧ ad.block < w.heap.size ∧ w.cell? (ad.add j) = some (.int .i64 x) := by
  have := (List.getElem?_eq_some_iff.1 hx).1
  obtain ⟨ad, e, hb, hc⟩ := h.row.2 (by have := h.len; omega)
  exact ⟨ad, e, hb, hc j _ (by unfold vs; rw [List.getElem?_map, hx]; rfl)⟩

set_option maxRecDepth 100000 in
set_option maxHeartbeats 4000000 in
theorem rise_any (A : Option Addr) (n c : Nat) (is : List Int) (w : World) (hI : IR w A n is) : Calls Try.prog 73 #[.slice A n c] w fun e w' => e = .returned (.bool (riseI 0 is)) ∧ w = w' := by
  have HI := Lib.hid hI
  have HL := Lib.hid hI.len
  have n9 : n ≤ 1000 := hI.small
  have HD := Lib.hid (fun (a : Int) (u : World) => isid_any a u)
  clear hI
  go_enter Try.func73, Try.ntmps73
  go_wp2_with fail
  go_loop [7] (fun iv => ∃ k : Nat, k ≤ n ∧ iv = .int .i64 (k : Int) ∧ Hid (riseI 0 is = riseI (lastI is k) (is.drop k) ∧ 0 ≤ lastI is k)) (fun iv => n - (intOf iv).toNat)
  case atStart => exact ⟨0, Nat.zero_le _, rfl, Lib.hid ⟨rfl, Int.le_refl _⟩⟩
  case round =>
    obtain ⟨k, hk, rfl, HC⟩ := hrel
    by_cases hlt : k < n
    · obtain ⟨x, hx⟩ := elem_at (l := is) (k := k) (by rw [HL.out]; exact hlt)
      obtain ⟨ad, rfl, hb, c0⟩ := HI.out.at_ hx
      have HN := Lib.hid (show riseI 0 is = (decide (lastI is k < x) && decide (x ≤ 16) && riseI x (is.drop (k + 1))) from HC.out.1.trans (riseI_at hx))
      have HLx := Lib.hid (lastI_at hx)
      have j0 : (0 : Int) ≤ (k : Int) := by omega
      have j1 : (k : Int) < (n : Int) := by omega
      have hk1 : k + 1 ≤ n := hlt
      have HDx := Lib.hid (fun (u : World) => HD.out x u)
      have H0 := Lib.hid HC.out.2
      cases hid : idB x with
      | false =>
        rw [hid] at HDx
        have HV : Hid (riseI 0 is = false) := Lib.hid (by
          rw [HN.out]
          unfold idB at hid
          simp only [Bool.and_eq_false_iff, decide_eq_false_iff_not] at hid
          have := H0.out
          rcases hid with h | h
          · rw [show decide (lastI is k < x) = false from decide_eq_false (by omega)]; rfl
          · rw [show decide (x ≤ 16) = false from decide_eq_false h, Bool.and_false]; rfl)
        clear hid hx
        go_wp2_with fail
        refine (HDx.out _).mono ?_
        rintro e w1 ⟨rfl, rfl⟩
        go_wp2
        go_ret
        exact ⟨retB HV.out.symm, rfl⟩
      | true =>
        rw [hid] at HDx
        have hb16 : 1 ≤ x ∧ x ≤ 16 := by
          unfold idB at hid
          simpa using hid
        have HN2 := Lib.hid (show riseI 0 is = (decide (lastI is k < x) && riseI x (is.drop (k + 1))) by rw [HN.out, show decide (x ≤ 16) = true from decide_eq_true hb16.2, Bool.and_true])
        have HP : Hid (0 ≤ x) := Lib.hid (by omega)
        clear hid hx
        by_cases hk0 : k = 0
        · subst hk0
          have HG : Hid (riseI 0 is = riseI (lastI is (0 + 1)) (is.drop (0 + 1)) ∧ 0 ≤ lastI is (0 + 1)) := Lib.hid ⟨by rw [HN2.out, HLx.out, show decide (lastI is 0 < x) = true from decide_eq_true (by show (0 : Int) < x; omega), Bool.true_and], by rw [HLx.out]; omega⟩
          have hn0 : 0 + 1 ≤ n := hk1
          have c00 : w.cell? ad = some (.int .i64 x) := by
            have q := c0
            rwa [show ad.add 0 = ad by unfold Addr.add; simp] at q
          clear hb16 HC HN HN2 hk
          go_wp2_with fail
          refine (HDx.out _).mono ?_
          rintro e w1 ⟨rfl, rfl⟩
          go_wp2
          go_round
          case rel => exact ⟨0 + 1, hn0, by go_num, HG⟩
          case measure => simp [intOf] <;> omega
        · obtain ⟨j, rfl⟩ : ∃ j, k = j + 1 := ⟨k - 1, by omega⟩
          obtain ⟨y, hy⟩ := elem_at (l := is) (k := j) (by rw [HL.out]; omega)
          obtain ⟨ad', e', _, d0⟩ := HI.out.at_ hy
          injection e' with e'
          subst e'
          have hly := lastI_at hy
          have g1 : decide ((0 : Int) < ((j + 1 : Nat) : Int)) = true := decide_eq_true (by omega)
          have g2 : (((j + 1 : Nat) : Int) - 1) = (j : Int) := by omega
          have g3 : wrap64 (((j + 1 : Nat) : Int) - 1) = (j : Int) := by unfold wrap64; have := n9; omega
          have g4 : (0 : Int) ≤ (j : Int) := by omega
          have g5 : (j : Int) < (n : Int) := by omega
          obtain ⟨kk, hkk⟩ : ∃ kk, j + 1 = kk := ⟨_, rfl⟩
          rw [hkk] at g1 g2 g3 c0 j0 j1 HN2 HLx hk1 hly ⊢
          have HJ := Lib.hid hkk
          clear hy hk0 hb16 HC HN hk hlt H0 hkk
          by_cases hxy : x ≤ y
          · have e3 : decide (x ≤ y) = true := decide_eq_true hxy
            have HV : Hid (riseI 0 is = false) := Lib.hid (by rw [HN2.out, hly, show decide (y < x) = false from decide_eq_false (by omega)]; rfl)
            clear hxy hly HN2
            go_wp2_with fail
            refine (HDx.out _).mono ?_
            rintro e w1 ⟨rfl, rfl⟩
            go_wp2
            go_ret
            exact ⟨retB HV.out.symm, rfl⟩
          · have e3 : decide (x ≤ y) = false := decide_eq_false hxy
            have HG : Hid (riseI 0 is = riseI (lastI is (kk + 1)) (is.drop (kk + 1)) ∧ 0 ≤ lastI is (kk + 1)) := Lib.hid ⟨by rw [HN2.out, HLx.out, hly, show decide (y < x) = true from decide_eq_true (by omega), Bool.true_and], by rw [HLx.out]; exact HP.out⟩
            clear hxy hly HN2
            go_wp2_with fail
            refine (HDx.out _).mono ?_
            rintro e w1 ⟨rfl, rfl⟩
            go_wp2
            go_round
            case rel => exact ⟨kk + 1, hk1, by go_num, HG⟩
            case measure => simp [intOf] <;> omega
    · obtain rfl : k = n := by omega
      have HV : Hid (riseI 0 is = true) := Lib.hid (by rw [HC.out.1, ← HL.out, List.drop_length]; rfl)
      go_wp2
      go_ret
      exact ⟨retB HV.out.symm, rfl⟩

end Go.Proofs.Ytfgabmelmopgdaa
