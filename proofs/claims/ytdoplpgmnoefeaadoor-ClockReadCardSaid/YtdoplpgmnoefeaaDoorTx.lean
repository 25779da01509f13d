/-
  The contract of Text: the seconds, and behind a point the nanoseconds without the noughts behind. No statement is proved here.
-/
import Derived.Test.YtdoplpgmnoefeaaDoorCs
import Derived.Test.YtdoplpgmnoefeaaDoorShelf
import Derived.Lib.LaidTab
import Derived.ShutString
namespace Go.Proofs.YtdoplpgmnoefeaaDoor
open Go.RowKit

/-- the table of powers of ten lies as its initialiser laid it -/
def Tab (w : World) : Prop := Lib.TabIs Tryd.prog w "internal/strconv.uint64pow10" .u64 Lib.pow10Tab
theorem Tab.below {w w' : World} (h : Tab w) (hb : Below w.heap.size w w') : Tab w' := by
  unfold Tab Lib.TabIs World.var? at *
  cases hg : Tryd.prog.globalNamed "internal/strconv.uint64pow10" with
  | none => rw [hg] at h; simp at h
  | some g =>
    simp only [hg, Option.bind_some] at h ⊢
    have hlt : g < w.heap.size := by
      rcases Nat.lt_or_ge g w.heap.size with h' | h'
      · exact h'
      · rw [Array.getElem?_eq_none h'] at h; simp at h
    rw [hb.block g hlt]
    exact h
theorem below_grow (w : World) (q : Nat) (os : Array Obj) : Below w.heap.size w (Sort.grow (w.drewN q) os) :=
  ⟨rfl, rfl, rfl, by simp [Sort.grow], fun k hk => by simp [Sort.grow, Array.getElem?_append_left hk]⟩

/-- the text of a time -/
def fracL (r : Nat) : List UInt8 := Lib.trimRightB ((Lib.decDigits (1000000000 + r)).drop 1) 48
def txt (t : Nat) : List UInt8 := if t % 1000000000 = 0 then Lib.decDigits (t / 1000000000) else Lib.decDigits (t / 1000000000) ++ (46 :: fracL (t % 1000000000))

/-- a text, no error; what was there has not turned -/
def Says (l : List UInt8) (no : Int) (w : World) (e : Ending) (w' : World) : Prop := e = .returned (.tuple #[.string ⟨l.toArray⟩, .int .i64 no]) ∧ Below w.heap.size w w'

theorem format_any (n : Nat) (hn : (n : Int) ≤ 9223372036854775807) (w : World) (hT : Tab w) :
    Calls Tryd.prog 33 #[.int .i64 (n : Int), .int .i64 10] w fun e w' => e = .returned (.string ⟨(Lib.decDigits n).toArray⟩) ∧ Below w.heap.size w w' :=
  (Tryd.strconv_FormatInt_10 (n : Int) (by omega) hn w hT).mono fun e w' ⟨he, k, os, hw⟩ => by
    subst hw
    refine ⟨?_, below_grow _ _ _⟩
    rw [he]
    unfold Lib.itoa
    rw [if_neg (by omega)]
    simp

set_option maxHeartbeats 400000 in
theorem text_bad (t : Int) (w : World) (h : rt t = false) : Calls Tryd.prog 26 #[.int .i64 t] w (Says [] 120 w) := by
  have HC := check_any t w
  rw [show chk [t] = 120 by simp [chk, h]] at HC
  have HC := Lib.hid HC
  clear h
  go_enter Tryd.func26, Tryd.ntmps26
  go_wp2_with fail
  refine HC.out.mono ?_
  rintro e w1 ⟨rfl, hB⟩
  go_wp2
  go_ret2
  exact ⟨rfl, hB⟩

theorem dec_len {n : Nat} (h0 : 1000000000 ≤ n) (h1 : n < 10000000000) : (Lib.decDigits n).length = 10 := by
  rw [Lib.decDigits_length]
  exact Lib.nDigits_unique 9 n (by simpa using h0) (by simpa using h1)

theorem nd_le : ∀ (k n : Nat), n < 10 ^ (k + 1) → Lib.nDigits n ≤ k + 1
  | 0, n, h => by rw [Lib.nDigits_small (by simpa using h)]; omega
  | k + 1, n, h => by
    by_cases h10 : n < 10
    · rw [Lib.nDigits_small h10]; omega
    · rw [Lib.nDigits_big h10]
      have := nd_le k (n / 10) (by rw [Nat.pow_succ] at h; omega)
      omega
theorem dec_short {n : Nat} (h1 : n < 100000000) : (Lib.decDigits n).length ≤ 8 := by
  rw [Lib.decDigits_length]
  exact nd_le 7 n (by simpa using h1)
theorem trim_le (l : List UInt8) (c : UInt8) : (Lib.trimRightB l c).length ≤ l.length := by
  unfold Lib.trimRightB
  have := (List.dropWhile_sublist (· == c) (l := l.reverse)).length_le
  simpa using this
theorem frac_short {r : Nat} (h : r < 1000000000) : (fracL r).length ≤ 9 := by
  have h1 := trim_le ((Lib.decDigits (1000000000 + r)).drop 1) 48
  have h2 := dec_len (n := 1000000000 + r) (by omega) (by omega)
  unfold fracL
  simp only [List.length_drop] at h1
  omega

set_option maxHeartbeats 1000000 in
theorem text_ok (t : Nat) (ht : t ≤ 1125899906842624) (w : World) (hT : Tab w) : Calls Tryd.prog 26 #[.int .i64 (t : Int)] w (Says (txt t) 0 w) := by
  have HC := check_any (t : Int) w
  rw [show chk [(t : Int)] = 0 from chk_ok (by simp [rt_mk (show (0 : Int) ≤ t by omega) (show (t : Int) ≤ 1125899906842624 by omega)])] at HC
  have HC := Lib.hid HC
  have HT := Lib.hid hT
  have F1 : Hid (∀ u, Tab u → Calls Tryd.prog 33 #[.int .i64 ((t : Int) / 1000000000), .int .i64 10] u fun e w' => e = .returned (.string ⟨(Lib.decDigits (t / 1000000000)).toArray⟩) ∧ Below u.heap.size u w') :=
    Lib.hid (fun u hu => format_any (t / 1000000000) (by omega) u hu)
  have F2 : Hid (∀ u, Tab u → Calls Tryd.prog 33 #[.int .i64 (1000000000 + (t : Int) % 1000000000), .int .i64 10] u fun e w' => e = .returned (.string ⟨(Lib.decDigits (1000000000 + t % 1000000000)).toArray⟩) ∧ Below u.heap.size u w') :=
    Lib.hid (fun u hu => by
      have h := format_any (1000000000 + t % 1000000000) (by omega) u hu
      have e : ((1000000000 + t % 1000000000 : Nat) : Int) = 1000000000 + (t : Int) % 1000000000 := by omega
      rwa [e] at h)
  clear hT
  have ht' : (t : Int) ≤ 1125899906842624 := by omega
  by_cases hz : t % 1000000000 = 0
  · have hz' : ((t : Int) % 1000000000 == 0) = true := by simp; omega
    have HE : Hid (txt t = Lib.decDigits (t / 1000000000)) := Lib.hid (if_pos hz)
    clear hz F2
    go_enter Tryd.func26, Tryd.ntmps26
    go_wp2_with fail
    refine HC.out.mono ?_
    rintro e w1 ⟨rfl, hB⟩
    go_wp2_with fail
    refine (F1.out _ (HT.out.below hB)).mono ?_
    rintro e w2 ⟨rfl, hB2⟩
    go_wp2
    go_ret2
    refine ⟨?_, hB.trans (hB2.mono hB.size)⟩
    rw [HE.out]
    rfl
  · have hz' : ((t : Int) % 1000000000 == 0) = false := by simp; omega
    have HE : Hid (txt t = Lib.decDigits (t / 1000000000) ++ (46 :: fracL (t % 1000000000))) := Lib.hid (if_neg hz)
    have hl2 := dec_len (n := 1000000000 + t % 1000000000) (by omega) (by omega)
    obtain ⟨D, hD⟩ : ∃ D : ByteArray, (⟨(Lib.decDigits (1000000000 + t % 1000000000)).toArray⟩ : ByteArray) = D := ⟨_, rfl⟩
    have hDs : D.size = 10 := by rw [← hD]; simp [ByteArray.size, hl2]
    have hDl : D.data.toList = Lib.decDigits (1000000000 + t % 1000000000) := by rw [← hD]
    rw [hD] at F2
    have h10 : 1 ≤ D.size := by omega
    have h11 : D.size ≤ 10 := by omega
    have HTr : Hid (∀ u, Calls Tryd.prog 34 #[.string (D.extract 1 D.size), .string ⟨#[48]⟩] u fun e w' => e = .returned (.string ⟨(fracL (t % 1000000000)).toArray⟩) ∧ u = w') := Lib.hid (fun u => by
      have h := Tryd.strings_TrimRight_one (D.extract 1 D.size) 48 (by decide) u (by rw [Lib.size_eq, Lib.extract_to_end, List.length_drop, ← Lib.size_eq]; omega)
      have e : (D.extract 1 D.size).data.toList = (Lib.decDigits (1000000000 + t % 1000000000)).drop 1 := by
        rw [Lib.extract_to_end, hDl]
      rw [e] at h
      exact h.mono fun e w' ⟨he, hw⟩ => ⟨he, hw.symm⟩)
    obtain ⟨S, hS⟩ : ∃ S : ByteArray, (⟨(Lib.decDigits (t / 1000000000)).toArray⟩ : ByteArray) = S := ⟨_, rfl⟩
    obtain ⟨R, hR⟩ : ∃ R : ByteArray, (⟨(fracL (t % 1000000000)).toArray⟩ : ByteArray) = R := ⟨_, rfl⟩
    have hSs : S.size ≤ 8 := by rw [← hS]; simpa [ByteArray.size] using dec_short (n := t / 1000000000) (by omega)
    have hRs : R.size ≤ 9 := by rw [← hR]; simpa [ByteArray.size] using frac_short (r := t % 1000000000) (by omega)
    have n1 : ¬ ((9223372036854775807 : Int) < (S.size : Int) + 1) := by omega
    have n2 : ¬ ((9223372036854775807 : Int) < (S.size : Int) + 1 + (R.size : Int)) := by omega
    have HEE : Hid ((⟨(txt t).toArray⟩ : ByteArray) = S ++ ⟨#[46]⟩ ++ R) := Lib.hid (by
      rw [HE.out, ← hS, ← hR]
      apply ByteArray.ext
      simp [ByteArray.data_append])
    rw [hS] at F1
    rw [hR] at HTr
    clear hz hl2 hD hDs hDl HE hS hR
    go_enter Tryd.func26, Tryd.ntmps26
    go_wp2_with fail
    refine HC.out.mono ?_
    rintro e w1 ⟨rfl, hB⟩
    go_wp2_with fail
    refine (F1.out _ (HT.out.below hB)).mono ?_
    rintro e w2 ⟨rfl, hB2⟩
    have hb2 := hB.trans (hB2.mono hB.size)
    clear hB hB2
    go_wp2_with fail
    refine (F2.out _ (HT.out.below hb2)).mono ?_
    rintro e w3 ⟨rfl, hB3⟩
    have hb3 := hb2.trans (hB3.mono hb2.size)
    clear hb2 hB3
    go_wp2_with fail
    refine (HTr.out _).mono ?_
    rintro e w' ⟨rfl, rfl⟩
    go_wp2
    go_ret2
    refine ⟨?_, hb3⟩
    rw [HEE.out]
    rfl

end Go.Proofs.YtdoplpgmnoefeaaDoor
