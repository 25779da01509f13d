/-
  The contract of the landed readRow. No statement is proved here.
-/
import Derived.Test.YtbmlhodglemplaaDoorCi
namespace Go.Proofs.YtbmlhodglemplaaDoor
open Go.RowKit

set_option maxRecDepth 100000 in
set_option maxHeartbeats 2000000 in
theorem readRow_any (T : ByteArray) (w : World) (hs : T.size ≤ 1000) (hG : Gd w) : Calls Tryd.prog 53 #[.string T] w (RowP (rowV T.data.toList) w) := by
  have HC := Lib.hid (cut_any 45 T hs w)
  have HG := Lib.hid hG
  obtain ⟨P, hP⟩ : ∃ P, pointed 45 T.data.toList = P := ⟨_, rfl⟩
  obtain ⟨F, hF⟩ : ∃ F : ByteArray, (⟨(ahead 45 T.data.toList).toArray⟩ : ByteArray) = F := ⟨_, rfl⟩
  obtain ⟨U, hU⟩ : ∃ U : ByteArray, (⟨(if P = true then rear 45 T.data.toList else ahead 45 T.data.toList).toArray⟩ : ByteArray) = U := ⟨_, rfl⟩
  have hFs : F.size ≤ 1000 := by rw [← hF, size_mk]; have := ahead_le 45 T.data.toList; rw [← Lib.size_eq] at this; omega
  have hUs : U.size ≤ 1000 := by
    rw [← hU, size_mk]
    have h1 := ahead_le 45 T.data.toList
    have h2 := rear_le 45 T.data.toList
    rw [← Lib.size_eq] at h1 h2
    split <;> omega
  have HF := Lib.hid (fun u hu => num_any F u hFs hu)
  have HU := Lib.hid (fun u hu => num_any U u hUs hu)
  obtain ⟨a, ha⟩ : ∃ a, numV F.data.toList = a := ⟨_, rfl⟩
  obtain ⟨b, hb⟩ : ∃ b, numV U.data.toList = b := ⟨_, rfl⟩
  obtain ⟨O, hO⟩ : ∃ O, rowV T.data.toList = O := ⟨_, rfl⟩
  have hO2 : mkRow F.data.toList U.data.toList = O := by
    rw [← hO, ← hF, ← hU, ← hP]
    rfl
  have HO : Hid ((∀ x y, a = some x → b = some y → O = some (bitsR x y)) ∧ (a = none ∨ b = none → O = none)) := Lib.hid (by
    rw [← hO2]
    unfold mkRow
    rw [ha, hb]
    refine ⟨?_, ?_⟩
    · rintro x y rfl rfl; rfl
    · rintro (rfl | rfl)
      · rfl
      · cases a <;> rfl)
  have HA : Hid (∀ x, a = some x → x < 8) := Lib.hid (fun x h => num_lt (by rw [ha, h]))
  have HB : Hid (∀ x, b = some x → x < 8) := Lib.hid (fun x h => num_lt (by rw [hb, h]))
  rw [ha] at HF
  rw [hb] at HU
  rw [hO]
  unfold Cut3 at HC
  rw [hF, hP] at HC
  have HX : Hid ((P = true → (⟨(rear 45 T.data.toList).toArray⟩ : ByteArray) = U) ∧ (P = false → F = U)) := Lib.hid ⟨fun h => by rw [← hU, if_pos h], fun h => by rw [← hU, if_neg (by rw [h]; decide), hF]⟩
  generalize (⟨(rear 45 T.data.toList).toArray⟩ : ByteArray) = R at *
  clear hF hU hP hFs hUs ha hb hO hO2 hG hs
  cases P with
  | true =>
    obtain rfl := HX.out.1 rfl
    clear HX
    go_enter Tryd.func53, Tryd.ntmps53
    go_wp2_with fail
    refine HC.out.mono ?_
    rintro e w1 ⟨rfl, hB1⟩
    have hG1 := HG.out.below hB1
    go_wp2_with fail
    refine (HF.out _ hG1).mono ?_
    rintro e w2 ⟨hf1, hf2, hB2⟩
    have hB12 := hB1.trans (hB2.mono hB1.size)
    have hG2 := hG1.below hB2
    clear hB1 hB2 hG1
    cases a with
    | none =>
      obtain ⟨x, rfl⟩ := hf2 rfl
      have HV := Lib.hid (HO.out.2 (.inl rfl))
      clear hf1 hf2
      go_wp2_with fail
      refine (HU.out _ hG2).mono ?_
      rintro e w3 ⟨hg1, hg2, hB3⟩
      have hB := hB12.trans (hB3.mono hB12.size)
      clear hB12 hB3 hG2
      obtain ⟨y, c, rfl⟩ : ∃ (y : Int) (c : Bool), e = .returned (.tuple #[.int .i64 y, .bool c]) := by
        cases b with
        | none => obtain ⟨y, h⟩ := hg2 rfl; exact ⟨y, _, h⟩
        | some n => exact ⟨_, _, hg1 n rfl⟩
      clear hg1 hg2
      go_wp2
      go_ret2
      rw [HV.out]
      exact rowP_none hB
    | some x =>
      obtain rfl := hf1 x rfl
      clear hf1 hf2
      have hx := HA.out x rfl
      go_wp2_with fail
      refine (HU.out _ hG2).mono ?_
      rintro e w3 ⟨hg1, hg2, hB3⟩
      have hB := hB12.trans (hB3.mono hB12.size)
      clear hB12 hB3 hG2
      cases b with
      | none =>
        obtain ⟨y, rfl⟩ := hg2 rfl
        have HV := Lib.hid (HO.out.2 (.inr rfl))
        clear hg1 hg2 hx
        go_wp2
        go_ret2
        rw [HV.out]
        exact rowP_none hB
      | some y =>
        obtain rfl := hg1 y rfl
        have HV := Lib.hid (HO.out.1 x y rfl rfl)
        have hy := HB.out y rfl
        have hr := (bitsR_facts hx hy).1
        have H1 := Lib.hid (fun u => below_any ((y : Int) + 1) u (by omega) (by omega))
        have H2 := Lib.hid (fun u => below_any (x : Int) u (by omega) (by omega))
        rw [show ((y : Int) + 1).toNat = y + 1 by omega] at H1
        rw [Int.toNat_natCast] at H2
        have w1 : IntKind.i64.wrap ((y : Int) + 1) = (y : Int) + 1 := by rw [IntKind.wrap_i64]; omega
        generalize (2 : Int) ^ (y + 1) - 1 = Y at *
        generalize (2 : Int) ^ x - 1 = X at *
        generalize bitsR x y = Z at *
        clear hg1 hg2 hx hy
        go_wp2_with fail
        refine (H1.out _).mono ?_
        rintro e w' ⟨rfl, rfl⟩
        go_wp2_with fail
        refine (H2.out _).mono ?_
        rintro e w' ⟨rfl, rfl⟩
        go_wp2
        go_ret2
        rw [HV.out]
        exact rowP_some hB
  | false =>
    obtain rfl := HX.out.2 rfl
    clear HX
    go_enter Tryd.func53, Tryd.ntmps53
    go_wp2_with fail
    refine HC.out.mono ?_
    rintro e w1 ⟨rfl, hB1⟩
    have hG1 := HG.out.below hB1
    go_wp2_with fail
    refine (HF.out _ hG1).mono ?_
    rintro e w2 ⟨hf1, hf2, hB2⟩
    have hB12 := hB1.trans (hB2.mono hB1.size)
    have hG2 := hG1.below hB2
    clear hB1 hB2 hG1
    cases a with
    | none =>
      obtain ⟨x, rfl⟩ := hf2 rfl
      have HV := Lib.hid (HO.out.2 (.inl rfl))
      clear hf1 hf2
      go_wp2_with fail
      refine (HU.out _ hG2).mono ?_
      rintro e w3 ⟨hg1, hg2, hB3⟩
      have hB := hB12.trans (hB3.mono hB12.size)
      clear hB12 hB3 hG2
      obtain ⟨y, c, rfl⟩ : ∃ (y : Int) (c : Bool), e = .returned (.tuple #[.int .i64 y, .bool c]) := by
        cases b with
        | none => obtain ⟨y, h⟩ := hg2 rfl; exact ⟨y, _, h⟩
        | some n => exact ⟨_, _, hg1 n rfl⟩
      clear hg1 hg2
      go_wp2
      go_ret2
      rw [HV.out]
      exact rowP_none hB
    | some x =>
      obtain rfl := hf1 x rfl
      clear hf1 hf2
      have hx := HA.out x rfl
      go_wp2_with fail
      refine (HU.out _ hG2).mono ?_
      rintro e w3 ⟨hg1, hg2, hB3⟩
      have hB := hB12.trans (hB3.mono hB12.size)
      clear hB12 hB3 hG2
      cases b with
      | none =>
        obtain ⟨y, rfl⟩ := hg2 rfl
        have HV := Lib.hid (HO.out.2 (.inr rfl))
        clear hg1 hg2 hx
        go_wp2
        go_ret2
        rw [HV.out]
        exact rowP_none hB
      | some y =>
        obtain rfl := hg1 y rfl
        have HV := Lib.hid (HO.out.1 x y rfl rfl)
        have hy := HB.out y rfl
        have hr := (bitsR_facts hx hy).1
        have H1 := Lib.hid (fun u => below_any ((y : Int) + 1) u (by omega) (by omega))
        have H2 := Lib.hid (fun u => below_any (x : Int) u (by omega) (by omega))
        rw [show ((y : Int) + 1).toNat = y + 1 by omega] at H1
        rw [Int.toNat_natCast] at H2
        have w1 : IntKind.i64.wrap ((y : Int) + 1) = (y : Int) + 1 := by rw [IntKind.wrap_i64]; omega
        generalize (2 : Int) ^ (y + 1) - 1 = Y at *
        generalize (2 : Int) ^ x - 1 = X at *
        generalize bitsR x y = Z at *
        clear hg1 hg2 hx hy
        go_wp2_with fail
        refine (H1.out _).mono ?_
        rintro e w' ⟨rfl, rfl⟩
        go_wp2_with fail
        refine (H2.out _).mono ?_
        rintro e w' ⟨rfl, rfl⟩
        go_wp2
        go_ret2
        rw [HV.out]
        exact rowP_some hB

def readV : Nat → List UInt8 → Nat → Option Nat
  | 0, _, _ => none
  | f + 1, l, s => match rowV (ahead 44 l) with
    | none => none
    | some r => if pointed 44 l = true then readV f (rear 44 l) (s ||| r) else some (s ||| r)
theorem read_bad {f s : Nat} {l : List UInt8} (h : rowV (ahead 44 l) = none) : readV (f + 1) l s = none := by
  unfold readV; rw [h]
theorem read_on {f s r : Nat} {l : List UInt8} (h : rowV (ahead 44 l) = some r) (hp : pointed 44 l = true) : readV (f + 1) l s = readV f (rear 44 l) (s ||| r) := by
  conv => lhs; unfold readV
  rw [h]
  exact if_pos hp
theorem read_off {f s r : Nat} {l : List UInt8} (h : rowV (ahead 44 l) = some r) (hp : pointed 44 l = false) : readV (f + 1) l s = some (s ||| r) := by
  conv => lhs; unfold readV
  rw [h]
  exact if_neg (by rw [hp]; decide)
theorem or_lt {s r : Nat} (h1 : s < 256) (h2 : r < 256) : s ||| r < 256 := Nat.or_lt_two_pow (n := 8) h1 h2
theorem read_lt : ∀ {f s n : Nat} {l : List UInt8}, s < 256 → readV f l s = some n → n < 256
  | 0, _, _, _, _, h => by cases h
  | f + 1, s, n, l, hs, h => by
    cases hr : rowV (ahead 44 l) with
    | none => rw [read_bad hr] at h; cases h
    | some r =>
      have hlt := or_lt hs (row_lt hr)
      cases hp : pointed 44 l with
      | true => rw [read_on hr hp] at h; exact read_lt hlt h
      | false =>
        rw [read_off hr hp] at h
        injection h with h
        omega

/-- what is left of a text, and whether there is more -/
def leftT : Value → Value → Nat
  | .string T, .bool true => T.size + 1
  | _, _ => 0

set_option maxRecDepth 100000 in
set_option maxHeartbeats 2000000 in
theorem read_any (T : ByteArray) (w : World) (hs : T.size ≤ 1000) (hG : Gd w) : Calls Tryd.prog 44 #[.string T] w (RowP (readV (T.size + 1) T.data.toList 0) w) := by
  have HG := Lib.hid hG
  obtain ⟨V, hV⟩ : ∃ V, readV (T.size + 1) T.data.toList 0 = V := ⟨_, rfl⟩
  rw [hV]
  have HV := Lib.hid hV
  clear hV hG
  go_enter Tryd.func44, Tryd.ntmps44
  go_wp2_with fail
  go_loopw [0, 4, 5] (fun t v b wr => ∃ (U : ByteArray) (s f : Nat) (m : Bool), t = .string U ∧ v = .int .u32 (s : Int) ∧ b = .bool m ∧ s < 256 ∧ U.size ≤ 1000 ∧ (m = true → U.size < f ∧ V = readV f U.data.toList s) ∧ (m = false → V = some s) ∧ Below w.heap.size w wr) (fun t _ b _ => leftT t b)
  case atStart => exact ⟨T, 0, T.size + 1, true, rfl, rfl, rfl, by omega, hs, fun _ => ⟨by omega, HV.out.symm⟩, fun h => (by cases h), Below.refl _ _⟩
  case round =>
    obtain ⟨U, s, f, m, rfl, rfl, rfl, hs8, hU, h1, h2, hB⟩ := hrel
    cases m with
    | false =>
      have HE := Lib.hid (h2 rfl)
      clear h1 h2 HV hs8 hU
      go_wp2
      go_ret2
      rw [HE.out]
      exact rowP_some hB
    | true =>
      obtain ⟨hf, hE⟩ := h1 rfl
      clear h1 h2 HV
      obtain ⟨f, rfl⟩ : ∃ g, f = g + 1 := ⟨f - 1, by omega⟩
      have HC := Lib.hid (fun u => cut_any 44 U hU u)
      have HGr := Lib.hid (HG.out.below hB)
      obtain ⟨F, hF⟩ : ∃ F : ByteArray, (⟨(ahead 44 U.data.toList).toArray⟩ : ByteArray) = F := ⟨_, rfl⟩
      obtain ⟨R, hR⟩ : ∃ R : ByteArray, (⟨(rear 44 U.data.toList).toArray⟩ : ByteArray) = R := ⟨_, rfl⟩
      have hFl : F.data.toList = ahead 44 U.data.toList := by rw [← hF]
      have hRl : R.data.toList = rear 44 U.data.toList := by rw [← hR]
      have hFs : F.size ≤ 1000 := by rw [← hF, size_mk]; have := ahead_le 44 U.data.toList; rw [← Lib.size_eq] at this; omega
      have hRs : R.size ≤ 1000 := by rw [← hR, size_mk]; have := rear_le 44 U.data.toList; rw [← Lib.size_eq] at this; omega
      have hRf : pointed 44 U.data.toList = true → R.size < U.size := fun h => by rw [← hR, size_mk]; have := rear_lt h; rw [← Lib.size_eq] at this; exact this
      have HW := Lib.hid (fun u hu => readRow_any F u hFs hu)
      rw [hFl] at HW
      unfold Cut3 at HC
      rw [hF, hR] at HC
      cases hr : rowV (ahead 44 U.data.toList) with
      | none =>
        have HE : Hid (V = none) := Lib.hid (by rw [hE, read_bad hr])
        rw [hr] at HW
        generalize pointed 44 U.data.toList = Pt at *
        clear hE hr hFl hRl hFs hRs hRf hF hR hU hf hs8
        go_wp2_with fail
        refine (HC.out _).mono ?_
        rintro e w1 ⟨rfl, hB1⟩
        have hG1 := HGr.out.below hB1
        have hB2 := hB.trans (hB1.mono hB.size)
        clear hB hB1
        go_wp2_with fail
        refine (HW.out _ hG1).mono ?_
        rintro e w2 ⟨-, hn, hB3⟩
        obtain rfl := hn rfl
        have hB4 := hB2.trans (hB3.mono hB2.size)
        clear hB2 hB3 hn
        go_wp2
        go_ret2
        rw [HE.out]
        exact rowP_none hB4
      | some r =>
        have hr8 := row_lt hr
        have HO := Lib.hid (or_lt hs8 hr8)
        have ho : bits .or .u32 (s : Int) (r : Int) = ((s ||| r : Nat) : Int) := u32_or_nat s r (by omega) (by omega)
        have HN : Hid ((pointed 44 U.data.toList = true → R.size < f ∧ V = readV f R.data.toList (s ||| r)) ∧ (pointed 44 U.data.toList = false → V = some (s ||| r))) := Lib.hid
          ⟨fun h => ⟨by have := hRf h; omega, by rw [hE, read_on hr h, hRl]⟩, fun h => by rw [hE, read_off hr h]⟩
        have HM := Lib.hid hRf
        have HRs := Lib.hid hRs
        rw [hr] at HW
        generalize pointed 44 U.data.toList = Pt at *
        generalize s ||| r = o at *
        clear hE hr hFl hRl hFs hRs hRf hF hR hU hf hs8 hr8
        go_wp2_with fail
        refine (HC.out _).mono ?_
        rintro e w1 ⟨rfl, hB1⟩
        have hG1 := HGr.out.below hB1
        have hB2 := hB.trans (hB1.mono hB.size)
        clear hB hB1
        go_wp2_with fail
        refine (HW.out _ hG1).mono ?_
        rintro e w2 ⟨hn, -, hB3⟩
        obtain rfl := hn r rfl
        have hB4 := hB2.trans (hB3.mono hB2.size)
        clear hB2 hB3 hn
        go_wp2
        go_roundw
        case rel => exact ⟨R, o, f, Pt, rfl, by simp, rfl, HO.out, HRs.out, HN.out.1, HN.out.2, hB4⟩
        case measure =>
          cases Pt with
          | true => have := HM.out rfl; simp [leftT]; omega
          | false => simp [leftT]

end Go.Proofs.YtbmlhodglemplaaDoor
