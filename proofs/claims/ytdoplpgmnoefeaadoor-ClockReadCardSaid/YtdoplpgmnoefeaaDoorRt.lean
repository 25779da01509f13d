/-
  The contract of the document's own text of a time. No statement is proved here.
-/
import Derived.Test.YtdoplpgmnoefeaaDoorPa
import Derived.Test.YtdoplpgmnoefeaaDoorBl
import Derived.Laws.IdiomStrings
namespace Go.Proofs.YtdoplpgmnoefeaaDoor
open Go.RowKit

theorem encode_small {n : Nat} (h : n < 128) : Utf8.encode (n : Int) = ⟨#[UInt8.ofNat n]⟩ := by
  have hv : Utf8.valid (n : Int) = true := by simp [Utf8.valid]; omega
  unfold Utf8.encode
  simp [hv, h]

/-- the digit of r at place k of nine -/
def dgI (r k : Nat) : Nat := 48 + r / 10 ^ (8 - k) % 10
theorem dgI_lt (r k : Nat) : dgI r k ≤ 57 := by unfold dgI; omega
theorem pad_digits {r : Nat} (h : r < 1000000000) {P : List UInt8} (hP : Lib.decDigits (1000000000 + r) = 49 :: P) (k : Nat) (hk : k < 9) : P[k]? = some (UInt8.ofNat (dgI r k)) := by
  have e : P = (Lib.decDigits (1000000000 + r)).drop 1 := by rw [hP]; rfl
  rw [e, List.getElem?_drop, Lib.decDigits_eq, show Lib.nDigits (1000000000 + r) = 10 from Lib.nDigits_unique 9 _ (by omega) (by omega), List.getElem?_map, List.getElem?_range (by omega)]
  simp only [Option.map_some, Option.some.injEq]
  unfold Lib.dg dgI
  have : (1000000000 + r) / 10 ^ (10 - 1 - (1 + k)) % 10 = r / 10 ^ (8 - k) % 10 := by
    have hk' : k = 0 ∨ k = 1 ∨ k = 2 ∨ k = 3 ∨ k = 4 ∨ k = 5 ∨ k = 6 ∨ k = 7 ∨ k = 8 := by omega
    rcases hk' with rfl | rfl | rfl | rfl | rfl | rfl | rfl | rfl | rfl <;> simp <;> omega
  rw [this]
theorem frac_take {r m : Nat} (h : r < 1000000000) (hm : m ≤ 9) (hb : ∀ k, m ≤ k → k < 9 → dgI r k = 48) (hl : 0 < m → dgI r (m - 1) ≠ 48) :
    (fracL r).length = m ∧ ∀ k, k < m → (fracL r)[k]? = some (UInt8.ofNat (dgI r k)) := by
  obtain ⟨P, hP, h9, hd, hv⟩ := pad_facts h
  have hf : fracL r = Lib.trimRightB P 48 := by unfold fracL; rw [hP]; rfl
  have hg := pad_digits h hP
  have ht : Lib.trimRightB P 48 = P.take m := Lib.trimRightB_take P 48 m (by omega)
    (fun j b hj hb' => by
      have hj9 : j < 9 := by have := (List.getElem?_eq_some_iff.1 hb').1; omega
      rw [hg j hj9, hb j hj hj9] at hb'
      exact (Option.some.inj hb').symm)
    (fun b h0 hb' => by
      rw [hg (m - 1) (by omega)] at hb'
      have e := Option.some.inj hb'
      intro e2
      rw [e2] at e
      have := congrArg UInt8.toNat e
      rw [UInt8.toNat_ofNat'] at this
      have h57 := dgI_lt r (m - 1)
      have := hl h0
      simp at *
      omega)
  rw [hf, ht]
  refine ⟨by rw [List.length_take]; omega, fun k hk => ?_⟩
  rw [List.getElem?_take_of_lt hk]
  exact hg k (by omega)
theorem some_digit {r : Nat} (h0 : 0 < r) (h : r < 1000000000) (hall : ∀ k, 1 ≤ k → k < 9 → dgI r k = 48) : dgI r 0 ≠ 48 := by
  intro e
  obtain ⟨l, _⟩ := frac_take (m := 0) h (by omega) (fun k _ hk => by
    rcases Nat.eq_zero_or_pos k with rfl | hk0
    · exact e
    · exact hall k hk0 hk) (fun hh => absurd hh (by omega))
  have := (frac_facts h0 h).2.2.1
  exact this (List.length_eq_zero_iff.1 l)

set_option maxHeartbeats 4000000 in
set_option maxRecDepth 100000 in
theorem rtext_any (t : Nat) (ht : t ≤ 1125899906842624) (w : World) : Calls Tryd.prog 27 #[.int .i64 (t : Int)] w fun e w' => e = .returned (.string ⟨(txt t).toArray⟩) ∧ Below w.heap.size w w' := by
  have b1 : (t : Int) ≤ 1125899906842624 := by omega
  go_enter Tryd.func27, Tryd.ntmps27
  go_wp2_with fail
  go_loop [3, 5] (fun s x => ∃ (y : Nat) (S : ByteArray), y < 10000000 ∧ S.size ≤ 8 ∧ x = .int .i64 (y : Int) ∧ s = .string S ∧ Lib.decDigits (t / 1000000000) = Lib.decDigits y ++ S.data.toList) (fun _ x => (intOf x).toNat)
  case atStart => exact ⟨t / 1000000000, ⟨#[]⟩, by omega, by decide, rfl, rfl, by simp⟩
  case round =>
    obtain ⟨y, S, hy, hS, rfl, rfl, hd⟩ := hrel
    obtain ⟨E, hE⟩ : ∃ E : ByteArray, Utf8.encode (48 + (y : Int) % 10) = E := ⟨_, rfl⟩
    have hE2 : E = ⟨#[UInt8.ofNat (48 + y % 10)]⟩ := by
      rw [← hE, ← encode_small (by omega)]
      congr 1
    have hEs : E.size = 1 := by rw [hE2]; rfl
    have hEl : E.data.toList = [UInt8.ofNat (48 + y % 10)] := by rw [hE2]
    have hES : (E ++ S).data.toList = UInt8.ofNat (48 + y % 10) :: S.data.toList := by rw [ByteArray.data_append, Array.toList_append, hEl]; rfl
    have hESs : (E ++ S).size = S.size + 1 := by rw [Lib.size_eq, hES, List.length_cons, ← Lib.size_eq]
    have hlen : (Lib.decDigits y).length + S.size ≤ 8 := by
      have h1 := dec_short (n := t / 1000000000) (by omega)
      rw [hd, List.length_append, ← Lib.size_eq] at h1
      exact h1
    have n1 : ¬ ((9223372036854775807 : Int) < (E.size : Int) + (S.size : Int)) := by omega
    have hlen1 : 1 ≤ (Lib.decDigits y).length := by rw [Lib.decDigits_length]; exact Lib.nDigits_pos y
    by_cases h10 : y < 10
    · have HD : Hid (Lib.decDigits (t / 1000000000) = (E ++ S).data.toList) := Lib.hid (by rw [hd, dec_small h10, hES, show y % 10 = y by omega]; rfl)
      have hESs8 : (E ++ S).size ≤ 8 := by omega
      obtain ⟨T, hT⟩ : ∃ T, E ++ S = T := ⟨_, rfl⟩
      rw [hT] at HD hESs8
      have h10' : ((y : Int) < 10) := by omega
      clear hd hE2 hEs hEl hES hESs hlen hlen1
      by_cases hz : t % 1000000000 = 0
      · have hz' : (t : Int) % 1000000000 = 0 := by omega
        have HE : Hid ((⟨(txt t).toArray⟩ : ByteArray) = T) := Lib.hid (by rw [show txt t = Lib.decDigits (t / 1000000000) from if_pos hz, HD.out])
        clear hz HD
        go_wp2
        go_ret
        exact ⟨by rw [HE.out]; rfl, Below.refl _ _⟩
      · have hz' : ((t : Int) % 1000000000 == 0) = false := by simp; omega
        have hz0 : 0 < t % 1000000000 := by omega
        have hz1 : t % 1000000000 < 1000000000 := by omega
        have HR : Hid ((t : Int) % 1000000000 = ((t % 1000000000 : Nat) : Int)) := Lib.hid (by omega)
        have HE : Hid (txt t = T.data.toList ++ (46 :: fracL (t % 1000000000))) := Lib.hid (by rw [show txt t = Lib.decDigits (t / 1000000000) ++ (46 :: fracL (t % 1000000000)) from if_neg hz, HD.out])
        generalize hrr : t % 1000000000 = r at hz0 hz1 HR HE
        have HZ0 := Lib.hid hz0
        have HZ1 := Lib.hid hz1
        clear hz HD hrr hz0 hz1 ht
        go_wp2_with fail
        go_loopw [4, 7] (fun rest i wr => ∃ (j : Nat) (cs : Array Value), j ≤ 9 ∧ (∃ i0 : Int, i = .int .i64 i0 ∧ i0 = (j : Int) - 1) ∧ rest = .int .i64 ((r / 10 ^ (9 - j) : Nat) : Int) ∧ Blk wr w.heap.size 55 cs ∧ cs.size = 9 ∧ (∀ k, j ≤ k → k < 9 → cs[k]? = some (.int .u8 (dgI r k : Int))) ∧ Below w.heap.size w wr) (fun _ i _ => ((intOf i) + 1).toNat)
        case atStart => exact ⟨9, _, by omega, ⟨8, rfl, by omega⟩, by rw [HR.out]; simp, Blk.new _ _ _, rfl, fun k h1 h2 => by omega, (Below.refl _ _).alloc (Nat.le_refl _) _⟩
        case round =>
          obtain ⟨j, cs, hj, ⟨i0, rfl, hi0⟩, rfl, hBk, hcs, hdg, hB⟩ := hrel
          rcases j with _ | m
          · obtain rfl : i0 = -1 := by omega
            have HC := Lib.hid (fun k (hk : k < 9) => (hBk.cell k).trans (hdg k (by omega) hk))
            have hsz := hB.size
            clear hdg hBk hcs hi0 hj
            go_wp2_with fail
            go_loop [8] (fun nn => ∃ q : Nat, q ≤ 8 ∧ nn = .int .i64 ((q : Int) + 1) ∧ ∀ k, q + 1 ≤ k → k < 9 → dgI r k = 48) (fun nn => (intOf nn).toNat)
            case atStart => exact ⟨8, by omega, rfl, fun k h1 h2 => by omega⟩
            case round =>
              obtain ⟨q, hq8, rfl, hall⟩ := hrel
              have HA := Lib.hid hall
              have hcq := HC.out q (by omega)
              clear hall
              by_cases hq : dgI r q = 48
              · rw [hq] at hcq
                have hq1 : 1 ≤ q := by
                  rcases Nat.eq_zero_or_pos q with rfl | h
                  · exact absurd hq (some_digit HZ0.out HZ1.out (fun k h1 h2 => HA.out k (by omega) h2))
                  · exact h
                have HA2 : Hid (∀ k, q ≤ k → k < 9 → dgI r k = 48) := Lib.hid (fun k h1 h2 => by
                  rcases Nat.lt_or_ge q k with h | h
                  · exact HA.out k h h2
                  · obtain rfl : k = q := by omega
                    exact hq)
                clear hq
                go_wp2
                go_round
                case rel =>
                  obtain ⟨p, rfl⟩ : ∃ p, q = p + 1 := ⟨q - 1, by omega⟩
                  exact ⟨p, by omega, by go_num, HA2.out⟩
                case measure => simp [intOf]
              · obtain ⟨fl, fg⟩ := frac_take (m := q + 1) HZ1.out (by omega) HA.out (fun _ => hq)
                have hqn : (((dgI r q : Nat) : Int) == 48) = false := by simp; omega
                have HV : (convert 56 9 (.slice (some ⟨w.heap.size, 0, none⟩) (q + 1) 9)).run Tryd.prog wr = .ok (.string ⟨(fracL r).toArray⟩) wr := by
                  rw [← fl]
                  refine run_convert_bytes_back wr _ _ _ _ _ _ Tryd.underlying56 Tryd.underlying5 Tryd.underlying9 (fun k hk => ?_)
                  have h1 := fg k (by omega)
                  rw [List.getElem?_eq_getElem hk] at h1
                  have h2 := Option.some.inj h1
                  have h3 := HC.out k (by omega)
                  rw [h2]
                  have h57 := dgI_lt r k
                  have e : (UInt8.ofNat (dgI r k)).toNat = dgI r k := by rw [UInt8.toNat_ofNat']; omega
                  rw [e]
                  have ea : (⟨w.heap.size, 0, none⟩ : Addr).add k = ⟨w.heap.size, k, none⟩ := by unfold Addr.add; split <;> simp_all
                  rw [ea]
                  exact h3
                obtain ⟨F, hF⟩ : ∃ F : ByteArray, (⟨(fracL r).toArray⟩ : ByteArray) = F := ⟨_, rfl⟩
                have hFl : F.data.toList = fracL r := by rw [← hF]
                have hFs : F.size = q + 1 := by rw [Lib.size_eq, hFl, fl]
                rw [hF] at HV
                have m1 : ¬ ((9223372036854775807 : Int) < (T.size : Int) + 1) := by omega
                have m2 : ¬ ((9223372036854775807 : Int) < (T.size : Int) + 1 + (F.size : Int)) := by omega
                have HEE : Hid ((⟨(txt t).toArray⟩ : ByteArray) = T ++ ⟨#[46]⟩ ++ F) := Lib.hid (by
                  rw [HE.out]
                  apply str_of
                  simp [ByteArray.data_append, hFl])
                have e1 : (q : Int) + 1 ≤ 9 := by omega
                have e0 : 0 ≤ (q : Int) + 1 := by omega
                have e3 : ((q : Int) + 1).toNat = q + 1 := by omega
                clear hq fl fg hF hFl hFs HE
                go_wp2
                go_ret
                refine ⟨?_, hB⟩
                rw [HEE.out]
                rfl
          · obtain rfl : i0 = (m : Int) := by omega
            obtain ⟨v, hv⟩ : ∃ v, cs[m]? = some v := ⟨_, Array.getElem?_eq_getElem (by omega)⟩
            have hcell := (hBk.cell m).trans hv
            have hfr := hBk.frozen m
            have hsz := hB.size
            obtain ⟨X, hX⟩ : ∃ X, r / 10 ^ (9 - (m + 1)) = X := ⟨_, rfl⟩
            have hX2 : r / 10 ^ (9 - m) = X / 10 := by
              rw [← hX, Nat.div_div_eq_div_mul, show 9 - m = (9 - (m + 1)) + 1 by omega, Nat.pow_succ]
            have hdm : dgI r m = 48 + X % 10 := by unfold dgI; rw [← hX, show 8 - m = 9 - (m + 1) by omega]
            have HN := Lib.hid (show ∀ k, m ≤ k → k < 9 → (cs.setIfInBounds m (.int .u8 (48 + (X : Int) % 10)))[k]? = some (.int .u8 (dgI r k : Int)) from fun k h1 h2 => by
              rw [Array.getElem?_setIfInBounds]
              by_cases hk : m = k
              · subst hk
                rw [if_pos rfl, if_pos (by omega), hdm]
                simp
              · rw [if_neg hk]
                exact hdg k (by omega) h2)
            have HX2 := Lib.hid hX2
            have HXb : Hid (X ≤ r) := Lib.hid (by rw [← hX]; exact Nat.div_le_self _ _)
            have hXi : (X : Int) < 1000000000 := by have := HXb.out; have := HZ1.out; omega
            have HBk := Lib.hid hBk
            clear hv hdg hX2 hdm hi0
            simp only [hX]
            go_wp2
            go_roundw
            case rel => exact ⟨m, _, by omega, ⟨_, rfl, by omega⟩, by rw [HX2.out]; go_num, HBk.out.set_ m _, by simp [hcs], HN.out, hB.setCell (Nat.le_refl _) _⟩
            case measure => simp [intOf]
    · have HD : Hid (Lib.decDigits (t / 1000000000) = Lib.decDigits (y / 10) ++ (E ++ S).data.toList) := Lib.hid (by rw [hd, dec_big h10, hES, List.append_assoc]; rfl)
      have HS : Hid ((E ++ S).size ≤ 8) := Lib.hid (by omega)
      have h10' : ¬ ((y : Int) < 10) := by omega
      clear hd hE2 hEs hEl hES hESs hlen hlen1
      go_wp2
      go_round
      case rel => exact ⟨y / 10, E ++ S, by omega, HS.out, by go_num, rfl, HD.out⟩
      case measure => simp [intOf]; omega

end Go.Proofs.YtdoplpgmnoefeaaDoor
