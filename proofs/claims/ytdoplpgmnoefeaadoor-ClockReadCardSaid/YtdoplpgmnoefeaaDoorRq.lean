/-
  The document's own reading of a text: its walk. No statement is proved here.
-/
import Derived.Test.YtdoplpgmnoefeaaDoorRp
namespace Go.Proofs.YtdoplpgmnoefeaaDoor
open Go.RowKit

set_option maxHeartbeats 4000000 in
set_option maxRecDepth 100000 in
theorem rparse_any (s : ByteArray) (hs : s.size ≤ 1000) (w : World) : Calls Tryd.prog 29 #[.string s] w (RP s.data.toList w) := by
  by_cases h20 : s.size ≤ 20
  · have h20' : ¬ ((20 : Int) < (s.size : Int)) := by omega
    go_enter Tryd.func29, Tryd.ntmps29
    go_wp2_with fail
    go_loop [4, 5, 6, 7, 16] (fun wh re po af i => ∃ (k wv rv : Nat) (p : Bool) (a : Nat), k ≤ s.size ∧ i = .int .i64 k ∧ wh = .int .i64 (wv : Int) ∧ re = .int .i64 (rv : Int) ∧ po = .bool p ∧ af = .int .i64 (a : Int) ∧
      rfold (s.data.toList.take k) = some (wv, rv, p, a) ∧ wv ≤ 1125899906842629 ∧ rv < 10 ^ a ∧ a ≤ 9) (fun _ _ _ _ i => s.size - (intOf i).toNat)
    case atStart => exact ⟨0, 0, 0, false, 0, by omega, rfl, rfl, rfl, rfl, rfl, rfl, by omega, by decide, by omega⟩
    case round =>
      obtain ⟨k, wv, rv, p, a, hk, rfl, rfl, rfl, rfl, rfl, hf, hwv, hrv, ha⟩ := hrel
      have HF := Lib.hid hf
      have HRV := Lib.hid hrv
      have HWV := Lib.hid hwv
      have hwvI : (wv : Int) ≤ 1125899906842629 := by omega
      have hrvI : (rv : Int) < 1000000000 := by
        have h1 : 10 ^ a ≤ 10 ^ 9 := Nat.pow_le_pow_right (by omega) ha
        have h2 : (10 : Nat) ^ 9 = 1000000000 := by decide
        omega
      clear hf hrv hwv
      by_cases hlt : k < s.size
      · have hg := get_at s k hlt
        have HT := Lib.hid (fun st => rfold_take (st := st) hg)
        have HDd := Lib.hid (fun (hn : rstep (wv, rv, p, a) s[k] = none) => dead_no (rfold_dead hg HF.out hn))
        have HG := Lib.hid (rfl : s[k] = s[k])
        have hc0 : 0 ≤ (s[k].toNat : Int) := by omega
        by_cases c46 : s[k] = 46
        · have c46' : (s[k].toNat : Int) = 46 := by rw [c46]; rfl
          cases p with
          | false =>
            have HNx : Hid (rfold (s.data.toList.take (k + 1)) = some (wv, rv, true, a)) := Lib.hid (by rw [HT.out _ HF.out, c46]; exact rstep_point)
            clear c46 hg
            go_wp2
            go_round
            case rel => exact ⟨k + 1, wv, rv, true, a, by omega, by go_num, rfl, rfl, rfl, rfl, HNx.out, HWV.out, HRV.out, ha⟩
            case measure => simp [intOf]; omega
          | true =>
            have HN := Lib.hid (HDd.out (rstep_no ⟨.inr rfl, .inl (by rw [c46]; rfl)⟩))
            clear c46 hg
            go_wp2
            go_ret2
            exact rp_no HN.out (Below.refl _ _)
        · have c46' : ((s[k].toNat : Int) == 46) = false := by
            simp only [beq_eq_false_iff_ne, ne_eq]
            intro e
            exact c46 (UInt8.toNat_inj.1 (by simpa using (by omega : s[k].toNat = 46)))
          cases hd : isD s[k] with
          | false =>
            have HN := Lib.hid (HDd.out (rstep_no ⟨.inl c46, .inl hd⟩))
            have hnd : (s[k].toNat : Int) < 48 ∨ 57 < (s[k].toNat : Int) := by
              have h1 : ¬ (48 ≤ s[k].toNat ∧ s[k].toNat ≤ 57) := fun h => by rw [isD_iff.2 h] at hd; cases hd
              omega
            clear c46 hg hd
            rcases hnd with hnd | hnd
            · go_wp2
              go_ret2
              exact rp_no HN.out (Below.refl _ _)
            · have hnd0 : ¬ (s[k].toNat : Int) < 48 := by omega
              go_wp2
              go_ret2
              exact rp_no HN.out (Below.refl _ _)
          | true =>
            obtain ⟨d0, d1⟩ := isD_iff.1 hd
            have d0' : ¬ (s[k].toNat : Int) < 48 := by omega
            have d1' : ¬ (57 < (s[k].toNat : Int)) := by omega
            have d2 : 48 ≤ (s[k].toNat : Int) := by omega
            have d3 : (s[k].toNat : Int) ≤ 57 := by omega
            cases p with
            | false =>
              by_cases hw : 112589990684262 < wv
              · have HN := Lib.hid (HDd.out (rstep_no ⟨.inl c46, .inr (.inr ⟨rfl, hw⟩)⟩))
                have hw' : (112589990684262 : Int) < (wv : Int) := by omega
                clear c46 hg hd hw
                go_wp2
                go_ret2
                exact rp_no HN.out (Below.refl _ _)
              · have HNx : Hid (rfold (s.data.toList.take (k + 1)) = some (10 * wv + (s[k].toNat - 48), rv, false, a)) := Lib.hid (by rw [HT.out _ HF.out]; exact rstep_ahead hd hw)
                have hw' : ¬ ((112589990684262 : Int) < (wv : Int)) := by omega
                have HB2 := Lib.hid (show 10 * wv + (s[k].toNat - 48) ≤ 1125899906842629 by omega)
                have HE2 := Lib.hid (show ((10 * wv + (s[k].toNat - 48) : Nat) : Int) = 10 * (wv : Int) + ((s[k].toNat : Int) - 48) by omega)
                clear c46 hg hd hw
                go_wp2
                go_round
                case rel => exact ⟨k + 1, _, rv, false, a, by omega, by go_num, by rw [HE2.out], rfl, rfl, rfl, HNx.out, HB2.out, HRV.out, ha⟩
                case measure => simp [intOf]; omega
            | true =>
              by_cases ha9 : a = 9
              · have HN := Lib.hid (HDd.out (rstep_no ⟨.inl c46, .inr (.inl ⟨rfl, ha9⟩)⟩))
                have ha' : ((a : Int) == 9) = true := by simp; omega
                clear c46 hg hd ha9
                go_wp2
                go_ret2
                exact rp_no HN.out (Below.refl _ _)
              · have HNx : Hid (rfold (s.data.toList.take (k + 1)) = some (wv, 10 * rv + (s[k].toNat - 48), true, a + 1)) := Lib.hid (by rw [HT.out _ HF.out]; exact rstep_behind hd ha9)
                have ha' : ((a : Int) == 9) = false := by simp; omega
                have HB2 := Lib.hid (show 10 * rv + (s[k].toNat - 48) < 10 ^ (a + 1) by have := HRV.out; rw [Nat.pow_succ]; omega)
                have HE2 := Lib.hid (show ((10 * rv + (s[k].toNat - 48) : Nat) : Int) = 10 * (rv : Int) + ((s[k].toNat : Int) - 48) by omega)
                have HA9 := Lib.hid (show a + 1 ≤ 9 by omega)
                clear c46 hg hd ha9
                go_wp2
                go_round
                case rel => exact ⟨k + 1, wv, _, true, a + 1, by omega, by go_num, rfl, by rw [HE2.out], rfl, by go_num, HNx.out, HWV.out, HB2.out, HA9.out⟩
                case measure => simp [intOf]; omega
      · obtain rfl : s.size = k := by omega
        have HFF : Hid (rfold s.data.toList = some (wv, rv, p, a)) := Lib.hid (by
          have := HF.out
          rwa [List.take_of_length_le (by simp)] at this)
        clear hlt
        go_wp2_with fail
        go_loop [5, 7] (fun re af => ∃ (a' r' : Nat), a ≤ a' ∧ a' ≤ 9 ∧ re = .int .i64 (r' : Int) ∧ af = .int .i64 (a' : Int) ∧ r' = rv * 10 ^ (a' - a) ∧ r' < 10 ^ a') (fun _ af => 9 - (intOf af).toNat)
        case atStart => exact ⟨a, rv, by omega, ha, rfl, rfl, by simp, HRV.out⟩
        case round =>
          obtain ⟨a', r', ha1, ha2, rfl, rfl, hr1, hr2⟩ := hrel
          have HR1 := Lib.hid hr1
          have HR2 := Lib.hid hr2
          have hrI : (r' : Int) < 1000000000 := by
            have h1 : 10 ^ a' ≤ 10 ^ 9 := Nat.pow_le_pow_right (by omega) ha2
            have h2 : (10 : Nat) ^ 9 = 1000000000 := by decide
            omega
          clear hr1 hr2
          by_cases hlt : a' < 9
          · have HN1 := Lib.hid (show 10 * r' = rv * 10 ^ (a' + 1 - a) by rw [HR1.out, show a' + 1 - a = (a' - a) + 1 by omega, Nat.pow_succ, Nat.mul_comm 10, Nat.mul_assoc])
            have HN2 := Lib.hid (show 10 * r' < 10 ^ (a' + 1) by have := HR2.out; rw [Nat.pow_succ]; omega)
            have hltI : (a' : Int) < 9 := by omega
            have ha0 : (0 : Int) ≤ (a' : Int) := by omega
            have hr0 : (0 : Int) ≤ (r' : Int) := by omega
            have HA1 := Lib.hid (show a ≤ a' + 1 by omega)
            have HA2 := Lib.hid (show a' + 1 ≤ 9 by omega)
            clear hlt ha1 ha2 ha
            go_wp2
            go_round
            case rel => exact ⟨a' + 1, 10 * r', HA1.out, HA2.out, by rw [Int.natCast_mul, Int.mul_comm]; rfl, by go_num, HN1.out, HN2.out⟩
            case measure => have := HA2.out; simp [intOf]; omega
          · obtain rfl : a' = 9 := by omega
            by_cases hbig : 1125899 < wv
            · have HN := Lib.hid (show ∀ t : Nat, t ≤ 1125899906842624 → txt t = s.data.toList → False from fun t ht e => by
                obtain ⟨r, b, a2, h1, _⟩ := rfold_txt ht
                rw [e, HFF.out] at h1
                have := congrArg Prod.fst (Option.some.inj h1)
                simp only at this
                omega)
              have hbig' : (1125899 : Int) < (wv : Int) := by omega
              clear hbig
              go_wp2
              go_ret2
              exact rp_no HN.out (Below.refl _ _)
            · have hbig' : ¬ ((1125899 : Int) < (wv : Int)) := by omega
              have HT2 : Hid (∀ t : Nat, t ≤ 1125899906842624 → txt t = s.data.toList → wv * 1000000000 + r' = t) := Lib.hid (fun t ht e => by
                obtain ⟨r, b, a2, h1, _, h3⟩ := rfold_txt ht
                rw [e, HFF.out] at h1
                have h4 := Option.some.inj h1
                simp only [Prod.mk.injEq] at h4
                obtain ⟨e1, rfl, rfl, rfl⟩ := h4
                have := HR1.out
                omega)
              obtain ⟨x, hx⟩ : ∃ x : Int, (wv : Int) * 1000000000 + (r' : Int) = x := ⟨_, rfl⟩
              have HX := Lib.hid (show ((wv * 1000000000 + r' : Nat) : Int) = x by omega)
              have hx0 : 0 ≤ x := by omega
              have HRt := fun u => right_any x u
              cases hrt : rt x with
              | false =>
                have HN := Lib.hid (show ∀ t : Nat, t ≤ 1125899906842624 → txt t = s.data.toList → False from fun t ht e => by
                  have h1 := HT2.out t ht e
                  have h2 := HX.out
                  rcases rt_false hrt with h | h <;> omega)
                rw [hrt] at HRt
                have HRt := Lib.hid HRt
                clear hrt hbig
                go_wp2_with fail
                refine (HRt.out _).mono ?_
                rintro e w' ⟨rfl, rfl⟩
                go_wp2
                go_ret2
                exact rp_no HN.out (Below.refl _ _)
              | true =>
                obtain ⟨_, hxM⟩ := rt_true hrt
                obtain ⟨X, hX⟩ : ∃ X : ByteArray, (⟨(txt (wv * 1000000000 + r')).toArray⟩ : ByteArray) = X := ⟨_, rfl⟩
                have hXl : X.toList = txt (wv * 1000000000 + r') := by rw [Lib.toList_data, ← hX]
                have HTx := fun u => rtext_any (wv * 1000000000 + r') (by have := HX.out; omega) u
                rw [HX.out, hX] at HTx
                have HTx := Lib.hid HTx
                rw [hrt] at HRt
                have HRt := Lib.hid HRt
                have HsL := Lib.hid (Lib.toList_data s)
                have HXM := Lib.hid (show wv * 1000000000 + r' ≤ 1125899906842624 by have := HX.out; omega)
                by_cases heq : X.toList = s.toList
                · have HEQ := Lib.hid (show txt (wv * 1000000000 + r') = s.data.toList by rw [← hXl, heq, Lib.toList_data])
                  clear hrt hX hXl hbig
                  go_wp2_with fail
                  refine (HRt.out _).mono ?_
                  rintro e w' ⟨rfl, rfl⟩
                  go_wp2_with fail
                  refine (HTx.out _).mono ?_
                  rintro e w2 ⟨rfl, hB⟩
                  go_wp2
                  go_ret2
                  refine ⟨x, true, rfl, fun t ht e => ⟨rfl, ?_⟩, fun _ => ⟨_, HXM.out, HEQ.out⟩, hB⟩
                  rw [← HX.out, HT2.out t ht e]
                · have hne : (X.toList == s.toList) = false := by simpa using heq
                  have HN := Lib.hid (show ∀ t : Nat, t ≤ 1125899906842624 → txt t = s.data.toList → False from fun t ht e => heq (by rw [hXl, HT2.out t ht e, e, Lib.toList_data]))
                  clear hrt hX hXl hbig heq
                  go_wp2_with fail
                  refine (HRt.out _).mono ?_
                  rintro e w' ⟨rfl, rfl⟩
                  go_wp2_with fail
                  refine (HTx.out _).mono ?_
                  rintro e w2 ⟨rfl, hB⟩
                  go_wp2
                  go_ret2
                  exact rp_no HN.out hB
  · have h20' : (20 : Int) < (s.size : Int) := by omega
    have HN := Lib.hid (show ∀ t : Nat, t ≤ 1125899906842624 → txt t = s.data.toList → False from fun t ht e => by
      have h1 := txt_len ht
      rw [e, ← Lib.size_eq] at h1
      omega)
    go_enter Tryd.func29, Tryd.ntmps29
    go_wp2
    go_ret2
    exact rp_no HN.out (Below.refl _ _)

end Go.Proofs.YtdoplpgmnoefeaaDoor
