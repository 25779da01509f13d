/-
  The contracts of the document's own answers for octet, as the statements call them: Same, Lead, Step, Number, Bytes. No statement is proved here.
-/
import Derived.Test.YtifclmmfnfppiaaOctNum
import Derived.BigQuiet
namespace Go.Proofs.Ytifclmmfnfppiaa
open Go.RowKit

/-- a call only draws -/
def Draws (v : Value) (w : World) (e : Ending) (w' : World) : Prop := e = .returned v ∧ ∃ m, w' = w.drewN m
theorem Draws.below {v : Value} {w w' : World} {e : Ending} (h : Draws v w e w') (B : Nat) : Below B w w' := by
  obtain ⟨_, m, rfl⟩ := h
  exact below_drewN (Below.refl _ _) m

set_option maxHeartbeats 1000000 in
theorem same_same (A1 A2 : Option Addr) (n c1 c2 : Nat) (l : List UInt8) (w : World) (h1 : Reads w w.heap.size 1 A1 n (bs l)) (h2 : Reads w w.heap.size 1 A2 n (bs l)) (hn : n ≤ 100000) :
    Calls Try.prog 13 #[.slice A1 n c1, .slice A2 n c2] w (Draws (.bool true) w) := by
  go_enter Try.func13, Try.ntmps13
  go_wp2_with fail
  go_loopw [5] (fun i wr => ∃ k q : Nat, k ≤ n ∧ i = .int .i64 k ∧ wr = w.drewN q) (fun i _ => n - (intOf i).toNat)
  case atStart => exact ⟨0, 0, Nat.zero_le _, rfl, rfl⟩
  case round =>
    obtain ⟨k, q, hk, rfl, rfl⟩ := hrel
    by_cases hlt : k < n
    · obtain ⟨ad, v, rfl, _, hx, hc⟩ := h1.at_ hlt
      obtain ⟨ad', v', rfl, _, hx', hc'⟩ := h2.at_ hlt
      obtain rfl : v = v' := by rw [hx] at hx'; injection hx'
      obtain ⟨x, _, rfl⟩ := bs_at hx
      clear hx hx'
      have j0 : (0 : Int) ≤ (k : Int) := by omega
      have j1 : (k : Int) < (n : Int) := by omega
      go_wp2_with fail
      go_quiet (fail)
      go_wp2
      go_roundw
      case rel => exact ⟨k + 1, q + nq, by omega, by go_num, rfl⟩
      case measure => simp [intOf]; omega
    · obtain rfl : k = n := by omega
      go_wp2
      go_ret
      exact ⟨rfl, q, rfl⟩

set_option maxHeartbeats 400000 in
theorem rlead_any (A : Option Addr) (n c : Nat) (l : List UInt8) (w : World) (hl : l.length = n) (hr : Reads w w.heap.size 1 A n (bs l)) (hn : n ≤ 100000) :
    Calls Try.prog 15 #[.slice A n c] w fun e w' => e = .returned (.int .i64 (lead l)) ∧ w = w' := by
  have HL := Lib.hid hl
  clear hl
  go_enter Try.func15, Try.ntmps15
  go_wp2_with fail
  go_loop [3] (fun i => ∃ k : Nat, k ≤ n ∧ i = .int .i64 k ∧ Hid (∀ j y, j < k → l[j]? = some y → y = 0)) (fun i => n - (intOf i).toNat)
  case atStart => exact ⟨0, Nat.zero_le _, rfl, fun j y hj => by omega⟩
  case round =>
    obtain ⟨k, hk, rfl, hz⟩ := hrel
    by_cases hlt : k < n
    · obtain ⟨ad, v, rfl, _, hx, hcell⟩ := hr.at_ hlt
      obtain ⟨x, hlx, rfl⟩ := bs_at hx
      have HX := Lib.hid hlx
      clear hx hlx
      by_cases h0 : x = 0
      · subst h0
        go_wp2
        go_round
        case rel =>
          refine ⟨k + 1, by omega, by go_num, fun j y hj hy => ?_⟩
          rcases Nat.lt_or_ge j k with h | h
          · exact hz.out j y h hy
          · obtain rfl : j = k := by omega
            have := HX.out
            rw [hy] at this
            injection this
        case measure => simp [intOf]; omega
      · have hne : (((x.toNat : Int) == 0)) = false := by
          have : x.toNat ≠ 0 := fun e => h0 (UInt8.toNat_inj.1 (by simpa using e))
          simp; omega
        have hL : Hid (lead l = k) := lead_at HX.out h0 hz.out
        go_wp2
        go_ret
        exact ⟨by rw [hL.out]; rfl, rfl⟩
    · obtain rfl : k = n := by omega
      have hL : Hid (lead l = k) := by
        have := lead_all (l := l) fun y hy => by
          obtain ⟨j, hj, rfl⟩ := List.mem_iff_getElem.1 hy
          exact hz.out j _ (by have := HL.out; omega) (List.getElem?_eq_getElem hj)
        exact this.trans HL.out
      go_wp2
      go_ret
      exact ⟨by rw [hL.out]; rfl, rfl⟩

/-- what Step answers -/
def stepTo (a n m : Int) : Int := if n < 0 then a else if m - a < n then a else a + n
def stepErr (a n m : Int) : Int := if n < 0 then 2 else if m - a < n then 7 else 0

set_option maxHeartbeats 400000 in
theorem step_any (a n m : Int) (w : World) (h0 : 0 ≤ a) (h1 : a ≤ m) (h2 : m ≤ 100000) (h3 : -9223372036854775808 ≤ n) (h4 : n ≤ 9223372036854775807) :
    Calls Try.prog 18 #[.int .i64 a, .int .i64 n, .int .i64 m] w fun e w' => e = .returned (.tuple #[.int .i64 (stepTo a n m), .int .i64 (stepErr a n m)]) ∧ w = w' := by
  by_cases hn : n < 0
  · have e1 : stepTo a n m = a := by unfold stepTo; rw [if_pos hn]
    have e2 : stepErr a n m = 2 := by unfold stepErr; rw [if_pos hn]
    rw [e1, e2]
    clear e1 e2
    go_enter Try.func18, Try.ntmps18
    go_wp2
    go_ret2
    exact ⟨rfl, rfl⟩
  · by_cases hm : m - a < n
    · have e1 : stepTo a n m = a := by unfold stepTo; rw [if_neg hn, if_pos hm]
      have e2 : stepErr a n m = 7 := by unfold stepErr; rw [if_neg hn, if_pos hm]
      rw [e1, e2]
      clear e1 e2
      go_enter Try.func18, Try.ntmps18
      go_wp2
      go_ret2
      exact ⟨rfl, rfl⟩
    · have e1 : stepTo a n m = a + n := by unfold stepTo; rw [if_neg hn, if_neg hm]
      have e2 : stepErr a n m = 0 := by unfold stepErr; rw [if_neg hn, if_neg hm]
      rw [e1, e2]
      clear e1 e2
      go_enter Try.func18, Try.ntmps18
      go_wp2
      go_ret2
      exact ⟨rfl, rfl⟩

set_option maxHeartbeats 1000000 in
theorem rnumber_any : ∀ (n : Nat) (A : Option Addr) (c : Nat) (l : List UInt8) (w : World), l.length = n → n ≤ c → Reads w w.heap.size 1 A n (bs l) → n ≤ 8 →
    Calls Try.prog 21 #[.slice A n c] w (Draws (.int .u64 (num l)) w)
  | 0, A, c, l, w, hl, _, _, _ => by
    obtain rfl := List.eq_nil_of_length_eq_zero hl
    go_enter Try.func21, Try.ntmps21
    go_wp2
    go_ret
    exact ⟨rfl, 0, rfl⟩
  | n + 1, A, c, l, w, hl, hc, hr, hn => by
    have ih := rnumber_any n A c (l.take n)
    obtain ⟨ad, v, rfl, _, hx, hcell⟩ := hr.at_ (k := n) (by omega)
    obtain ⟨x, hlx, rfl⟩ := bs_at hx
    have hnum : num l = num (l.take n) * 256 + x.toNat := by
      rw [← num_snoc]
      congr 1
      have := List.take_add_one (l := l) (i := n)
      rw [hlx, List.take_of_length_le (by omega)] at this
      simpa using this
    have hlt := num_lt l
    have hlt8 : 256 ^ l.length ≤ 256 ^ 8 := Nat.pow_le_pow_right (by omega) (by omega)
    rw [hnum] at hlt ⊢
    have IH := Lib.hid (fun w hr => ih w (by simp; omega) (by omega) hr (by omega))
    have hx8 := x.toNat_lt
    have hb : (num (l.take n) : Int) * 256 + x.toNat ≤ 18446744073709551615 := by omega
    have hq : ∀ q, Reads (w.drewN q) (w.drewN q).heap.size 1 (some ad) n (bs (l.take n)) := fun q => by
      refine ⟨by simp [length_bs]; omega, fun h0 => ?_⟩
      obtain ⟨ad', e, hb', hc'⟩ := hr.2 (by omega)
      refine ⟨ad', e, hb', fun j u hu => hc' j u ?_⟩
      rw [bs_take, List.getElem?_take] at hu
      split at hu
      · exact hu
      · cases hu
    have HQ := Lib.hid hq
    clear hnum hlt hlt8 ih hl hr hx hlx hq
    generalize num (l.take n) = N at *
    have k0 : (0 : Int) ≤ (n : Int) := by omega
    have k1 : (n : Int) < (n : Int) + 1 := by omega
    have k2 : (n : Int) + 1 ≤ (c : Int) := by omega
    have k3 : (n : Int) ≤ (c : Int) := by omega
    go_enter Try.func21, Try.ntmps21
    go_wp2_with fail
    go_quiet ((go_at_call 21; exact Calls.quiet_of (IH.out _ (HQ.out _))))
    go_wp2
    go_ret
    refine ⟨?_, _, rfl⟩
    simp
    omega

/-- the bytes that are laid when k of them are: x has become what is left -/
theorem be_left (x wd k : Nat) (hk : k < wd) : (x % 256 ^ (wd - k)) / 256 ^ (wd - 1 - k) % 256 = x / 2 ^ (8 * (wd - 1 - k)) % 256 := by
  have e : wd - k = (wd - 1 - k) + 1 := by omega
  rw [e, Nat.pow_succ, Nat.mod_mul_right_div_self, ← pow_256, Nat.mod_mod]
theorem left_succ (x wd k : Nat) (hk : k < wd) : x % 256 ^ (wd - k) - (x % 256 ^ (wd - k)) / 256 ^ (wd - 1 - k) * 256 ^ (wd - 1 - k) = x % 256 ^ (wd - (k + 1)) := by
  have e : wd - k = (wd - 1 - k) + 1 := by omega
  have e2 : wd - (k + 1) = wd - 1 - k := by omega
  rw [e, e2, Nat.pow_succ]
  have h := Nat.mod_add_div (x % (256 ^ (wd - 1 - k) * 256)) (256 ^ (wd - 1 - k))
  rw [Nat.mod_mul_right_mod, Nat.mul_comm (256 ^ (wd - 1 - k)) (_ / _)] at h
  omega

set_option maxHeartbeats 1000000 in
theorem rbytes_any (x wd : Nat) (w : World) (hx : x < 256 ^ wd) (hwd : wd ≤ 8) :
    Calls Try.prog 14 #[.int .u64 x, .int .i64 wd] w (Gives w wd (be x wd)) := by
  obtain ⟨i0, hi0, hz0, hz1, hz2⟩ := info_parts byte_info
  go_enter Try.func14, Try.ntmps14
  go_wp2_with fail
  go_loopw [0, 5, 6] (fun xv v i wr => ∃ k : Nat, k ≤ wd ∧ i = .int .i64 k ∧ xv = .int .u64 (x % 256 ^ (wd - k) : Nat) ∧ wr.ownsRow w.heap.size 5 1 v k (bs ((be x wd).take k)) ∧ Below w.heap.size w wr) (fun _ _ i _ => wd - (intOf i).toNat)
  case atStart => exact ⟨0, by omega, rfl, by rw [Nat.sub_zero, Nat.mod_eq_of_lt hx], World.ownsRow_nil _ _ _ _, Below.refl _ _⟩
  case round =>
    obtain ⟨k, hk, rfl, rfl, hown, hB⟩ := hrel
    by_cases hlt : k < wd
    · obtain ⟨X, hX⟩ : ∃ X, X = x % 256 ^ (wd - k) := ⟨_, rfl⟩
      obtain ⟨P, hP⟩ : ∃ P, P = 256 ^ (wd - 1 - k) := ⟨_, rfl⟩
      obtain ⟨Y, hY⟩ : ∃ Y, Y = x % 256 ^ (wd - (k + 1)) := ⟨_, rfl⟩
      have hbyte : X / P % 256 = (beB x wd k).toNat := by rw [beB_toNat, hX, hP, be_left x wd k hlt]
      have hleft : X - X / P * P = Y := by rw [hX, hP, hY, left_succ x wd k hlt]
      have hP1 : 1 ≤ P := by rw [hP]; exact Nat.pow_pos (by omega)
      have hTP : X / P * P ≤ X := Nat.div_mul_le_self _ _
      have hXb : X ≤ 18446744073709551615 := by
        have h1 : x < 256 ^ 8 := Nat.lt_of_lt_of_le hx (Nat.pow_le_pow_right (by omega) hwd)
        have h2 : X ≤ x := by rw [hX]; exact Nat.mod_le _ _
        omega
      have hTX : X / P ≤ X := Nat.div_le_self _ _
      rw [← hX]
      have HP := Lib.hid hP
      have HY := Lib.hid hY
      have HO := Lib.hid hown
      clear hX hP hY hown
      go_wp2_with fail
      go_loop [7, 8] (fun pv kv => ∃ j : Nat, k + 1 ≤ j ∧ j ≤ wd ∧ kv = .int .i64 j ∧ pv = .int .u64 (256 ^ (j - (k + 1)) : Nat)) (fun _ kv => wd - (intOf kv).toNat)
      case atStart => exact ⟨k + 1, by omega, by omega, by go_num, by rw [Nat.sub_self]; rfl⟩
      case round =>
        obtain ⟨j, hj1, hj2, rfl, rfl⟩ := hrel
        by_cases hjl : j < wd
        · obtain ⟨R, hR⟩ : ∃ R, R = 256 ^ (j - (k + 1)) := ⟨_, rfl⟩
          have hR2 : 256 ^ (j + 1 - (k + 1)) = R * 256 := by rw [hR, ← Nat.pow_succ]; congr 1; omega
          have hRb : R ≤ 256 ^ 6 := by rw [hR]; exact Nat.pow_le_pow_right (by omega) (by omega)
          have hRb2 : (R : Int) ≤ 281474976710656 := by omega
          rw [← hR]
          have H2 := Lib.hid hR2
          clear hR hR2 hRb
          go_wp2
          go_round
          case rel => exact ⟨j + 1, by omega, by omega, by go_num, by rw [H2.out]; go_num⟩
          case measure => simp [intOf]; omega
        · obtain rfl : j = wd := by omega
          have eP : 256 ^ (j - (k + 1)) = P := by rw [HP.out]; congr 1; omega
          rw [eP]
          clear eP
          obtain ⟨T, hT⟩ : ∃ T, T = X / P := ⟨_, rfl⟩
          obtain ⟨M, hM⟩ : ∃ M, M = T * P := ⟨_, rfl⟩
          have hq : IntKind.u64.wrap ((X : Int) / (P : Int)) = (T : Int) := by
            have e : ((X : Int) / (P : Int)) = ((X / P : Nat) : Int) := by simp
            rw [e, ← hT, IntKind.wrap_u64]
            omega
          have hb : (T : Int) % 256 = ((beB x j k).toNat : Int) := by rw [← hbyte, ← hT]; simp
          have hm : IntKind.u64.wrap ((T : Int) * (P : Int)) = (M : Int) := by
            have e : ((T : Int) * (P : Int)) = ((T * P : Nat) : Int) := by simp
            rw [e, ← hM, IntKind.wrap_u64]
            rw [← hT, ← hM] at hTP
            omega
          have hMX : (M : Int) ≤ X := by rw [← hT, ← hM] at hTP; omega
          have hxX : (X : Int) ≤ 18446744073709551615 := by omega
          have HE : Hid ((X : Int) - M = Y) := by rw [← hT, ← hM] at hTP hleft; exact Lib.hid (by omega)
          have hzw := hB.size
          clear hT hM hbyte hleft hTP hTX
          go_wp2_with (
            at_builtin
            refine wpList_append_own _ rfl (.tmp 27) (.tmp 30) 22 rfl w.heap.size 5 i0 (.int .u8 0) 1 1 Try.underlying22 hi0 hz0 hz1 hz2 rfl (by decide) u5 k _ rfl (HO.out.alloc _) ⟨wr.heap.size, 0, none⟩ 1 1 [.int .u8 ((beB x j k).toNat : Int)] rfl rfl (cell_one_new _ _ _) (by simp [Value.oneCell']) (by simp only [maxLen]; omega) (by omega) (by simp; omega) ?_
            intro v2 w2 hown2 hg2 _)
          have hO2 : w2.ownsRow w.heap.size 5 1 v2 (k + 1) (bs ((be x j).take (k + 1))) := by
            rw [be_take_succ x j k hlt, bs_append, bs_one]
            exact hown2
          have hB2 : Below w.heap.size w w2 := (hB.alloc hzw _).grown hg2 (by simp; omega) (fun g hg => (HO.out.lt g hg).1)
          go_roundw
          case rel => exact ⟨k + 1, by omega, by go_num, by rw [HE.out, HY.out], hO2, hB2⟩
          case measure => simp [intOf]; omega
    · obtain rfl : k = wd := by omega
      go_wp2
      go_ret
      rw [List.take_of_length_le (by rw [length_be]; omega)] at hown
      exact gives_of hown hB

end Go.Proofs.Ytifclmmfnfppiaa
