/-
  The landed cpuset's Count (of sets below 256) and Of (of rows of pCPUs), by their own code. No statement is proved here.
-/
import Derived.Test.YtfalkiinlkfanaaTv
import Derived.Lib.LaidTab
import Derived.Lib.BitFns
import Derived.Lib.Strings
import Derived.Lib.Slices
import Derived.Lib.Small
import Derived.Lib.Walk
namespace Go.Proofs.Ytfalkiinlkfanaa
open Go.RowKit

theorem and_all {s : Int} (h0 : 0 ≤ s) (h1 : s < 4294967296) : bits .and .u32 s 255 = s % 256 := by
  rw [u32_and s 255 h0 h1 (by omega) (by omega)]
  have : s.toNat &&& 255 = s.toNat % 256 := Nat.and_two_pow_sub_one_eq_mod s.toNat 8
  rw [show (255 : Int).toNat = 255 from rfl, this]
  omega
set_option maxRecDepth 100000 in
set_option maxHeartbeats 1000000 in
theorem ones_any (x : Nat) (w : World) (h1 : x < 256) : Calls Try.prog 61 #[.int .u32 (x : Int)] w (Draws (.int .i64 (Lib.onesCount x : Int)) w) := by
  have e1 : (x : Int) / 16777216 = 0 := by omega
  have e2 : (x : Int) / 65536 = 0 := by omega
  have e3 : (x : Int) / 256 = 0 := by omega
  have e4 : bits .and .u32 (x : Int) 255 = (x : Int) := by rw [and_all (by omega) (by omega)]; omega
  have e5 : bits .and .u32 0 255 = 0 := by decide
  have x1 : (x : Int) ≤ 255 := by omega
  have x0 : (0 : Int) ≤ (x : Int) := by omega
  have p0 : Lib.pop8 0 = 0 := by decide +kernel
  have px : Lib.pop8 (x : Int) = (Lib.onesCount x : Int) := Lib.pop8_eq ⟨x, h1⟩
  have pl : Lib.onesCount x ≤ 8 := Lib.onesCount_le8 ⟨x, h1⟩
  generalize Lib.onesCount x = N at *
  have w0 : IntKind.u8.wrap 0 = 0 := by decide
  have w1 : IntKind.u8.wrap (N : Int) = (N : Int) := by simp [IntKind.wrap, IntKind.bits, IntKind.signed]; omega
  have w2 : IntKind.i64.wrap (N : Int) = (N : Int) := by rw [IntKind.wrap_i64]; omega
  clear h1 pl
  go_enter Try.func61, Try.ntmps61
  go_wp2_with fail
  go_quiet (fail)
  go_wp2
  go_ret
  exact ⟨rfl, _, rfl⟩
set_option maxRecDepth 100000 in
set_option maxHeartbeats 1000000 in
theorem count_any (x : Nat) (w : World) (h1 : x < 256) : Calls Try.prog 35 #[.int .u32 (x : Int)] w (Draws (.int .i64 (Lib.onesCount x : Int)) w) := by
  have ha := and_all (s := (x : Int)) (by omega) (by omega)
  rw [show (x : Int) % 256 = (x : Int) by omega] at ha
  have HO := Lib.hid (fun u => ones_any x u h1)
  clear h1
  go_enter Try.func35, Try.ntmps35
  go_wp2_with fail
  refine (HO.out _).mono ?_
  rintro e w' ⟨rfl, q, rfl⟩
  go_wp2
  go_ret
  exact ⟨rfl, _, rfl⟩

theorem ofT_next {l : List Int} {k : Nat} {x : Int} (h : l[k]? = some x) (s : Nat) : ofT (l.drop k) s = ofT (l.drop (k + 1)) (s ||| 2 ^ x.toNat) := by
  obtain ⟨hk, hx⟩ := List.getElem?_eq_some_iff.1 h
  rw [List.drop_eq_getElem_cons hk, hx, ofT]
theorem or_two {s : Nat} {x : Int} (hs : s < 256) (h0 : 0 ≤ x) (h1 : x < 8) : bits .or .u32 (s : Int) ((2 : Int) ^ x.toNat) = ((s ||| 2 ^ x.toNat : Nat) : Int) ∧ s ||| 2 ^ x.toNat < 256 := by
  have h2 : (2 : Nat) ^ x.toNat < 2 ^ 8 := Nat.pow_lt_pow_of_lt (by omega) (by omega)
  have h3 : s < 2 ^ 8 := hs
  exact ⟨by rw [show ((2 : Int) ^ x.toNat) = ((2 ^ x.toNat : Nat) : Int) by push_cast; rfl, u32_or_nat _ _ (by omega) (by omega)], Nat.or_lt_two_pow h3 h2⟩
set_option maxRecDepth 100000 in
set_option maxHeartbeats 1000000 in
theorem of_any (A : Option Addr) (n c : Nat) (l : List Int) (w : World) (hn : n = l.length) (hl : n ≤ 100000) (hR : Reads w w.heap.size 1 A n (vs l)) (hx : ∀ (k : Nat) (x : Int), l[k]? = some x → cpuB x = true) :
    Calls Try.prog 36 #[.slice A n c] w fun e w' => e = .returned (.tuple #[.int .u32 (ofT l 0 : Int), .int .i64 0]) ∧ w = w' := by
  have HX := Lib.hid hx
  have HN := Lib.hid hn
  clear hx hn
  go_enter Try.func36, Try.ntmps36
  go_wp2_with fail
  go_loop [4, 9] (fun v i => ∃ (k : Nat) (s : Nat), k ≤ n ∧ i = .int .i64 k ∧ v = .int .u32 (s : Int) ∧ s < 256 ∧ Hid (ofT l 0 = ofT (l.drop k) s)) (fun _ i => n - (intOf i).toNat)
  case atStart => exact ⟨0, 0, Nat.zero_le _, rfl, rfl, by omega, Lib.hid rfl⟩
  case round =>
    obtain ⟨k, s, hk, rfl, rfl, s1, hN⟩ := hrel
    by_cases hlt : k < n
    · obtain ⟨ad, v, rfl, _, hx, hc⟩ := hR.at_ hlt
      obtain ⟨x, hx2, rfl⟩ := vs_at hx
      clear hx
      have hp := HX.out k x hx2
      have HP2 := Lib.hid (fun u => hp ▸ cpu_any x u)
      have hb := cpuB_true hp
      have HB := Lib.hid (fun u => bit_any x u (by omega) (by omega))
      have j0 : (0 : Int) ≤ (k : Int) := by omega
      have j1 : (k : Int) < (n : Int) := by omega
      obtain ⟨t, ht, t1, HV⟩ : ∃ t : Nat, bits .or .u32 (s : Int) (2 ^ x.toNat) = (t : Int) ∧ t < 256 ∧ Hid (ofT l 0 = ofT (l.drop (k + 1)) t) := ⟨s ||| 2 ^ x.toNat, (or_two s1 hb.1 hb.2).1, (or_two s1 hb.1 hb.2).2, Lib.hid (hN.out.trans (ofT_next hx2 s))⟩
      generalize (2 : Int) ^ x.toNat = X at *
      clear hN hx2 hp hb
      go_wp2_with fail
      refine (HP2.out _).mono ?_
      rintro e w' ⟨rfl, rfl⟩
      go_wp2_with fail
      refine (HB.out _).mono ?_
      rintro e w' ⟨rfl, rfl⟩
      go_wp2
      go_round
      case rel => exact ⟨k + 1, t, by omega, by go_num, by simp, t1, HV⟩
      case measure => simp [intOf]; omega
    · obtain rfl : k = n := by omega
      have HV : Hid (ofT l 0 = s) := Lib.hid (hN.out.trans (by rw [HN.out, List.drop_length]; rfl))
      clear hN
      go_wp2
      go_ret2
      rw [HV.out]
      exact ⟨rfl, rfl⟩

end Go.Proofs.Ytfalkiinlkfanaa
