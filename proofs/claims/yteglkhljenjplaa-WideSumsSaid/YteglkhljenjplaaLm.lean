/-
  The walk of the law on products over numbers. No statement is proved here.
-/
import Derived.Test.YteglkhljenjplaaWi
import Derived.Test.YteglkhljenjplaaLo
import Derived.Test.YteglkhljenjplaaBc
namespace Go.Proofs.Yteglkhljenjplaa
open Go.RowKit

theorem scaled_low (a b d sh sl : Nat) (up : Bool) (ha : a < 18446744073709551616) (hb : b < 18446744073709551616) (hd0 : 0 < d) (hd : d < 18446744073709551616) (hS : scaleN a b d up = sh * 18446744073709551616 + sl) (hsh : sh < 18446744073709551616) (hsl : sl < 18446744073709551616) (w : World) :
    Calls Try.prog 24 #[.agg #[.int .u64 0, .int .u64 (a : Int)], .int .u64 (b : Int), .int .u64 (d : Int), .bool up] w (Ans (.tuple #[.agg #[.int .u64 (sh : Int), .int .u64 (sl : Int)], .bool true]) w) := by
  have h := scaled_any 0 a b d up w (by omega) ha hb hd0 hd
  rw [Nat.zero_mul, Nat.zero_add] at h
  have e : scaledN a b d up = sh * 18446744073709551616 + sl := hS
  rw [e] at h
  have e1 : (sh * 18446744073709551616 + sl) % 2 ^ 128 / 2 ^ 64 = sh := by omega
  have e2 : (sh * 18446744073709551616 + sl) % 2 ^ 64 = sl := by omega
  have e3 : decide (sh * 18446744073709551616 + sl < 2 ^ 128) = true := decide_eq_true (by omega)
  rw [e1, e2, e3] at h
  exact h

set_option maxHeartbeats 4000000 in
set_option maxRecDepth 100000 in
theorem muldivs_zero (a b : Nat) (ha : a < 18446744073709551616) (hb : b < 18446744073709551616) (w : World) :
    Calls Try.prog 5 #[.int .u64 (a : Int), .int .u64 (b : Int), .int .u64 0] w (Ans (.bool true) w) := by
  have H := Lib.hid (And.intro ha hb)
  clear ha hb
  go_enter Try.func5, Try.ntmps5
  go_wp2_with fail
  refine (wakes_any _).mono ?_
  rintro e w1 ⟨rfl, h1⟩
  go_wp2_with fail
  have F0 := Blk.new w1 4 #[.bool false, .bool true]
  have B0 := h1.alloc h1.size (.cells #[.bool false, .bool true] 4)
  generalize w1.alloc (.cells #[.bool false, .bool true] 4) = W at F0 B0 ⊢
  generalize w1.heap.size = g at F0 ⊢
  clear h1
  go_loopw [17] (fun i wr => ∃ k : Nat, k ≤ 2 ∧ i = .int .i64 k ∧ Blk wr g 4 #[.bool false, .bool true] ∧ Below w.heap.size w wr) (fun i _ => 2 - (intOf i).toNat)
  case atStart => exact ⟨0, by omega, rfl, F0, B0⟩
  case round =>
    clear F0 B0
    obtain ⟨k, hk, rfl, F, B⟩ := hrel
    by_cases hlt : k < 2
    · obtain ⟨up, hup⟩ : ∃ up, (#[.bool false, .bool true] : Array Value)[k]? = some (.bool up) := by
        have : k = 0 ∨ k = 1 := by omega
        rcases this with rfl | rfl
        · exact ⟨false, rfl⟩
        · exact ⟨true, rfl⟩
      have c := (F.cell k).trans hup
      have hki : (k : Int) < 2 := by omega
      clear hup
      have HM : Hid (∀ u, Calls Try.prog 25 #[.int .u64 (a : Int), .int .u64 (b : Int), .int .u64 0, .bool up] u (Ans (.tuple #[.int .u64 0, .int .i64 130]) u)) := Lib.hid (fun u => muldiv_nought a b up H.out.1 H.out.2 u)
      go_wp2_with fail
      refine (HM.out _).mono ?_
      rintro e w2 ⟨rfl, h2⟩
      replace F := F.below h2 F.lt
      replace B := B.trans (h2.mono B.size)
      clear h2 c
      go_wp2
      go_roundw
      case rel => exact ⟨k + 1, by omega, by go_num, F, B⟩
      case measure => simp [intOf]; omega
    · obtain rfl : k = 2 := by omega
      go_wp2
      go_ret
      exact ⟨rfl, B⟩

set_option maxHeartbeats 4000000 in
set_option maxRecDepth 100000 in
theorem muldivs_pos (a b d : Nat) (hdp : 0 < d) (ha : a < 18446744073709551616) (hb : b < 18446744073709551616) (hd : d < 18446744073709551616) (w : World) :
    Calls Try.prog 5 #[.int .u64 (a : Int), .int .u64 (b : Int), .int .u64 (d : Int)] w (Ans (.bool true) w) := by
  have H := Lib.hid (And.intro ha (And.intro hb hd))
  have HDP := Lib.hid hdp
  clear ha hb hd hdp
  go_enter Try.func5, Try.ntmps5
  go_wp2_with fail
  refine (wakes_any _).mono ?_
  rintro e w1 ⟨rfl, h1⟩
  go_wp2_with fail
  have F0 := Blk.new w1 4 #[.bool false, .bool true]
  have B0 := h1.alloc h1.size (.cells #[.bool false, .bool true] 4)
  generalize w1.alloc (.cells #[.bool false, .bool true] 4) = W at F0 B0 ⊢
  generalize w1.heap.size = g at F0 ⊢
  clear h1
  go_loopw [17] (fun i wr => ∃ k : Nat, k ≤ 2 ∧ i = .int .i64 k ∧ Blk wr g 4 #[.bool false, .bool true] ∧ Below w.heap.size w wr) (fun i _ => 2 - (intOf i).toNat)
  case atStart => exact ⟨0, by omega, rfl, F0, B0⟩
  case round =>
    clear F0 B0
    obtain ⟨k, hk, rfl, F, B⟩ := hrel
    by_cases hlt : k < 2
    · obtain ⟨up, hup⟩ : ∃ up, (#[.bool false, .bool true] : Array Value)[k]? = some (.bool up) := by
        have : k = 0 ∨ k = 1 := by omega
        rcases this with rfl | rfl
        · exact ⟨false, rfl⟩
        · exact ⟨true, rfl⟩
      have c := (F.cell k).trans hup
      have hki : (k : Int) < 2 := by omega
      clear hup
      obtain ⟨z, c1, hz⟩ := One.some (scaleN a b d up)
      have HM := Lib.hid (fun u => muldiv_any a b d z c1 up H.out.1 H.out.2.1 HDP.out H.out.2.2 hz u)
      have hSb : scaleN a b d up < 340282366920938463463374607431768211456 := by
        obtain ⟨ph, pl, e1, hpl, hph⟩ := mul_words H.out.1 H.out.2.1
        have h1 : a * b / d ≤ a * b := Nat.div_le_self _ _
        have h2 : scaleN a b d up ≤ a * b / d + 1 := by
          unfold scaleN
          split <;> omega
        omega
      obtain ⟨S, hS⟩ : ∃ S, scaleN a b d up = S := ⟨_, rfl⟩
      rw [hS] at hz hSb
      obtain ⟨sh, hsh⟩ : ∃ q, S / 18446744073709551616 = q := ⟨_, rfl⟩
      obtain ⟨sl, hsl⟩ : ∃ q, S % 18446744073709551616 = q := ⟨_, rfl⟩
      have hqq : S = sh * 18446744073709551616 + sl := by omega
      have hqb : sl < 18446744073709551616 := by omega
      have HR := Lib.hid (fun u => scaled_low a b d sh sl up H.out.1 H.out.2.1 HDP.out H.out.2.2 (hS.trans hqq) (by omega) hqb u)
      have hcase := one_of hqq hqb hz
      have hdb : ((d : Int) == 0) = false := by have := HDP.out; simp; omega
      clear hz hSb hS hsh hsl hqq hqb
      rcases hcase with ⟨rfl, rfl, rfl⟩ | ⟨hp, rfl, rfl⟩
      · go_wp2_with fail
        refine (HM.out _).mono ?_
        rintro e w2 ⟨rfl, h2⟩
        replace F := F.below h2 F.lt
        replace B := B.trans (h2.mono B.size)
        clear h2 c
        go_wp2_with fail
        refine (HR.out _).mono ?_
        rintro e w3 ⟨rfl, h3⟩
        replace F := F.below h3 F.lt
        replace B := B.trans (h3.mono B.size)
        have HF := Lib.hid (And.intro (F.alloc (.cells #[.int .u64 0, .int .u64 (z : Int)] 24)) (B.alloc B.size (.cells #[.int .u64 0, .int .u64 (z : Int)] 24)))
        clear h3 F B
        go_wp2
        go_roundw
        case rel => exact ⟨k + 1, by omega, by go_num, HF.out.1, HF.out.2⟩
        case measure => simp [intOf]; omega
      · have hpb : decide (0 < sh) = true := decide_eq_true hp
        have hpi : (0 : Int) < (sh : Int) := by omega
        clear hp
        go_wp2_with fail
        refine (HM.out _).mono ?_
        rintro e w2 ⟨rfl, h2⟩
        replace F := F.below h2 F.lt
        replace B := B.trans (h2.mono B.size)
        clear h2 c
        go_wp2_with fail
        refine (HR.out _).mono ?_
        rintro e w3 ⟨rfl, h3⟩
        replace F := F.below h3 F.lt
        replace B := B.trans (h3.mono B.size)
        have HF := Lib.hid (And.intro (F.alloc (.cells #[.int .u64 (sh : Int), .int .u64 (sl : Int)] 24)) (B.alloc B.size (.cells #[.int .u64 (sh : Int), .int .u64 (sl : Int)] 24)))
        clear h3 F B
        go_wp2
        go_roundw
        case rel => exact ⟨k + 1, by omega, by go_num, HF.out.1, HF.out.2⟩
        case measure => simp [intOf]; omega
    · obtain rfl : k = 2 := by omega
      go_wp2
      go_ret
      exact ⟨rfl, B⟩

theorem muldivs_walk (a b d : Nat) (ha : a < 18446744073709551616) (hb : b < 18446744073709551616) (hd : d < 18446744073709551616) (w : World) :
    Calls Try.prog 5 #[.int .u64 (a : Int), .int .u64 (b : Int), .int .u64 (d : Int)] w (Ans (.bool true) w) := by
  rcases Nat.eq_zero_or_pos d with rfl | h
  · exact muldivs_zero a b ha hb w
  · exact muldivs_pos a b d h ha hb hd w

end Go.Proofs.Yteglkhljenjplaa
