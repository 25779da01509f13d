/-
  The contracts of octet's U8, U16, U32 and U64, and of the statements' own wakes. No statement is proved here.
-/
import Derived.Test.YtifclmmfnfppiaaOctWalk
namespace Go.Proofs.Ytifclmmfnfppiaa
open Go.RowKit

theorem ret_int {k : IntKind} {a b : Int} (h : a = b) : Ending.returned (.int k a) = .returned (.int k b) := by rw [h]
theorem num_take_lt (l : List UInt8) (wd : Nat) : num (l.take wd) < 256 ^ wd := by
  have h := num_lt (l.take wd)
  have h2 : 256 ^ (l.take wd).length ≤ 256 ^ wd := Nat.pow_le_pow_right (by omega) (by simp; omega)
  omega

set_option maxHeartbeats 400000 in
theorem u8_ok (p : Nat) (l : List UInt8) (w : World) (h : Rd w p l 0) (hn : 1 ≤ l.length) :
    Calls Try.prog 20 #[.pointer (some ⟨p, 0, none⟩)] w fun e w' =>
      e = .returned (.int .u8 (num (l.take 1))) ∧ Rd w' p (l.drop 1) 0 ∧ w.grownBy w' (some p) := by
  have H : Calls Try.prog 37 #[.pointer (some ⟨p, 0, none⟩), .int .i64 1] w fun e w' => e = .returned (.int .u64 (num (l.take 1))) ∧ Rd w' p (l.drop 1) 0 ∧ w.grownBy w' (some p) := number_ok p 1 l w h hn (by omega)
  have HH := Lib.hid H
  have hb : (num (l.take 1) : Int) < 256 := by have := num_take_lt l 1; omega
  clear H h hn
  generalize num (l.take 1) = x at HH hb ⊢
  go_enter Try.func20, Try.ntmps20
  go_wp2_with (go_at_call 37; refine HH.out.mono ?_; rintro e w1 ⟨rfl, hR, hF⟩)
  go_ret
  exact ⟨by first | rfl | exact ret_int (by omega), hR, hF⟩

set_option maxHeartbeats 400000 in
theorem u8_bad (p : Nat) (l : List UInt8) (st st' : Int) (w : World) (h : Rd w p l st) (hb : Bad st l.length 1 st') :
    Calls Try.prog 20 #[.pointer (some ⟨p, 0, none⟩)] w fun e w' =>
      e = .returned (.int .u8 0) ∧ Rd w' p l st' ∧ w.grownBy w' (some p) := by
  have H : Calls Try.prog 37 #[.pointer (some ⟨p, 0, none⟩), .int .i64 1] w fun e w' => e = .returned (.int .u64 0) ∧ Rd w' p l st' ∧ w.grownBy w' (some p) := number_bad p 1 l st st' w h hb
  have HH := Lib.hid H
  clear H h hb
  go_enter Try.func20, Try.ntmps20
  go_wp2_with (go_at_call 37; refine HH.out.mono ?_; rintro e w1 ⟨rfl, hR, hF⟩)
  go_ret
  exact ⟨rfl, hR, hF⟩

set_option maxHeartbeats 400000 in
theorem u8_nil (w : World) : Calls Try.prog 20 #[.pointer none] w fun e w' => e = .returned (.int .u8 0) ∧ Below w.heap.size w w' := by
  go_enter Try.func20, Try.ntmps20
  go_wp2_with (go_at_call 37; refine (number_nil 1 _).mono ?_; rintro e w1 ⟨rfl, hB⟩)
  go_ret
  exact ⟨rfl, hB⟩

set_option maxHeartbeats 400000 in
theorem u16_ok (p : Nat) (l : List UInt8) (w : World) (h : Rd w p l 0) (hn : 2 ≤ l.length) :
    Calls Try.prog 22 #[.pointer (some ⟨p, 0, none⟩)] w fun e w' =>
      e = .returned (.int .u16 (num (l.take 2))) ∧ Rd w' p (l.drop 2) 0 ∧ w.grownBy w' (some p) := by
  have H : Calls Try.prog 37 #[.pointer (some ⟨p, 0, none⟩), .int .i64 2] w fun e w' => e = .returned (.int .u64 (num (l.take 2))) ∧ Rd w' p (l.drop 2) 0 ∧ w.grownBy w' (some p) := number_ok p 2 l w h hn (by omega)
  have HH := Lib.hid H
  have hb : (num (l.take 2) : Int) < 65536 := by have := num_take_lt l 2; omega
  clear H h hn
  generalize num (l.take 2) = x at HH hb ⊢
  go_enter Try.func22, Try.ntmps22
  go_wp2_with (go_at_call 37; refine HH.out.mono ?_; rintro e w1 ⟨rfl, hR, hF⟩)
  go_ret
  exact ⟨by first | rfl | exact ret_int (by omega), hR, hF⟩

set_option maxHeartbeats 400000 in
theorem u16_bad (p : Nat) (l : List UInt8) (st st' : Int) (w : World) (h : Rd w p l st) (hb : Bad st l.length 2 st') :
    Calls Try.prog 22 #[.pointer (some ⟨p, 0, none⟩)] w fun e w' =>
      e = .returned (.int .u16 0) ∧ Rd w' p l st' ∧ w.grownBy w' (some p) := by
  have H : Calls Try.prog 37 #[.pointer (some ⟨p, 0, none⟩), .int .i64 2] w fun e w' => e = .returned (.int .u64 0) ∧ Rd w' p l st' ∧ w.grownBy w' (some p) := number_bad p 2 l st st' w h hb
  have HH := Lib.hid H
  clear H h hb
  go_enter Try.func22, Try.ntmps22
  go_wp2_with (go_at_call 37; refine HH.out.mono ?_; rintro e w1 ⟨rfl, hR, hF⟩)
  go_ret
  exact ⟨rfl, hR, hF⟩

set_option maxHeartbeats 400000 in
theorem u16_nil (w : World) : Calls Try.prog 22 #[.pointer none] w fun e w' => e = .returned (.int .u16 0) ∧ Below w.heap.size w w' := by
  go_enter Try.func22, Try.ntmps22
  go_wp2_with (go_at_call 37; refine (number_nil 2 _).mono ?_; rintro e w1 ⟨rfl, hB⟩)
  go_ret
  exact ⟨rfl, hB⟩

set_option maxHeartbeats 400000 in
theorem u32_ok (p : Nat) (l : List UInt8) (w : World) (h : Rd w p l 0) (hn : 4 ≤ l.length) :
    Calls Try.prog 23 #[.pointer (some ⟨p, 0, none⟩)] w fun e w' =>
      e = .returned (.int .u32 (num (l.take 4))) ∧ Rd w' p (l.drop 4) 0 ∧ w.grownBy w' (some p) := by
  have H : Calls Try.prog 37 #[.pointer (some ⟨p, 0, none⟩), .int .i64 4] w fun e w' => e = .returned (.int .u64 (num (l.take 4))) ∧ Rd w' p (l.drop 4) 0 ∧ w.grownBy w' (some p) := number_ok p 4 l w h hn (by omega)
  have HH := Lib.hid H
  have hb : (num (l.take 4) : Int) < 4294967296 := by have := num_take_lt l 4; omega
  clear H h hn
  generalize num (l.take 4) = x at HH hb ⊢
  go_enter Try.func23, Try.ntmps23
  go_wp2_with (go_at_call 37; refine HH.out.mono ?_; rintro e w1 ⟨rfl, hR, hF⟩)
  go_ret
  exact ⟨by first | rfl | exact ret_int (by omega), hR, hF⟩

set_option maxHeartbeats 400000 in
theorem u32_bad (p : Nat) (l : List UInt8) (st st' : Int) (w : World) (h : Rd w p l st) (hb : Bad st l.length 4 st') :
    Calls Try.prog 23 #[.pointer (some ⟨p, 0, none⟩)] w fun e w' =>
      e = .returned (.int .u32 0) ∧ Rd w' p l st' ∧ w.grownBy w' (some p) := by
  have H : Calls Try.prog 37 #[.pointer (some ⟨p, 0, none⟩), .int .i64 4] w fun e w' => e = .returned (.int .u64 0) ∧ Rd w' p l st' ∧ w.grownBy w' (some p) := number_bad p 4 l st st' w h hb
  have HH := Lib.hid H
  clear H h hb
  go_enter Try.func23, Try.ntmps23
  go_wp2_with (go_at_call 37; refine HH.out.mono ?_; rintro e w1 ⟨rfl, hR, hF⟩)
  go_ret
  exact ⟨rfl, hR, hF⟩

set_option maxHeartbeats 400000 in
theorem u32_nil (w : World) : Calls Try.prog 23 #[.pointer none] w fun e w' => e = .returned (.int .u32 0) ∧ Below w.heap.size w w' := by
  go_enter Try.func23, Try.ntmps23
  go_wp2_with (go_at_call 37; refine (number_nil 4 _).mono ?_; rintro e w1 ⟨rfl, hB⟩)
  go_ret
  exact ⟨rfl, hB⟩

set_option maxHeartbeats 400000 in
theorem u64_ok (p : Nat) (l : List UInt8) (w : World) (h : Rd w p l 0) (hn : 8 ≤ l.length) :
    Calls Try.prog 24 #[.pointer (some ⟨p, 0, none⟩)] w fun e w' =>
      e = .returned (.int .u64 (num (l.take 8))) ∧ Rd w' p (l.drop 8) 0 ∧ w.grownBy w' (some p) := by
  have H : Calls Try.prog 37 #[.pointer (some ⟨p, 0, none⟩), .int .i64 8] w fun e w' => e = .returned (.int .u64 (num (l.take 8))) ∧ Rd w' p (l.drop 8) 0 ∧ w.grownBy w' (some p) := number_ok p 8 l w h hn (by omega)
  have HH := Lib.hid H
  have hb : (num (l.take 8) : Int) < 18446744073709551616 := by have := num_take_lt l 8; omega
  clear H h hn
  generalize num (l.take 8) = x at HH hb ⊢
  go_enter Try.func24, Try.ntmps24
  go_wp2_with (go_at_call 37; refine HH.out.mono ?_; rintro e w1 ⟨rfl, hR, hF⟩)
  go_ret
  exact ⟨by first | rfl | exact ret_int (by omega), hR, hF⟩

set_option maxHeartbeats 400000 in
theorem u64_bad (p : Nat) (l : List UInt8) (st st' : Int) (w : World) (h : Rd w p l st) (hb : Bad st l.length 8 st') :
    Calls Try.prog 24 #[.pointer (some ⟨p, 0, none⟩)] w fun e w' =>
      e = .returned (.int .u64 0) ∧ Rd w' p l st' ∧ w.grownBy w' (some p) := by
  have H : Calls Try.prog 37 #[.pointer (some ⟨p, 0, none⟩), .int .i64 8] w fun e w' => e = .returned (.int .u64 0) ∧ Rd w' p l st' ∧ w.grownBy w' (some p) := number_bad p 8 l st st' w h hb
  have HH := Lib.hid H
  clear H h hb
  go_enter Try.func24, Try.ntmps24
  go_wp2_with (go_at_call 37; refine HH.out.mono ?_; rintro e w1 ⟨rfl, hR, hF⟩)
  go_ret
  exact ⟨rfl, hR, hF⟩

set_option maxHeartbeats 400000 in
theorem u64_nil (w : World) : Calls Try.prog 24 #[.pointer none] w fun e w' => e = .returned (.int .u64 0) ∧ Below w.heap.size w w' := by
  go_enter Try.func24, Try.ntmps24
  go_wp2_with (go_at_call 37; refine (number_nil 8 _).mono ?_; rintro e w1 ⟨rfl, hB⟩)
  go_ret
  exact ⟨rfl, hB⟩

end Go.Proofs.Ytifclmmfnfppiaa
