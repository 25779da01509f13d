/-
  The contracts of the landed topo: isCount, areSeats and what it stands on, Check. No statement is proved here.
-/
import Derived.Test.YtfalkiinlkfanaaTp
namespace Go.Proofs.Ytfalkiinlkfanaa
open Go.RowKit

set_option maxRecDepth 100000 in
set_option maxHeartbeats 400000 in
theorem iscount_any (n m : Int) (w : World) : Calls Try.prog 38 #[.int .i64 n, .int .i64 m] w fun e w' => e = .returned (.bool (decide (1 ≤ n) && decide (n ≤ m))) ∧ w = w' := by
  by_cases h0 : 1 ≤ n
  · by_cases h1 : n ≤ m
    · have H : Hid ((decide (1 ≤ n) && decide (n ≤ m)) = true) := Lib.hid (by simp [h0, h1])
      rw [H.out]
      go_enter Try.func38, Try.ntmps38
      go_wp2
      go_ret
      exact ⟨rfl, rfl⟩
    · have H : Hid ((decide (1 ≤ n) && decide (n ≤ m)) = false) := Lib.hid (by simp [h1])
      rw [H.out]
      go_enter Try.func38, Try.ntmps38
      go_wp2
      go_ret
      exact ⟨rfl, rfl⟩
  · have H : Hid ((decide (1 ≤ n) && decide (n ≤ m)) = false) := Lib.hid (by simp [h0])
    rw [H.out]
    go_enter Try.func38, Try.ntmps38
    go_wp2
    go_ret
    exact ⟨rfl, rfl⟩

set_option maxRecDepth 100000 in
set_option maxHeartbeats 1000000 in
theorem wrong_any (x y : Int) (w : World) : Calls Try.prog 63 #[.agg #[.int .i64 x, .int .i64 y]] w (Said (.bool (!seatB (x, y))) w) := by
  have B := Lib.hid ((Below.refl w.heap.size w).alloc (Nat.le_refl _) (.cells #[.int .i64 x, .int .i64 y] 37))
  cases hs : seatB (x, y) with
  | true =>
    obtain ⟨s1, s2, s3, s4⟩ := seat_yes hs
    have e1 : decide (x < 0) = false := by simp; omega
    have e2 : decide ((4 : Int) ≤ x) = false := by simp; omega
    have e3 : decide (y < 0) = false := by simp; omega
    have e4 : decide ((8 : Int) ≤ y) = false := by simp; omega
    clear hs s1 s2 s3 s4
    go_enter Try.func63, Try.ntmps63
    go_wp2
    go_ret
    exact ⟨rfl, B.out⟩
  | false =>
    rcases seat_no hs with s1 | ⟨s1, s2⟩ | ⟨s1, s2, s3⟩ | ⟨s1, s2, s3, s4⟩
    · have e1 : decide (x < 0) = true := by simp; omega
      clear hs s1
      go_enter Try.func63, Try.ntmps63
      go_wp2
      go_ret
      exact ⟨rfl, B.out⟩
    · have e1 : decide (x < 0) = false := by simp; omega
      have e2 : decide ((4 : Int) ≤ x) = true := by simp; omega
      clear hs s1 s2
      go_enter Try.func63, Try.ntmps63
      go_wp2
      go_ret
      exact ⟨rfl, B.out⟩
    · have e1 : decide (x < 0) = false := by simp; omega
      have e2 : decide ((4 : Int) ≤ x) = false := by simp; omega
      have e3 : decide (y < 0) = true := by simp; omega
      clear hs s1 s2 s3
      go_enter Try.func63, Try.ntmps63
      go_wp2
      go_ret
      exact ⟨rfl, B.out⟩
    · have e1 : decide (x < 0) = false := by simp; omega
      have e2 : decide ((4 : Int) ≤ x) = false := by simp; omega
      have e3 : decide (y < 0) = false := by simp; omega
      have e4 : decide ((8 : Int) ≤ y) = true := by simp; omega
      clear hs s1 s2 s3 s4
      go_enter Try.func63, Try.ntmps63
      go_wp2
      go_ret
      exact ⟨rfl, B.out⟩

theorem all_no {l : List (Int × Int)} {k : Nat} {s : Int × Int} (hk : l[k]? = some s) (h : seatB s = false) : l.all seatB = false := by
  cases ha : l.all seatB with
  | false => rfl
  | true =>
    rw [List.all_eq_true] at ha
    rw [ha _ (List.mem_of_getElem? hk)] at h
    cases h

/-- a number, from 0 on where one is wrong -/
def Finds (b : Bool) (w : World) (e : Ending) (w' : World) : Prop := ∃ z : Int, e = .returned (.int .i64 z) ∧ decide (0 ≤ z) = !b ∧ Below w.heap.size w w'

set_option maxRecDepth 100000 in
set_option maxHeartbeats 4000000 in
theorem findwrong_any (A : Option Addr) (n c : Nat) (l : List (Int × Int)) (w : World) (hR : Reads w w.heap.size 2 A n (svs l)) (hn : n ≤ maxLen) :
    Calls Try.prog 71 #[.slice A n c, .func (.func 63) #[] #[]] w (Finds (l.all seatB) w) := by
  unfold maxLen at hn
  have HL := Lib.hid (reads_len hR)
  have HR := Lib.hid hR
  have HW := Lib.hid (fun x y u => wrong_any x y u)
  clear hR
  go_enter Try.func71, Try.ntmps71
  go_wp2_with fail
  go_loopw [8] (fun i wr => ∃ k : Nat, k ≤ n ∧ i = .int .i64 (k : Int) ∧ Hid ((l.take k).all seatB = true) ∧ Below w.heap.size w wr) (fun i _ => n - (intOf i).toNat)
  case atStart => exact ⟨0, by omega, rfl, Lib.hid (by rw [List.take_zero]; rfl), Below.refl _ _⟩
  case round =>
    obtain ⟨k, hk, rfl, HA, hB⟩ := hrel
    by_cases hlt : k < n
    · obtain ⟨⟨x, y⟩, hm⟩ := elem_at (l := l) (k := k) (by rw [HL.out]; exact hlt)
      obtain ⟨ad, rfl, hb, d0, d1⟩ := seat_at (HR.out.below hB) hm
      have HM := Lib.hid hm
      have HX := Lib.hid (fun u => HW.out x y u)
      have hsz := hB.size
      clear hm
      cases hs : seatB (x, y) with
      | true =>
        have HS := Lib.hid (all_seat_step HM.out hs HA.out)
        rw [hs] at HX
        clear hs
        go_wp2_with fail
        refine (HX.out _).mono ?_
        rintro e w2 ⟨rfl, h2⟩
        have B2 := hB.trans (h2.mono hsz)
        clear d0 d1 h2 hB
        go_wp2
        go_roundw
        case rel => exact ⟨k + 1, by omega, by go_num, HS, B2⟩
        case measure => simp [intOf]; omega
      | false =>
        have HV := Lib.hid (all_no HM.out hs)
        rw [hs] at HX
        clear hs
        go_wp2_with fail
        refine (HX.out _).mono ?_
        rintro e w2 ⟨rfl, h2⟩
        have B2 := hB.trans (h2.mono hsz)
        clear d0 d1 h2 hB
        go_wp2
        go_ret
        refine ⟨(k : Int), rfl, ?_, B2⟩
        rw [HV.out]
        simp
    · obtain rfl : n = k := by omega
      have hall : Hid (l.all seatB = true) := Lib.hid (by
        have := HA.out
        rwa [show l.take n = l by rw [← HL.out]; exact List.take_length] at this)
      go_wp2
      go_ret
      refine ⟨-1, rfl, ?_, hB⟩
      rw [hall.out]
      rfl

set_option maxRecDepth 100000 in
set_option maxHeartbeats 1000000 in
theorem anywrong_any (A : Option Addr) (n c : Nat) (l : List (Int × Int)) (w : World) (hR : Reads w w.heap.size 2 A n (svs l)) (hn : n ≤ maxLen) :
    Calls Try.prog 62 #[.slice A n c, .func (.func 63) #[] #[]] w (Said (.bool (!l.all seatB)) w) := by
  have HF := Lib.hid (findwrong_any A n c l w hR hn)
  clear hR hn
  go_enter Try.func62, Try.ntmps62
  go_wp2_with fail
  refine HF.out.mono ?_
  rintro e w1 ⟨z, rfl, hz, h1⟩
  have HZ := Lib.hid hz
  clear hz
  go_wp2
  go_ret
  exact ⟨retB HZ.out, h1⟩

set_option maxRecDepth 100000 in
set_option maxHeartbeats 1000000 in
theorem seats_any (A : Option Addr) (n c : Nat) (l : List (Int × Int)) (w : World) (hR : Reads w w.heap.size 2 A n (svs l)) (hn : n ≤ maxLen) :
    Calls Try.prog 39 #[.slice A n c] w (Said (.bool (l.all seatB)) w) := by
  have hf := anywrong_any A n c l w hR hn
  generalize l.all seatB = q at hf ⊢
  have HF := Lib.hid hf
  clear hR hn hf
  go_enter Try.func39, Try.ntmps39
  go_wp2_with fail
  refine HF.out.mono ?_
  rintro e w1 ⟨rfl, h1⟩
  go_wp2
  go_ret
  refine ⟨?_, h1⟩
  cases q <;> rfl

theorem right_as (l : List (Int × Int)) : rightT l = (decide (1 ≤ (l.length : Int)) && decide ((l.length : Int) ≤ 8) && l.all seatB) := by
  unfold rightT
  have e1 : decide (1 ≤ (l.length : Int)) = decide (1 ≤ l.length) := decide_eq_decide.2 (by omega)
  have e2 : decide ((l.length : Int) ≤ 8) = decide (l.length ≤ 8) := decide_eq_decide.2 (by omega)
  rw [e1, e2]
  cases l.all seatB <;> simp

set_option maxRecDepth 100000 in
set_option maxHeartbeats 2000000 in
theorem tcheck_ok : TCheckOk := by
  intro A n c l u hAt
  have hl := hAt.len
  have hn : n ≤ maxLen := by have := hAt.2.2; unfold maxLen; omega
  obtain ⟨K, B⟩ : Blk (u.alloc (.cells #[.slice A n c] 27)) u.heap.size 27 #[.slice A n c] ∧ Below u.heap.size u (u.alloc (.cells #[.slice A n c] 27)) := ⟨Blk.new _ _ _, (Below.refl _ _).alloc (Nat.le_refl _) _⟩
  have HB := Lib.hid (And.intro K B)
  have HS := Lib.hid (seats_any A n c l _ ((hAt.1.below B).more B.size) hn)
  have HC := Lib.hid (fun v => iscount_any (n : Int) 8 v)
  have hv := right_as l
  rw [hl] at hv
  clear hAt hn K B hl
  cases hc : (decide (1 ≤ (n : Int)) && decide ((n : Int) ≤ 8)) with
  | false =>
    rw [hc] at HC
    rw [hc, Bool.false_and] at hv
    rw [hv]
    clear hc hv
    go_enter Try.func13, Try.ntmps13
    go_wp2_with fail
    refine (HC.out _).mono ?_
    rintro e w1 ⟨rfl, rfl⟩
    go_wp2
    go_ret
    exact ⟨rfl, HB.out.2⟩
  | true =>
    rw [hc] at HC
    rw [hc, Bool.true_and] at hv
    rw [hv]
    clear hc hv
    cases hs : l.all seatB with
    | false =>
      rw [hs] at HS
      clear hs
      go_enter Try.func13, Try.ntmps13
      go_wp2_with fail
      refine (HC.out _).mono ?_
      rintro e w1 ⟨rfl, rfl⟩
      go_wp2_with fail
      refine HS.out.mono ?_
      rintro e w2 ⟨rfl, h2⟩
      have B2 := Lib.hid (HB.out.2.trans (h2.mono HB.out.2.size))
      clear h2
      go_wp2
      go_ret
      exact ⟨rfl, B2.out⟩
    | true =>
      rw [hs] at HS
      clear hs
      go_enter Try.func13, Try.ntmps13
      go_wp2_with fail
      refine (HC.out _).mono ?_
      rintro e w1 ⟨rfl, rfl⟩
      go_wp2_with fail
      refine HS.out.mono ?_
      rintro e w2 ⟨rfl, h2⟩
      have B2 := Lib.hid (HB.out.2.trans (h2.mono HB.out.2.size))
      clear h2
      go_wp2
      go_ret
      exact ⟨rfl, B2.out⟩

end Go.Proofs.Ytfalkiinlkfanaa
