/-
  The contract of the landed wide's product over a number. No statement is proved here.
-/
import Derived.Test.YteglkhljenjplaaWh
namespace Go.Proofs.Yteglkhljenjplaa
open Go.RowKit

/-- n as one word, or refused -/
def One (n z : Nat) (c : Int) : Prop := (c = 0 ∧ n = z ∧ z < 18446744073709551616) ∨ (c = 131 ∧ z = 0 ∧ 18446744073709551616 ≤ n)
theorem One.some (n : Nat) : ∃ z c, One n z c := by
  by_cases hn : n < 18446744073709551616
  · exact ⟨n, 0, .inl ⟨rfl, rfl, hn⟩⟩
  · exact ⟨0, 131, .inr ⟨rfl, rfl, by omega⟩⟩

theorem mul_words {a b : Nat} (ha : a < 18446744073709551616) (hb : b < 18446744073709551616) :
    ∃ ph pl : Nat, a * b = ph * 18446744073709551616 + pl ∧ pl < 18446744073709551616 ∧ ph < 18446744073709551615 := by
  have h1 : a * b ≤ 18446744073709551615 * 18446744073709551615 := Nat.mul_le_mul (by omega) (by omega)
  obtain ⟨L, hL⟩ : ∃ L, a * b = L := ⟨_, rfl⟩
  rw [hL] at h1 ⊢
  exact ⟨L / 18446744073709551616, L % 18446744073709551616, by omega, by omega, by omega⟩

set_option maxHeartbeats 1000000 in
theorem muldiv_nought (a b : Nat) (up : Bool) (ha : a < 18446744073709551616) (hb : b < 18446744073709551616) (w : World) :
    Calls Try.prog 25 #[.int .u64 (a : Int), .int .u64 (b : Int), .int .u64 0, .bool up] w (Ans (.tuple #[.int .u64 0, .int .i64 130]) w) := by
  obtain ⟨ph, pl, e1, hpl, hph⟩ := mul_words ha hb
  have HM := Lib.hid (fun u => mul_any a b ph pl ha hb hpl e1 u)
  have HD := Lib.hid (fun u => div_nought ph pl u)
  clear ha hb e1 hpl hph
  cases up
  all_goals
    go_enter Try.func25, Try.ntmps25
    go_wp2_with fail
    refine (HM.out _).mono ?_
    rintro e w1 ⟨rfl, h1⟩
    go_wp2_with fail
    refine (HD.out _).mono ?_
    rintro e w2 ⟨rfl, h2⟩
    have B := (h1.trans (h2.mono h1.size)).alloc (h1.trans (h2.mono h1.size)).size (.cells #[.int .u64 0, .int .u64 0] 24)
    clear h1 h2
    go_wp2
    go_ret2
    exact ⟨rfl, B⟩

/-- the last steps: the quotient's two words -/
theorem one_of {S sh sl z : Nat} {c : Int} (hS : S = sh * 18446744073709551616 + sl) (hl : sl < 18446744073709551616) (h : One S z c) : (sh = 0 ∧ c = 0 ∧ z = sl) ∨ (0 < sh ∧ c = 131 ∧ z = 0) := by
  rcases h with ⟨h1, h2, h3⟩ | ⟨h1, h2, h3⟩
  · left; omega
  · right; omega

set_option maxHeartbeats 2000000 in
theorem muldiv_down (a b d z : Nat) (c : Int) (ha : a < 18446744073709551616) (hb : b < 18446744073709551616) (hd0 : 0 < d) (hd : d < 18446744073709551616) (hN : One (scaleN a b d false) z c) (w : World) :
    Calls Try.prog 25 #[.int .u64 (a : Int), .int .u64 (b : Int), .int .u64 (d : Int), .bool false] w (Ans (.tuple #[.int .u64 (z : Int), .int .i64 c]) w) := by
  obtain ⟨ph, pl, e1, hpl, hph⟩ := mul_words ha hb
  have HM := Lib.hid (fun u => mul_any a b ph pl ha hb hpl e1 u)
  rw [scaleN_down, e1] at hN
  obtain ⟨Q, hQ⟩ : ∃ Q, (ph * 18446744073709551616 + pl) / d = Q := ⟨_, rfl⟩
  obtain ⟨r, hr⟩ : ∃ r, (ph * 18446744073709551616 + pl) % d = r := ⟨_, rfl⟩
  obtain ⟨qh, hqh⟩ : ∃ q, Q / 18446744073709551616 = q := ⟨_, rfl⟩
  obtain ⟨ql, hql⟩ : ∃ q, Q % 18446744073709551616 = q := ⟨_, rfl⟩
  rw [hQ] at hN
  have hqq : Q = qh * 18446744073709551616 + ql := by omega
  have hqb : ql < 18446744073709551616 := by omega
  have HD := Lib.hid (fun u => div_any ph pl d qh ql r (by omega) hpl hd0 hd (hQ.trans hqq) hqb hr u)
  have hcase := one_of hqq hqb hN
  clear ha hb e1 hpl hph hN hQ hr hqh hql hqq hqb hd0 hd
  rcases hcase with ⟨rfl, rfl, rfl⟩ | ⟨hp, rfl, rfl⟩
  · go_enter Try.func25, Try.ntmps25
    go_wp2_with fail
    refine (HM.out _).mono ?_
    rintro e w1 ⟨rfl, h1⟩
    go_wp2_with fail
    refine (HD.out _).mono ?_
    rintro e w2 ⟨rfl, h2⟩
    have B := (h1.trans (h2.mono h1.size)).alloc (h1.trans (h2.mono h1.size)).size (.cells #[.int .u64 0, .int .u64 (z : Int)] 24)
    clear h1 h2
    go_wp2
    go_ret2
    exact ⟨rfl, B⟩
  · have hpb : decide (0 < qh) = true := decide_eq_true hp
    have hpi : (0 : Int) < (qh : Int) := by omega
    go_enter Try.func25, Try.ntmps25
    go_wp2_with fail
    refine (HM.out _).mono ?_
    rintro e w1 ⟨rfl, h1⟩
    go_wp2_with fail
    refine (HD.out _).mono ?_
    rintro e w2 ⟨rfl, h2⟩
    have B := (h1.trans (h2.mono h1.size)).alloc (h1.trans (h2.mono h1.size)).size (.cells #[.int .u64 (qh : Int), .int .u64 (ql : Int)] 24)
    clear h1 h2
    go_wp2
    go_ret2
    exact ⟨rfl, B⟩

set_option maxHeartbeats 2000000 in
theorem muldiv_up (a b d z : Nat) (c : Int) (ha : a < 18446744073709551616) (hb : b < 18446744073709551616) (hd0 : 0 < d) (hd : d < 18446744073709551616) (hN : One (scaleN a b d true) z c) (w : World) :
    Calls Try.prog 25 #[.int .u64 (a : Int), .int .u64 (b : Int), .int .u64 (d : Int), .bool true] w (Ans (.tuple #[.int .u64 (z : Int), .int .i64 c]) w) := by
  obtain ⟨ph, pl, e1, hpl, hph⟩ := mul_words ha hb
  have HM := Lib.hid (fun u => mul_any a b ph pl ha hb hpl e1 u)
  obtain ⟨Q, hQ⟩ : ∃ Q, (ph * 18446744073709551616 + pl) / d = Q := ⟨_, rfl⟩
  obtain ⟨r, hr⟩ : ∃ r, (ph * 18446744073709551616 + pl) % d = r := ⟨_, rfl⟩
  have hQb : Q < 340282366920938463463374607431768211455 := by
    rw [← hQ]
    exact Nat.lt_of_le_of_lt (Nat.div_le_self _ _) (by omega)
  obtain ⟨qh, hqh⟩ : ∃ q, Q / 18446744073709551616 = q := ⟨_, rfl⟩
  obtain ⟨ql, hql⟩ : ∃ q, Q % 18446744073709551616 = q := ⟨_, rfl⟩
  have hqq : Q = qh * 18446744073709551616 + ql := by omega
  have hqb : ql < 18446744073709551616 := by omega
  have hqhb : qh < 18446744073709551616 := by omega
  have HD := Lib.hid (fun u => div_any ph pl d qh ql r (by omega) hpl hd0 hd (hQ.trans hqq) hqb hr u)
  obtain ⟨sh, sl, hS, hsl, HR⟩ : ∃ sh sl : Nat, scaleN a b d true = sh * 18446744073709551616 + sl ∧ sl < 18446744073709551616 ∧
      Hid (∀ u, Calls Try.prog 35 #[.agg #[.int .u64 (qh : Int), .int .u64 (ql : Int)], .int .u64 (r : Int)] u (Ans (.tuple #[.agg #[.int .u64 (sh : Int), .int .u64 (sl : Int)], .int .i64 0]) u)) := by
    rcases Nat.eq_zero_or_pos r with h0 | h0
    · refine ⟨qh, ql, ?_, hqb, ?_⟩
      · rw [scaleN_even true (by rw [e1, hr]; exact h0), e1, hQ]; exact hqq
      · subst h0
        exact Lib.hid (fun u => round_none qh ql u)
    · obtain ⟨zh, zl, c', hz⟩ := Num.some (qh * 18446744073709551616 + ql + 1)
      have hz' := hz
      rcases hz' with ⟨rfl, h1, h2, h3⟩ | ⟨_, _, _, h4⟩
      · refine ⟨zh, zl, ?_, h3, ?_⟩
        · rw [scaleN_up (by rw [e1, hr]; omega), e1, hQ]; omega
        · exact Lib.hid (fun u => round_some qh ql r zh zl 0 hqhb hqb h0 hz u)
      · omega
  have hcase := one_of hS hsl hN
  clear ha hb e1 hpl hph hN hQ hr hqh hql hqq hqb hd0 hd hQb hqhb hS hsl
  have hpb : (0 < sh ∧ decide (0 < sh) = true) ∨ (sh = 0 ∧ decide (0 < sh) = false) := by
    rcases Nat.eq_zero_or_pos sh with h | h
    · exact .inr ⟨h, by simp [h]⟩
    · exact .inl ⟨h, decide_eq_true h⟩
  rcases hcase with ⟨rfl, rfl, rfl⟩ | ⟨hp, rfl, rfl⟩
  · clear hpb
    go_enter Try.func25, Try.ntmps25
    go_wp2_with fail
    refine (HM.out _).mono ?_
    rintro e w1 ⟨rfl, h1⟩
    go_wp2_with fail
    refine (HD.out _).mono ?_
    rintro e w2 ⟨rfl, h2⟩
    have B := (h1.trans (h2.mono h1.size)).alloc (h1.trans (h2.mono h1.size)).size (.cells #[.int .u64 (qh : Int), .int .u64 (ql : Int)] 24)
    have F := Blk.new w2 24 #[.int .u64 (qh : Int), .int .u64 (ql : Int)]
    have hsz := (h1.trans (h2.mono h1.size)).size
    clear h1 h2
    go_wp2_with fail
    refine (HR.out _).mono ?_
    rintro e w3 ⟨rfl, h3⟩
    replace F := F.below h3 F.lt
    replace B := B.trans (h3.mono B.size)
    have x0 : w3.cell? ⟨w2.heap.size, 0, none⟩ = some (.int .u64 (qh : Int)) := F.cell 0
    have x1 : w3.cell? ⟨w2.heap.size, 1, none⟩ = some (.int .u64 (ql : Int)) := F.cell 1
    have f0 := F.frozen 0
    have f1 := F.frozen 1
    have hlt := F.lt
    have HB := Lib.hid (below_pair (x := .int .u64 0) (y := .int .u64 (z : Int)) B hsz)
    clear h3 F B hsz
    go_wp2
    go_ret2
    exact ⟨rfl, HB.out⟩
  · clear hpb
    have hpb : decide (0 < sh) = true := decide_eq_true hp
    have hpi : (0 : Int) < (sh : Int) := by omega
    go_enter Try.func25, Try.ntmps25
    go_wp2_with fail
    refine (HM.out _).mono ?_
    rintro e w1 ⟨rfl, h1⟩
    go_wp2_with fail
    refine (HD.out _).mono ?_
    rintro e w2 ⟨rfl, h2⟩
    have B := (h1.trans (h2.mono h1.size)).alloc (h1.trans (h2.mono h1.size)).size (.cells #[.int .u64 (qh : Int), .int .u64 (ql : Int)] 24)
    have F := Blk.new w2 24 #[.int .u64 (qh : Int), .int .u64 (ql : Int)]
    have hsz := (h1.trans (h2.mono h1.size)).size
    clear h1 h2
    go_wp2_with fail
    refine (HR.out _).mono ?_
    rintro e w3 ⟨rfl, h3⟩
    replace F := F.below h3 F.lt
    replace B := B.trans (h3.mono B.size)
    have x0 : w3.cell? ⟨w2.heap.size, 0, none⟩ = some (.int .u64 (qh : Int)) := F.cell 0
    have x1 : w3.cell? ⟨w2.heap.size, 1, none⟩ = some (.int .u64 (ql : Int)) := F.cell 1
    have f0 := F.frozen 0
    have f1 := F.frozen 1
    have hlt := F.lt
    have HB := Lib.hid (below_pair (x := .int .u64 (sh : Int)) (y := .int .u64 (sl : Int)) B hsz)
    clear h3 F B hsz
    go_wp2
    go_ret2
    exact ⟨rfl, HB.out⟩

theorem muldiv_any (a b d z : Nat) (c : Int) (up : Bool) (ha : a < 18446744073709551616) (hb : b < 18446744073709551616) (hd0 : 0 < d) (hd : d < 18446744073709551616) (hN : One (scaleN a b d up) z c) (w : World) :
    Calls Try.prog 25 #[.int .u64 (a : Int), .int .u64 (b : Int), .int .u64 (d : Int), .bool up] w (Ans (.tuple #[.int .u64 (z : Int), .int .i64 c]) w) := by
  cases up
  · exact muldiv_down a b d z c ha hb hd0 hd hN w
  · exact muldiv_up a b d z c ha hb hd0 hd hN w

end Go.Proofs.Yteglkhljenjplaa
