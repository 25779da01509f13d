/-
  The contracts of the document's answers (Right, Add, Stop, Times, Down, Up), and of the statements' own 'answers'. No statement is proved here.
-/
import Derived.Test.YtdoplpgmnoefeaaDoorCa
namespace Go.Proofs.YtdoplpgmnoefeaaDoor
open Go.RowKit

set_option maxHeartbeats 400000 in
theorem right_any (t : Int) (w : World) : Calls Tryd.prog 11 #[.int .i64 t] w fun e w' => e = .returned (.bool (rt t)) ∧ w = w' := by
  by_cases h0 : 0 ≤ t
  · by_cases h1 : t ≤ 1125899906842624
    · have H : Hid (rt t = true) := Lib.hid (rt_mk h0 h1)
      go_enter Tryd.func11, Tryd.ntmps11
      go_wp2
      go_ret
      exact ⟨ret_bool H.out.symm, rfl⟩
    · have H : Hid (rt t = false) := Lib.hid (rt_no (.inr (by omega)))
      go_enter Tryd.func11, Tryd.ntmps11
      go_wp2
      go_ret
      exact ⟨ret_bool H.out.symm, rfl⟩
  · have H : Hid (rt t = false) := Lib.hid (rt_no (.inl (by omega)))
    go_enter Tryd.func11, Tryd.ntmps11
    go_wp2
    go_ret
    exact ⟨ret_bool H.out.symm, rfl⟩

/-- a number and whether there is one; nothing has turned -/
def Told (a : Int) (b : Bool) (w : World) (e : Ending) (w' : World) : Prop := e = .returned (.tuple #[.int .i64 a, .bool b]) ∧ w = w'

set_option maxHeartbeats 400000 in
theorem radd_yes (t d : Int) (w : World) (h0 : 0 ≤ t) (h1 : t ≤ 1125899906842624) (hd : 0 ≤ d) (hf : ¬ 1125899906842624 - t < d) :
    Calls Tryd.prog 18 #[.int .i64 t, .int .i64 d] w (Told (t + d) true w) := by
  go_enter Tryd.func18, Tryd.ntmps18
  go_wp2
  go_ret2
  exact ⟨rfl, rfl⟩
set_option maxHeartbeats 400000 in
theorem radd_no (t d : Int) (w : World) (h0 : 0 ≤ t) (h1 : t ≤ 1125899906842624) (_h2 : 0 ≤ d) (hf : 1125899906842624 - t < d) :
    Calls Tryd.prog 18 #[.int .i64 t, .int .i64 d] w (Told 0 false w) := by
  go_enter Tryd.func18, Tryd.ntmps18
  go_wp2
  go_ret2
  exact ⟨rfl, rfl⟩

set_option maxHeartbeats 400000 in
theorem rstop_any (t d : Int) (w : World) (ht : rt t = true) (hd : rt d = true) :
    Calls Tryd.prog 19 #[.int .i64 t, .int .i64 d] w fun e w' => e = .returned (.int .i64 (stopV t d)) ∧ w = w' := by
  obtain ⟨h0, h1⟩ := rt_true ht
  obtain ⟨h2, h3⟩ := rt_true hd
  by_cases hf : 1125899906842624 - t < d
  · have HV : stopV t d = 1125899906842624 := by unfold stopV; rw [ht, hd]; exact (if_pos rfl).trans (if_neg (by omega))
    rw [HV]
    clear HV
    have HT := Lib.hid (radd_no t d w h0 h1 h2 hf)
    clear ht hd
    go_enter Tryd.func19, Tryd.ntmps19
    go_wp2_with fail
    refine HT.out.mono ?_
    rintro e w' ⟨rfl, rfl⟩
    go_wp2
    go_ret
    exact ⟨rfl, rfl⟩
  · have HV : stopV t d = t + d := by unfold stopV; rw [ht, hd]; exact (if_pos rfl).trans (if_pos (by omega))
    rw [HV]
    clear HV
    have HT := Lib.hid (radd_yes t d w h0 h1 h2 hf)
    clear ht hd
    go_enter Tryd.func19, Tryd.ntmps19
    go_wp2_with fail
    refine HT.out.mono ?_
    rintro e w' ⟨rfl, rfl⟩
    go_wp2
    go_ret
    exact ⟨rfl, rfl⟩

set_option maxHeartbeats 400000 in
theorem rtimes_any (d n : Int) (w : World) (hd : rt d = true) (hn : 0 ≤ n) :
    Calls Tryd.prog 25 #[.int .i64 d, .int .i64 n] w fun e w' => e = .returned (.int .i64 (timesV d n)) ∧ w = w' := by
  obtain ⟨b0, b1⟩ := rt_true hd
  have hn' : ¬ n < 0 := by omega
  by_cases h0 : 0 < d
  · by_cases hf : 1125899906842624 / d < n
    · have HV : timesV d n = 1125899906842624 := by unfold timesV; rw [if_pos hd, if_neg hn', if_pos ⟨h0, hf⟩]
      rw [HV]
      clear HV hd
      go_enter Tryd.func25, Tryd.ntmps25
      go_wp2
      go_ret
      exact ⟨rfl, rfl⟩
    · have HV : timesV d n = n * d := by unfold timesV; rw [if_pos hd, if_neg hn', if_neg (by omega), Int.mul_comm]
      obtain ⟨m0, m1⟩ := times_le b0 hn (show ¬ (0 < d ∧ 1125899906842624 / d < n) by omega)
      rw [Int.mul_comm] at m0 m1
      rw [HV]
      clear HV hd
      go_enter Tryd.func25, Tryd.ntmps25
      go_wp2
      go_ret
      exact ⟨rfl, rfl⟩
  · have HV : timesV d n = n * d := by unfold timesV; rw [if_pos hd, if_neg hn', if_neg (by omega), Int.mul_comm]
    obtain ⟨m0, m1⟩ := times_le b0 hn (show ¬ (0 < d ∧ 1125899906842624 / d < n) by omega)
    rw [Int.mul_comm] at m0 m1
    rw [HV]
    clear HV hd
    go_enter Tryd.func25, Tryd.ntmps25
    go_wp2
    go_ret
    exact ⟨rfl, rfl⟩

theorem div_mul {t s : Int} : t / s * s = t - t % s := by
  have := Int.mul_ediv_add_emod t s
  rw [Int.mul_comm] at this
  omega
set_option maxHeartbeats 400000 in
theorem rdown_any (t s : Int) (w : World) (h0 : 0 ≤ t) (h1 : t ≤ 1125899906842624) (h2 : 0 < s) (h3 : s ≤ 1125899906842624) :
    Calls Tryd.prog 23 #[.int .i64 t, .int .i64 s] w fun e w' => e = .returned (.int .i64 (t - t % s)) ∧ w = w' := by
  have a0 := Int.emod_nonneg t (show s ≠ 0 by omega)
  have a2 := emod_le_self h0 h2
  have q0 := Int.ediv_nonneg h0 (show 0 ≤ s by omega)
  have q1 : 0 ≤ t / s * s := by rw [div_mul]; omega
  have q2 : t / s * s ≤ 1125899906842624 := by rw [div_mul]; omega
  have HE := Lib.hid (div_mul (t := t) (s := s))
  have hs : (s == 0) = false := by simp; omega
  go_enter Tryd.func23, Tryd.ntmps23
  go_wp2
  go_ret
  exact ⟨ret_int HE.out, rfl⟩

set_option maxHeartbeats 400000 in
theorem rup_any (t s : Int) (w : World) (h0 : 0 ≤ t) (h1 : t ≤ 1125899906842624) (h2 : 0 < s) (h3 : s ≤ 1125899906842624) :
    Calls Tryd.prog 22 #[.int .i64 t, .int .i64 s] w fun e w' =>
      (1125899906842624 - t < miss t s → Told 0 false w e w') ∧ (¬ 1125899906842624 - t < miss t s → Told (t + miss t s) true w e w') := by
  have a0 := Int.emod_nonneg t (show s ≠ 0 by omega)
  have a1 := Int.emod_lt_of_pos t h2
  have a2 := emod_le_self h0 h2
  have HD := Lib.hid (rdown_any t s w h0 h1 h2 h3)
  by_cases hz : t % s = 0
  · have hm : miss t s = 0 := if_neg (by omega)
    have ht : t - t % s = t := by omega
    rw [ht] at HD
    refine Calls.mono (R := Told t true w) ?_ (fun e w' h => ⟨fun hh => absurd hh (by rw [hm]; omega), fun _ => by rw [hm, Int.add_zero]; exact h⟩)
    clear hm ht hz
    go_enter Tryd.func22, Tryd.ntmps22
    go_wp2_with fail
    refine HD.out.mono ?_
    rintro e w' ⟨rfl, rfl⟩
    go_wp2
    go_ret2
    exact ⟨rfl, rfl⟩
  · have hm : miss t s = s - t % s := if_pos (by omega)
    have e : t - t % s + s = t + (s - t % s) := by omega
    have hne : (t - t % s == t) = false := by simp; omega
    obtain ⟨x, hx⟩ : ∃ x, t - t % s = x := ⟨_, rfl⟩
    rw [hx] at HD hne e
    rw [hm, ← e]
    have hx0 : 0 ≤ x := by omega
    have hx1 : x ≤ 1125899906842624 := by omega
    have c : (1125899906842624 - t < s - t % s) ↔ (1125899906842624 - x < s) := by omega
    rw [c]
    clear hz hm e c hx a0 a1 a2
    by_cases hf : 1125899906842624 - x < s
    · have HT := Lib.hid (radd_no x s w hx0 hx1 (by omega) hf)
      refine Calls.mono (R := Told 0 false w) ?_ (fun e w' h => ⟨fun _ => h, fun hh => absurd hf hh⟩)
      go_enter Tryd.func22, Tryd.ntmps22
      go_wp2_with fail
      refine HD.out.mono ?_
      rintro e w' ⟨rfl, rfl⟩
      go_wp2_with fail
      refine HT.out.mono ?_
      rintro e w' ⟨rfl, rfl⟩
      go_wp2
      go_ret2
      exact ⟨rfl, rfl⟩
    · have HT := Lib.hid (radd_yes x s w hx0 hx1 (by omega) hf)
      refine Calls.mono (R := Told (x + s) true w) ?_ (fun e w' h => ⟨fun hh => absurd hh hf, fun _ => h⟩)
      go_enter Tryd.func22, Tryd.ntmps22
      go_wp2_with fail
      refine HD.out.mono ?_
      rintro e w' ⟨rfl, rfl⟩
      go_wp2_with fail
      refine HT.out.mono ?_
      rintro e w' ⟨rfl, rfl⟩
      go_wp2
      go_ret2
      exact ⟨rfl, rfl⟩

/-- an answer is what it should be -/
def Fits (got e : Int) (ok : Bool) (want no : Int) : Prop :=
  (ok = false ∧ got = 0 ∧ e = 120) ∨ (ok = true ∧ no ≠ 0 ∧ got = 0 ∧ e = no) ∨ (ok = true ∧ no = 0 ∧ got = want ∧ e = 0)
set_option maxHeartbeats 400000 in
theorem answers_any (got e : Int) (ok : Bool) (want no : Int) (w : World) (h : Fits got e ok want no) :
    Calls Tryd.prog 17 #[.int .i64 got, .int .i64 e, .bool ok, .int .i64 want, .int .i64 no] w fun e w' => e = .returned (.bool true) ∧ w = w' := by
  rcases h with ⟨rfl, rfl, rfl⟩ | ⟨rfl, hn, rfl, rfl⟩ | ⟨rfl, rfl, rfl, rfl⟩
  · go_enter Tryd.func17, Tryd.ntmps17
    go_wp2
    go_ret
    exact ⟨rfl, rfl⟩
  · have hn' : (e == 0) = false := by simpa using hn
    clear hn
    go_enter Tryd.func17, Tryd.ntmps17
    go_wp2
    go_ret
    exact ⟨rfl, rfl⟩
  · go_enter Tryd.func17, Tryd.ntmps17
    go_wp2
    go_ret
    exact ⟨rfl, rfl⟩

end Go.Proofs.YtdoplpgmnoefeaaDoor
