/-
  The contracts of Add, Less, Stop, Ago, Up, Down, Times. No statement is proved here.
-/
import Derived.Test.YtdoplpgmnoefeaaDoorCr
namespace Go.Proofs.YtdoplpgmnoefeaaDoor
open Go.RowKit

/-- a number and an error; what was there has not turned -/
def Two (a b : Int) (w : World) (e : Ending) (w' : World) : Prop := e = .returned (.tuple #[.int .i64 a, .int .i64 b]) ∧ Below w.heap.size w w'

theorem emod_le_self {t d : Int} (h0 : 0 ≤ t) (h2 : 0 < d) : t % d ≤ t := by
  have h := Int.mul_nonneg (show 0 ≤ d by omega) (Int.ediv_nonneg h0 (show 0 ≤ d by omega))
  have e := Int.mul_ediv_add_emod t d
  omega

theorem addE_zero {t d : Int} (h : addE t d = 0) : 0 ≤ t ∧ t ≤ 1125899906842624 ∧ 0 ≤ d ∧ d ≤ 1125899906842624 ∧ t + d ≤ 1125899906842624 := by
  unfold addE at h
  split at h
  · rename_i hb
    simp only [Bool.and_eq_true] at hb
    have := rt_true hb.1
    have := rt_true hb.2
    split at h
    · simp at h
    · omega
  · simp at h
theorem lessE_zero {t d : Int} (h : lessE t d = 0) : 0 ≤ t ∧ t ≤ 1125899906842624 ∧ 0 ≤ d ∧ d ≤ t := by
  unfold lessE at h
  split at h
  · rename_i hb
    simp only [Bool.and_eq_true] at hb
    have := rt_true hb.1
    have := rt_true hb.2
    split at h
    · simp at h
    · omega
  · simp at h
theorem downE_zero {t d : Int} (h : downE t d = 0) : 0 ≤ t ∧ t ≤ 1125899906842624 ∧ 0 < d ∧ d ≤ 1125899906842624 := by
  unfold downE at h
  split at h
  · rename_i hb
    simp only [Bool.and_eq_true] at hb
    have := rt_true hb.1
    have := rt_true hb.2
    split at h
    · simp at h
    · omega
  · simp at h
theorem upE_zero {t d : Int} (h : upE t d = 0) : 0 ≤ t ∧ t ≤ 1125899906842624 ∧ 0 < d ∧ d ≤ 1125899906842624 ∧ t + miss t d ≤ 1125899906842624 := by
  unfold upE at h
  split at h
  · rename_i hb
    simp only [Bool.and_eq_true] at hb
    have := rt_true hb.1
    have := rt_true hb.2
    split at h
    · simp at h
    · split at h
      · simp at h
      · omega
  · simp at h

def addV (t d : Int) : Int := if addE t d = 0 then t + d else 0
def lessV (t d : Int) : Int := if lessE t d = 0 then t - d else 0
def downV (t d : Int) : Int := if downE t d = 0 then t - t % d else 0
def upV (t d : Int) : Int := if upE t d = 0 then t + miss t d else 0
def stopE (t d : Int) : Int := chk [t, d]
def stopV (t d : Int) : Int := if (rt t && rt d) = true then (if t + d ≤ 1125899906842624 then t + d else 1125899906842624) else 0
def agoV (t d : Int) : Int := if (rt t && rt d) = true then (if 0 ≤ t - d then t - d else 0) else 0
def timesE (d n : Int) : Int := if rt d = true then (if n < 0 then 2 else 0) else 120
def timesV (d n : Int) : Int := if rt d = true then (if n < 0 then 0 else if 0 < d ∧ 1125899906842624 / d < n then 1125899906842624 else d * n) else 0
theorem times_le {d n : Int} (h0 : 0 ≤ d) (hn : 0 ≤ n) (h : ¬ (0 < d ∧ 1125899906842624 / d < n)) : 0 ≤ d * n ∧ d * n ≤ 1125899906842624 := by
  refine ⟨Int.mul_nonneg h0 hn, ?_⟩
  by_cases hd : 0 < d
  · have h1 : n ≤ 1125899906842624 / d := by omega
    have h2 := Int.mul_le_mul_of_nonneg_left h1 h0
    have h3 := Int.mul_ediv_self_le (x := 1125899906842624) (k := d) (by omega)
    omega
  · obtain rfl : d = 0 := by omega
    simp

set_option maxHeartbeats 1000000 in
theorem add_any (t d : Int) (w : World) : Calls Tryd.prog 13 #[.int .i64 t, .int .i64 d] w (Two (addV t d) (addE t d) w) := by
  have HT := refused_add t d w
  by_cases hE : addE t d = 0
  · have hb := addE_zero hE
    have HV : addV t d = t + d := if_pos hE
    rw [hE] at HT
    rw [HV, hE]
    clear HV hE
    obtain ⟨h0, h1, h2, h3, h4⟩ := hb
    have HT := Lib.hid HT
    go_enter Tryd.func13, Tryd.ntmps13
    go_wp2_with fail
    refine HT.out.mono ?_
    rintro e w1 ⟨rfl, hB⟩
    go_wp2
    go_ret2
    exact ⟨rfl, hB⟩
  · have HV : addV t d = 0 := if_neg hE
    rw [HV]
    clear HV
    generalize addE t d = n at hE HT
    have HT := Lib.hid HT
    have hn : (n == 0) = false := by simpa using hE
    clear hE
    go_enter Tryd.func13, Tryd.ntmps13
    go_wp2_with fail
    refine HT.out.mono ?_
    rintro e w1 ⟨rfl, hB⟩
    go_wp2
    go_ret2
    exact ⟨rfl, hB⟩

set_option maxHeartbeats 1000000 in
theorem less_any (t d : Int) (w : World) : Calls Tryd.prog 14 #[.int .i64 t, .int .i64 d] w (Two (lessV t d) (lessE t d) w) := by
  have HT := refused_less t d w
  by_cases hE : lessE t d = 0
  · have hb := lessE_zero hE
    have HV : lessV t d = t - d := if_pos hE
    rw [hE] at HT
    rw [HV, hE]
    clear HV hE
    obtain ⟨h0, h1, h2, h3⟩ := hb
    have HT := Lib.hid HT
    go_enter Tryd.func14, Tryd.ntmps14
    go_wp2_with fail
    refine HT.out.mono ?_
    rintro e w1 ⟨rfl, hB⟩
    go_wp2
    go_ret2
    exact ⟨rfl, hB⟩
  · have HV : lessV t d = 0 := if_neg hE
    rw [HV]
    clear HV
    generalize lessE t d = n at hE HT
    have HT := Lib.hid HT
    have hn : (n == 0) = false := by simpa using hE
    clear hE
    go_enter Tryd.func14, Tryd.ntmps14
    go_wp2_with fail
    refine HT.out.mono ?_
    rintro e w1 ⟨rfl, hB⟩
    go_wp2
    go_ret2
    exact ⟨rfl, hB⟩

set_option maxHeartbeats 1000000 in
theorem down_any (t d : Int) (w : World) : Calls Tryd.prog 21 #[.int .i64 t, .int .i64 d] w (Two (downV t d) (downE t d) w) := by
  have HT := refused_down t d w
  by_cases hE : downE t d = 0
  · have hb := downE_zero hE
    have HV : downV t d = t - t % d := if_pos hE
    rw [hE] at HT
    rw [HV, hE]
    clear HV hE
    obtain ⟨h0, h1, h2, h3⟩ := hb
    have HT := Lib.hid HT
    have a0 := Int.emod_nonneg t (show d ≠ 0 by omega)
    have a1 := Int.emod_lt_of_pos t h2
    have a2 : t % d ≤ t := emod_le_self h0 h2
    go_enter Tryd.func21, Tryd.ntmps21
    go_wp2_with fail
    refine HT.out.mono ?_
    rintro e w1 ⟨rfl, hB⟩
    go_wp2
    go_ret2
    exact ⟨rfl, hB⟩
  · have HV : downV t d = 0 := if_neg hE
    rw [HV]
    clear HV
    generalize downE t d = n at hE HT
    have HT := Lib.hid HT
    have hn : (n == 0) = false := by simpa using hE
    clear hE
    go_enter Tryd.func21, Tryd.ntmps21
    go_wp2_with fail
    refine HT.out.mono ?_
    rintro e w1 ⟨rfl, hB⟩
    go_wp2
    go_ret2
    exact ⟨rfl, hB⟩

set_option maxHeartbeats 1000000 in
theorem up_any (t d : Int) (w : World) : Calls Tryd.prog 20 #[.int .i64 t, .int .i64 d] w (Two (upV t d) (upE t d) w) := by
  have HT := refused_up t d w
  by_cases hE : upE t d = 0
  · have hb := upE_zero hE
    have HV : upV t d = t + miss t d := if_pos hE
    rw [hE] at HT
    rw [HV, hE]
    clear HV hE
    obtain ⟨h0, h1, h2, h3, h4⟩ := hb
    have HT := Lib.hid HT
    have HM := Lib.hid (fun u => missing_any t d u h0 h1 h2 h3)
    have hmb := (miss_bd (t := t) h2).1
    go_enter Tryd.func20, Tryd.ntmps20
    go_wp2_with fail
    refine HT.out.mono ?_
    rintro e w1 ⟨rfl, hB⟩
    go_wp2_with fail
    refine (HM.out _).mono ?_
    rintro e w' ⟨rfl, rfl⟩
    go_wp2
    go_ret2
    exact ⟨rfl, hB⟩
  · have HV : upV t d = 0 := if_neg hE
    rw [HV]
    clear HV
    generalize upE t d = n at hE HT
    have HT := Lib.hid HT
    have hn : (n == 0) = false := by simpa using hE
    clear hE
    go_enter Tryd.func20, Tryd.ntmps20
    go_wp2_with fail
    refine HT.out.mono ?_
    rintro e w1 ⟨rfl, hB⟩
    go_wp2
    go_ret2
    exact ⟨rfl, hB⟩

set_option maxHeartbeats 1000000 in
theorem stop_any (t d : Int) (w : World) : Calls Tryd.prog 15 #[.int .i64 t, .int .i64 d] w (Two (stopV t d) (chk [t, d]) w) := by
  have HT := checkAll_two t d w
  rcases chk2 t d with ⟨hc, ht, hd⟩ | ⟨hc, hb⟩
  · rw [hc] at HT ⊢
    have b := rt_true ht
    have b' := rt_true hd
    obtain ⟨b0, b1⟩ := b
    obtain ⟨b2, b3⟩ := b'
    have HT := Lib.hid HT
    by_cases hf : t + d ≤ 1125899906842624
    · have HV : stopV t d = t + d := by unfold stopV; rw [ht, hd]; exact (if_pos rfl).trans (if_pos hf)
      rw [HV]
      clear HV hc ht hd
      go_enter Tryd.func15, Tryd.ntmps15
      go_wp2_with fail
      refine HT.out.mono ?_
      rintro e w' ⟨rfl, rfl⟩
      go_wp2
      go_ret2
      exact ⟨by simp, (Below.refl _ _).alloc (Nat.le_refl _) _⟩
    · have HV : stopV t d = 1125899906842624 := by unfold stopV; rw [ht, hd]; exact (if_pos rfl).trans (if_neg hf)
      rw [HV]
      clear HV hc ht hd
      go_enter Tryd.func15, Tryd.ntmps15
      go_wp2_with fail
      refine HT.out.mono ?_
      rintro e w' ⟨rfl, rfl⟩
      go_wp2
      go_ret2
      exact ⟨by simp, (Below.refl _ _).alloc (Nat.le_refl _) _⟩
  · rw [hc] at HT ⊢
    have HV : stopV t d = 0 := by unfold stopV; rw [hb]; simp
    rw [HV]
    clear HV hc hb
    have HT := Lib.hid HT
    go_enter Tryd.func15, Tryd.ntmps15
    go_wp2_with fail
    refine HT.out.mono ?_
    rintro e w' ⟨rfl, rfl⟩
    go_wp2
    go_ret2
    exact ⟨rfl, (Below.refl _ _).alloc (Nat.le_refl _) _⟩

set_option maxHeartbeats 1000000 in
theorem ago_any (t d : Int) (w : World) : Calls Tryd.prog 16 #[.int .i64 t, .int .i64 d] w (Two (agoV t d) (chk [t, d]) w) := by
  have HT := checkAll_two t d w
  rcases chk2 t d with ⟨hc, ht, hd⟩ | ⟨hc, hb⟩
  · rw [hc] at HT ⊢
    have b := rt_true ht
    have b' := rt_true hd
    obtain ⟨b0, b1⟩ := b
    obtain ⟨b2, b3⟩ := b'
    have HT := Lib.hid HT
    by_cases hf : 0 ≤ t - d
    · have HV : agoV t d = t - d := by unfold agoV; rw [ht, hd]; exact (if_pos rfl).trans (if_pos hf)
      rw [HV]
      clear HV hc ht hd
      go_enter Tryd.func16, Tryd.ntmps16
      go_wp2_with fail
      refine HT.out.mono ?_
      rintro e w' ⟨rfl, rfl⟩
      go_wp2
      go_ret2
      exact ⟨by simp, (Below.refl _ _).alloc (Nat.le_refl _) _⟩
    · have HV : agoV t d = 0 := by unfold agoV; rw [ht, hd]; exact (if_pos rfl).trans (if_neg hf)
      rw [HV]
      clear HV hc ht hd
      go_enter Tryd.func16, Tryd.ntmps16
      go_wp2_with fail
      refine HT.out.mono ?_
      rintro e w' ⟨rfl, rfl⟩
      go_wp2
      go_ret2
      exact ⟨by simp, (Below.refl _ _).alloc (Nat.le_refl _) _⟩
  · rw [hc] at HT ⊢
    have HV : agoV t d = 0 := by unfold agoV; rw [hb]; simp
    rw [HV]
    clear HV hc hb
    have HT := Lib.hid HT
    go_enter Tryd.func16, Tryd.ntmps16
    go_wp2_with fail
    refine HT.out.mono ?_
    rintro e w' ⟨rfl, rfl⟩
    go_wp2
    go_ret2
    exact ⟨rfl, (Below.refl _ _).alloc (Nat.le_refl _) _⟩

set_option maxHeartbeats 1000000 in
theorem times_any (d n : Int) (w : World) : Calls Tryd.prog 24 #[.int .i64 d, .int .i64 n] w (Two (timesV d n) (timesE d n) w) := by
  have HT := check_any d w
  rcases chk1 d with ⟨hc, hd⟩ | ⟨hc, hb⟩
  · rw [hc] at HT
    clear hc
    have HT := Lib.hid HT
    obtain ⟨b0, b1⟩ := rt_true hd
    by_cases hn : n < 0
    · have HV : timesV d n = 0 := by unfold timesV; rw [if_pos hd, if_pos hn]
      have HE : timesE d n = 2 := by unfold timesE; rw [if_pos hd, if_pos hn]
      rw [HV, HE]
      clear HV HE hd
      go_enter Tryd.func24, Tryd.ntmps24
      go_wp2_with fail
      refine HT.out.mono ?_
      rintro e w1 ⟨rfl, hB⟩
      go_wp2
      go_ret2
      exact ⟨rfl, hB⟩
    · have HE : timesE d n = 0 := by unfold timesE; rw [if_pos hd, if_neg hn]
      by_cases h0 : 0 < d
      · by_cases hf : 1125899906842624 / d < n
        · have HV : timesV d n = 1125899906842624 := by unfold timesV; rw [if_pos hd, if_neg hn, if_pos ⟨h0, hf⟩]
          rw [HV, HE]
          clear HV HE hd
          go_enter Tryd.func24, Tryd.ntmps24
          go_wp2_with fail
          refine HT.out.mono ?_
          rintro e w1 ⟨rfl, hB⟩
          go_wp2
          go_ret2
          exact ⟨rfl, hB⟩
        · have HV : timesV d n = d * n := by unfold timesV; rw [if_pos hd, if_neg hn, if_neg (by omega)]
          obtain ⟨m0, m1⟩ := times_le b0 (show 0 ≤ n by omega) (show ¬ (0 < d ∧ 1125899906842624 / d < n) by omega)
          rw [HV, HE]
          clear HV HE hd
          go_enter Tryd.func24, Tryd.ntmps24
          go_wp2_with fail
          refine HT.out.mono ?_
          rintro e w1 ⟨rfl, hB⟩
          go_wp2
          go_ret2
          exact ⟨rfl, hB⟩
      · have HV : timesV d n = d * n := by unfold timesV; rw [if_pos hd, if_neg hn, if_neg (by omega)]
        obtain ⟨m0, m1⟩ := times_le b0 (show 0 ≤ n by omega) (show ¬ (0 < d ∧ 1125899906842624 / d < n) by omega)
        rw [HV, HE]
        clear HV HE hd
        go_enter Tryd.func24, Tryd.ntmps24
        go_wp2_with fail
        refine HT.out.mono ?_
        rintro e w1 ⟨rfl, hB⟩
        go_wp2
        go_ret2
        exact ⟨rfl, hB⟩
  · rw [hc] at HT
    have HV : timesV d n = 0 := by unfold timesV; rw [if_neg (by simp [hb])]
    have HE : timesE d n = 120 := by unfold timesE; rw [if_neg (by simp [hb])]
    rw [HV, HE]
    clear HV HE hc hb
    have HT := Lib.hid HT
    go_enter Tryd.func24, Tryd.ntmps24
    go_wp2_with fail
    refine HT.out.mono ?_
    rintro e w1 ⟨rfl, hB⟩
    go_wp2
    go_ret2
    exact ⟨rfl, hB⟩

end Go.Proofs.YtdoplpgmnoefeaaDoor
