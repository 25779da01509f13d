/-
  The contracts of what may be refused (Add, Less, Stop, Ago, Up, Down, Times). No statement is proved here.
-/
import Derived.Test.YtdoplpgmnoefeaaDoorCk
namespace Go.Proofs.YtdoplpgmnoefeaaDoor
open Go.RowKit

def addE (t d : Int) : Int := if (rt t && rt d) = true then (if 1125899906842624 - t < d then 6 else 0) else 120
def lessE (t d : Int) : Int := if (rt t && rt d) = true then (if t < d then 2 else 0) else 120
def upE (t d : Int) : Int := if (rt t && rt d) = true then (if d = 0 then 2 else if 1125899906842624 - t < miss t d then 6 else 0) else 120
def downE (t d : Int) : Int := if (rt t && rt d) = true then (if d = 0 then 2 else 0) else 120

theorem miss_bd {t s : Int} (h2 : 0 < s) : 0 ≤ miss t s ∧ miss t s < s ∧ (t + miss t s) % s = 0 := by
  have a0 := Int.emod_nonneg t (show s ≠ 0 by omega)
  have a1 := Int.emod_lt_of_pos t h2
  unfold miss
  split
  · refine ⟨by omega, by omega, ?_⟩
    have e : t + (s - t % s) = (t - t % s) + s * 1 := by omega
    rw [e, Int.add_mul_emod_self_left]
    exact Int.emod_eq_zero_of_dvd (Int.dvd_self_sub_emod)
  · have : t % s = 0 := by omega
    exact ⟨by omega, by omega, by simpa using this⟩

set_option maxHeartbeats 1000000 in
theorem refused_add (t d : Int) (w : World) :
    Calls Tryd.prog 31 #[.int .i64 0, .int .i64 t, .int .i64 d] w fun e w' => e = .returned (.int .i64 (addE t d)) ∧ Below w.heap.size w w' := by
  have HT := checkAll_two t d w
  rcases chk2 t d with ⟨hc, ht, hd⟩ | ⟨hc, hb⟩
  · rw [hc] at HT
    have b := rt_true ht
    have b' := rt_true hd
    obtain ⟨b0, b1⟩ := b
    obtain ⟨b2, b3⟩ := b'
    by_cases hf : 1125899906842624 - t < d
    · have HE : addE t d = 6 := by unfold addE; rw [ht, hd]; simp [hf]
      rw [HE]
      clear HE hc ht hd
      have HT := Lib.hid HT
      go_enter Tryd.func31, Tryd.ntmps31
      go_wp2_with fail
      refine HT.out.mono ?_
      rintro e w' ⟨rfl, rfl⟩
      go_wp2
      go_ret
      exact ⟨rfl, (Below.refl _ _).alloc (Nat.le_refl _) _⟩
    · have HE : addE t d = 0 := by unfold addE; rw [ht, hd]; simp [hf]
      rw [HE]
      clear HE hc ht hd
      have HT := Lib.hid HT
      go_enter Tryd.func31, Tryd.ntmps31
      go_wp2_with fail
      refine HT.out.mono ?_
      rintro e w' ⟨rfl, rfl⟩
      go_wp2
      go_ret
      exact ⟨rfl, (Below.refl _ _).alloc (Nat.le_refl _) _⟩
  · rw [hc] at HT
    have HE : addE t d = 120 := by unfold addE; simp [hb]
    rw [HE]
    clear HE hc hb
    have HT := Lib.hid HT
    go_enter Tryd.func31, Tryd.ntmps31
    go_wp2_with fail
    refine HT.out.mono ?_
    rintro e w' ⟨rfl, rfl⟩
    go_wp2
    go_ret
    exact ⟨rfl, (Below.refl _ _).alloc (Nat.le_refl _) _⟩

set_option maxHeartbeats 1000000 in
theorem refused_less (t d : Int) (w : World) :
    Calls Tryd.prog 31 #[.int .i64 1, .int .i64 t, .int .i64 d] w fun e w' => e = .returned (.int .i64 (lessE t d)) ∧ Below w.heap.size w w' := by
  have HT := checkAll_two t d w
  rcases chk2 t d with ⟨hc, ht, hd⟩ | ⟨hc, hb⟩
  · rw [hc] at HT
    have b := rt_true ht
    have b' := rt_true hd
    obtain ⟨b0, b1⟩ := b
    obtain ⟨b2, b3⟩ := b'
    by_cases hf : t < d
    · have HE : lessE t d = 2 := by unfold lessE; rw [ht, hd]; simp [hf]
      rw [HE]
      clear HE hc ht hd
      have HT := Lib.hid HT
      go_enter Tryd.func31, Tryd.ntmps31
      go_wp2_with fail
      refine HT.out.mono ?_
      rintro e w' ⟨rfl, rfl⟩
      go_wp2
      go_ret
      exact ⟨rfl, (Below.refl _ _).alloc (Nat.le_refl _) _⟩
    · have HE : lessE t d = 0 := by unfold lessE; rw [ht, hd]; simp [hf]
      rw [HE]
      clear HE hc ht hd
      have HT := Lib.hid HT
      go_enter Tryd.func31, Tryd.ntmps31
      go_wp2_with fail
      refine HT.out.mono ?_
      rintro e w' ⟨rfl, rfl⟩
      go_wp2
      go_ret
      exact ⟨rfl, (Below.refl _ _).alloc (Nat.le_refl _) _⟩
  · rw [hc] at HT
    have HE : lessE t d = 120 := by unfold lessE; simp [hb]
    rw [HE]
    clear HE hc hb
    have HT := Lib.hid HT
    go_enter Tryd.func31, Tryd.ntmps31
    go_wp2_with fail
    refine HT.out.mono ?_
    rintro e w' ⟨rfl, rfl⟩
    go_wp2
    go_ret
    exact ⟨rfl, (Below.refl _ _).alloc (Nat.le_refl _) _⟩

set_option maxHeartbeats 1000000 in
theorem refused_down (t d : Int) (w : World) :
    Calls Tryd.prog 31 #[.int .i64 3, .int .i64 t, .int .i64 d] w fun e w' => e = .returned (.int .i64 (downE t d)) ∧ Below w.heap.size w w' := by
  have HT := checkAll_two t d w
  rcases chk2 t d with ⟨hc, ht, hd⟩ | ⟨hc, hb⟩
  · rw [hc] at HT
    have b := rt_true ht
    have b' := rt_true hd
    obtain ⟨b0, b1⟩ := b
    obtain ⟨b2, b3⟩ := b'
    by_cases hf : d = 0
    · have HE : downE t d = 2 := by unfold downE; rw [ht, hd]; simp [hf]
      rw [HE]
      clear HE hc ht hd
      subst hf
      have HT := Lib.hid HT
      go_enter Tryd.func31, Tryd.ntmps31
      go_wp2_with fail
      refine HT.out.mono ?_
      rintro e w' ⟨rfl, rfl⟩
      go_wp2
      go_ret
      exact ⟨rfl, (Below.refl _ _).alloc (Nat.le_refl _) _⟩
    · have HE : downE t d = 0 := by unfold downE; rw [ht, hd]; simp [hf]
      rw [HE]
      clear HE hc ht hd
      have hf2 : (d == 0) = false := by simpa using hf
      have HT := Lib.hid HT
      go_enter Tryd.func31, Tryd.ntmps31
      go_wp2_with fail
      refine HT.out.mono ?_
      rintro e w' ⟨rfl, rfl⟩
      go_wp2
      go_ret
      exact ⟨rfl, (Below.refl _ _).alloc (Nat.le_refl _) _⟩
  · rw [hc] at HT
    have HE : downE t d = 120 := by unfold downE; simp [hb]
    rw [HE]
    clear HE hc hb
    have HT := Lib.hid HT
    go_enter Tryd.func31, Tryd.ntmps31
    go_wp2_with fail
    refine HT.out.mono ?_
    rintro e w' ⟨rfl, rfl⟩
    go_wp2
    go_ret
    exact ⟨rfl, (Below.refl _ _).alloc (Nat.le_refl _) _⟩

set_option maxHeartbeats 1000000 in
theorem refused_up (t d : Int) (w : World) :
    Calls Tryd.prog 31 #[.int .i64 2, .int .i64 t, .int .i64 d] w fun e w' => e = .returned (.int .i64 (upE t d)) ∧ Below w.heap.size w w' := by
  have HT := checkAll_two t d w
  rcases chk2 t d with ⟨hc, ht, hd⟩ | ⟨hc, hb⟩
  · rw [hc] at HT
    have b := rt_true ht
    have b' := rt_true hd
    obtain ⟨b0, b1⟩ := b
    obtain ⟨b2, b3⟩ := b'
    by_cases hz : d = 0
    · have HE : upE t d = 2 := by unfold upE; rw [ht, hd]; simp [hz]
      rw [HE]
      clear HE hc ht hd
      subst hz
      have HT := Lib.hid HT
      go_enter Tryd.func31, Tryd.ntmps31
      go_wp2_with fail
      refine HT.out.mono ?_
      rintro e w' ⟨rfl, rfl⟩
      go_wp2
      go_ret
      exact ⟨rfl, (Below.refl _ _).alloc (Nat.le_refl _) _⟩
    · by_cases hf : 1125899906842624 - t < miss t d
      · have HE : upE t d = 6 := by unfold upE; rw [ht, hd]; simp [hz, hf]
        rw [HE]
        clear HE hc ht hd
        have hf2 : (d == 0) = false := by simpa using hz
        have HM := Lib.hid (fun u => missing_any t d u b0 b1 (by omega) b3)
        have hmb := miss_bd (t := t) (show 0 < d by omega)
        obtain ⟨m0, m1, _⟩ := hmb
        have HT := Lib.hid HT
        go_enter Tryd.func31, Tryd.ntmps31
        go_wp2_with fail
        refine HT.out.mono ?_
        rintro e w' ⟨rfl, rfl⟩
        go_wp2_with fail
        refine (HM.out _).mono ?_
        rintro e w' ⟨rfl, rfl⟩
        go_wp2
        go_ret
        exact ⟨rfl, (Below.refl _ _).alloc (Nat.le_refl _) _⟩
      · have HE : upE t d = 0 := by unfold upE; rw [ht, hd]; simp [hz, hf]
        rw [HE]
        clear HE hc ht hd
        have hf2 : (d == 0) = false := by simpa using hz
        have HM := Lib.hid (fun u => missing_any t d u b0 b1 (by omega) b3)
        have hmb := miss_bd (t := t) (show 0 < d by omega)
        obtain ⟨m0, m1, _⟩ := hmb
        have HT := Lib.hid HT
        go_enter Tryd.func31, Tryd.ntmps31
        go_wp2_with fail
        refine HT.out.mono ?_
        rintro e w' ⟨rfl, rfl⟩
        go_wp2_with fail
        refine (HM.out _).mono ?_
        rintro e w' ⟨rfl, rfl⟩
        go_wp2
        go_ret
        exact ⟨rfl, (Below.refl _ _).alloc (Nat.le_refl _) _⟩
  · rw [hc] at HT
    have HE : upE t d = 120 := by unfold upE; simp [hb]
    rw [HE]
    clear HE hc hb
    have HT := Lib.hid HT
    go_enter Tryd.func31, Tryd.ntmps31
    go_wp2_with fail
    refine HT.out.mono ?_
    rintro e w' ⟨rfl, rfl⟩
    go_wp2
    go_ret
    exact ⟨rfl, (Below.refl _ _).alloc (Nat.le_refl _) _⟩

end Go.Proofs.YtdoplpgmnoefeaaDoor
