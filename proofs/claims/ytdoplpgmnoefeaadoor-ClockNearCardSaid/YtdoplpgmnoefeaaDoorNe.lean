/-
  ClockNear's walk: Down is at most the time, Up at least, both less than a step away.
-/
import Derived.Test.YtdoplpgmnoefeaaDoorCs
namespace Go.Proofs.YtdoplpgmnoefeaaDoor
open Go.RowKit

theorem downE_cases (t d : Int) : (downE t d = 0 ∧ downV t d = t - t % d ∧ 0 ≤ t ∧ t ≤ 1125899906842624 ∧ 0 < d ∧ d ≤ 1125899906842624) ∨ (downE t d ≠ 0) := by
  by_cases h : downE t d = 0
  · obtain ⟨h0, h1, h2, h3⟩ := downE_zero h
    exact .inl ⟨h, if_pos h, h0, h1, h2, h3⟩
  · exact .inr h
/-- of a multiple both are it -/
theorem near_again {x d : Int} (h0 : 0 ≤ x) (h1 : x ≤ 1125899906842624) (h2 : 0 < d) (h3 : d ≤ 1125899906842624) (hx : x % d = 0) : downE x d = 0 ∧ downV x d = x ∧ upE x d = 0 ∧ upV x d = x := by
  have hbb : (rt x && rt d) = true := by rw [rt_mk h0 h1, rt_mk (by omega) h3]; rfl
  have hd : d ≠ 0 := by omega
  have hm : miss x d = 0 := if_neg (by omega)
  have e1 : downE x d = 0 := (if_pos hbb).trans (if_neg hd)
  have e2 : upE x d = 0 := (if_pos hbb).trans ((if_neg hd).trans (if_neg (by omega)))
  exact ⟨e1, (if_pos e1).trans (by omega), e2, (if_pos e2).trans (by omega)⟩
theorem near_up {t d : Int} (h0 : 0 ≤ t) (h1 : t ≤ 1125899906842624) (h2 : 0 < d) (h3 : d ≤ 1125899906842624) :
    (upE t d = 0 ∧ upV t d = t + miss t d) ∨ (upE t d = 6 ∧ upV t d = 0 ∧ 1125899906842624 - (t - t % d) < d) := by
  have hbb : (rt t && rt d) = true := by rw [rt_mk h0 h1, rt_mk (by omega) h3]; rfl
  have hd : d ≠ 0 := by omega
  by_cases hf : 1125899906842624 - t < miss t d
  · have e : upE t d = 6 := (if_pos hbb).trans ((if_neg hd).trans (if_pos hf))
    refine .inr ⟨e, if_neg (by omega), ?_⟩
    have a0 := Int.emod_nonneg t hd
    have a1 := Int.emod_lt_of_pos t h2
    unfold miss at hf
    split at hf <;> omega
  · have e : upE t d = 0 := (if_pos hbb).trans ((if_neg hd).trans (if_neg hf))
    exact .inl ⟨e, if_pos e⟩
theorem down_mod {t d : Int} : (t - t % d) % d = 0 := Int.emod_eq_zero_of_dvd Int.dvd_self_sub_emod

set_option maxHeartbeats 1000000 in
set_option maxRecDepth 100000 in
theorem near_walk (A0 : Option Addr) (n c : Nat) (ps : List (Int × Int)) (w : World) (hl : ps.length = n) (hr : Prow w A0 ps)
    (hk : Calls Tryd.prog 10 #[] w fun e w' => e = .returned (.bool true) ∧ Below w.heap.size w w') (hn : n ≤ maxLen) :
    Calls Tryd.prog 8 #[.slice A0 n c] w fun e w' => e = .returned (.bool true) ∧ Below w.heap.size w w' := by
  unfold maxLen at hn
  have HK := Lib.hid hk
  have HR := Lib.hid hr
  have HL := Lib.hid hl
  clear hk hr hl
  go_enter Tryd.func8, Tryd.ntmps8
  go_wp2_with fail
  refine HK.out.mono ?_
  rintro e w1 ⟨rfl, hB1⟩
  go_wp2_with fail
  go_loopw [18] (fun i wr => ∃ k : Nat, k ≤ n ∧ k ≤ 40 ∧ i = .int .i64 k ∧ Below w.heap.size w wr) (fun i _ => n - (intOf i).toNat)
  case atStart => exact ⟨0, by omega, by omega, rfl, hB1⟩
  case round =>
    obtain ⟨k, hk, hk40, rfl, hB⟩ := hrel
    by_cases hlt : k < n
    · obtain ⟨⟨t, d⟩, hm⟩ : ∃ m, ps[k]? = some m := ⟨_, List.getElem?_eq_getElem (by have := HL.out; omega)⟩
      obtain ⟨ad, rfl, hb, c0, c1⟩ := HR.out k t d hm
      have d0 := (hB.cell (p := ad.add (k * 2)) (by rw [block_of_add]; exact hb)).trans c0
      have d1 := (hB.cell (p := ad.add (k * 2 + 1)) (by rw [block_of_add]; exact hb)).trans c1
      rw [add_next] at d1
      have hsz := hB.size
      clear c0 c1 hm
      by_cases h40 : k = 40
      · have h40' : ((k : Int) == 40) = true := by simp; omega
        clear h40
        go_wp2
        go_ret
        exact ⟨rfl, hB.alloc hB.size _⟩
      · have h40' : ((k : Int) == 40) = false := by simp; omega
        have hk1 : k + 1 ≤ 40 := by omega
        clear h40
        have HD := fun u => down_any t d u
        rcases downE_cases t d with ⟨e1, e2, b0, b1, b2, b3⟩ | he
        · rw [e1, e2] at HD
          have HD := Lib.hid HD
          have a0 := Int.emod_nonneg t (show d ≠ 0 by omega)
          have a1 := Int.emod_lt_of_pos t b2
          have a2 := emod_le_self b0 b2
          have hmod : (t - t % d) % d = 0 := down_mod
          obtain ⟨n1, n2, n3, n4⟩ := near_again (x := t - t % d) (by omega) (by omega) b2 b3 hmod
          obtain ⟨x, hx⟩ : ∃ x, t - t % d = x := ⟨_, rfl⟩
          have HM := Lib.hid (miss_bd (t := t) b2)
          have hup := near_up b0 b1 b2 b3
          rw [hx] at HD hmod n1 n2 n3 n4 hup
          have HA := fun u => down_any x d u
          rw [n1, n2] at HA
          have HA := Lib.hid HA
          have HO := fun u => up_any x d u
          rw [n3, n4] at HO
          have HO := Lib.hid HO
          have HU := fun u => up_any t d u
          have hx0 : 0 ≤ x := by omega
          have hx1 : x ≤ t := by omega
          have hx2 : t - x < d := by omega
          have hdz : ¬ d = 0 := by omega
          clear n1 n2 n3 n4 hx a0 a1 a2 e1 e2
          rcases hup with ⟨u1, u2⟩ | ⟨u1, u2, u3⟩
          · rw [u1, u2] at HU
            have HU := Lib.hid HU
            obtain ⟨m0, m1, m2⟩ := HM.out
            obtain ⟨y, hy⟩ : ∃ y, t + miss t d = y := ⟨_, rfl⟩
            have hup0 := upE_zero u1
            rw [hy] at HU m2
            have hy0 : t ≤ y := by omega
            have hy1 : y - t < d := by omega
            have hy2 : y ≤ 1125899906842624 := by omega
            clear u1 u2 m0 m1 hy hup0 HM
            go_wp2
            go_quiet (fail)
            go_wp2_with fail
            refine (HD.out _).mono ?_
            rintro e w2 ⟨rfl, hw2⟩
            have hb2 := behind (hB.alloc hB.size _) hw2
            clear hw2
            go_wp2_with fail
            refine (HA.out _).mono ?_
            rintro e w3 ⟨rfl, hw3⟩
            have hb3 := hb2.trans (hw3.mono hb2.size)
            clear hw3 hb2
            go_wp2_with fail
            refine (HO.out _).mono ?_
            rintro e w4 ⟨rfl, hw4⟩
            have hb4 := hb3.trans (hw4.mono hb3.size)
            clear hw4 hb3
            go_wp2_with fail
            refine (HU.out _).mono ?_
            rintro e w5 ⟨rfl, hw5⟩
            have hb5 := hb4.trans (hw5.mono hb4.size)
            clear hw5 hb4
            go_wp2
            go_roundw
            case rel => exact ⟨k + 1, by omega, by omega, by go_num, hb5⟩
            case measure => simp [intOf]; omega
          · rw [u1, u2] at HU
            have HU := Lib.hid HU
            clear u1 u2 HM
            go_wp2
            go_quiet (fail)
            go_wp2_with fail
            refine (HD.out _).mono ?_
            rintro e w2 ⟨rfl, hw2⟩
            have hb2 := behind (hB.alloc hB.size _) hw2
            clear hw2
            go_wp2_with fail
            refine (HA.out _).mono ?_
            rintro e w3 ⟨rfl, hw3⟩
            have hb3 := hb2.trans (hw3.mono hb2.size)
            clear hw3 hb2
            go_wp2_with fail
            refine (HO.out _).mono ?_
            rintro e w4 ⟨rfl, hw4⟩
            have hb4 := hb3.trans (hw4.mono hb3.size)
            clear hw4 hb3
            go_wp2_with fail
            refine (HU.out _).mono ?_
            rintro e w5 ⟨rfl, hw5⟩
            have hb5 := hb4.trans (hw5.mono hb4.size)
            clear hw5 hb4
            go_wp2
            go_roundw
            case rel => exact ⟨k + 1, by omega, by omega, by go_num, hb5⟩
            case measure => simp [intOf]; omega
        · generalize downE t d = m at he HD
          generalize downV t d = v at HD
          have HD := Lib.hid HD
          have hm0 : (m == 0) = false := by simpa using he
          clear he
          go_wp2
          go_quiet (fail)
          go_wp2_with fail
          refine (HD.out _).mono ?_
          rintro e w2 ⟨rfl, hw2⟩
          have hb2 := behind (hB.alloc hB.size _) hw2
          clear hw2
          go_wp2
          go_roundw
          case rel => exact ⟨k + 1, by omega, by omega, by go_num, hb2⟩
          case measure => simp [intOf]; omega
    · obtain rfl : n = k := by omega
      go_wp2
      go_ret
      exact ⟨rfl, hB⟩

end Go.Proofs.YtdoplpgmnoefeaaDoor
