/-
  CpusetBack's walk: With and Without lead to one another.
-/
import Derived.Test.YtbmlhodglemplaaDoorTu
namespace Go.Proofs.YtbmlhodglemplaaDoor
open Go.RowKit

/-- what is known of a set with one more -/
theorem more_facts {s c : Int} (s0 : 0 ≤ s) (hs : s < 256) (hc : cpuB c = true) (hh : ¬ hasB s c = true) :
    0 ≤ s + 2 ^ c.toNat ∧ s + 2 ^ c.toNat < 256 ∧ outV (s + 2 ^ c.toNat) c = (s, 0) ∧ hasB (s + 2 ^ c.toNat) c = true ∧ (mem (s + 2 ^ c.toNat)).length = (mem s).length + 1 ∧
      withinV (mem s) (s + 2 ^ c.toNat) = true ∧ withinV (mem (s + 2 ^ c.toNat)) s = false := by
  obtain ⟨c0, c1⟩ := cpuB_true hc
  have hh' : hasB s c = false := by simpa using hh
  obtain ⟨f1, f2, _⟩ := bit_fits s0 hs hc hh'
  have hw := with_facts (s := s.toNat) (n := c.toNat) (by omega) (by omega)
  unfold withB at hw
  rw [show ((s.toNat : Nat) : Int) = s by omega, show ((c.toNat : Nat) : Int) = c by omega, if_neg hh] at hw
  simp at hw
  obtain ⟨⟨⟨h1, h2⟩, h3⟩, h4⟩ := hw
  refine ⟨by omega, f1, ?_, h1, h2, h3, h4⟩
  rw [(with_there f1 hc h1).2]
  congr 1
  omega
/-- what is known of a set with one fewer -/
theorem fewer_facts {s c : Int} (s0 : 0 ≤ s) (hs : s < 256) (hc : cpuB c = true) (hh : hasB s c = true) :
    0 ≤ s - 2 ^ c.toNat ∧ s - 2 ^ c.toNat < 256 ∧ withV (s - 2 ^ c.toNat) c = (s, 0) ∧ hasB (s - 2 ^ c.toNat) c = false ∧ withinV (mem (s - 2 ^ c.toNat)) s = true := by
  obtain ⟨c0, c1⟩ := cpuB_true hc
  have f1 := bit_in s0 hs hc hh
  have f2 := two_pos c.toNat
  have hw := with_facts (s := s.toNat) (n := c.toNat) (by omega) (by omega)
  unfold withB at hw
  rw [show ((s.toNat : Nat) : Int) = s by omega, show ((c.toNat : Nat) : Int) = c by omega, if_pos hh] at hw
  simp at hw
  obtain ⟨h1, h2⟩ := hw
  refine ⟨f1, by omega, ?_, h1, h2⟩
  rw [(with_new (by omega) hc (by rw [h1]; decide)).1]
  congr 1
  omega

set_option maxHeartbeats 8000000 in
set_option maxRecDepth 100000 in
theorem back_walk (A0 : Option Addr) (n c : Nat) (ss : List Int) (m : Int) (w : World) (hr : Reads w w.heap.size 1 A0 n (us ss)) (hu : ∀ (k : Nat) (x : Int), ss[k]? = some x → U32 x) (hn : n ≤ maxLen)
    (hk : Calls Tryd.prog 10 #[] w fun e w' => e = .returned (.bool true) ∧ Below w.heap.size w w') :
    Calls Tryd.prog 7 #[.slice A0 n c, .int .i64 m] w fun e w' => e = .returned (.bool true) ∧ Below w.heap.size w w' := by
  unfold maxLen at hn
  have HK := Lib.hid hk
  have HR := Lib.hid hr
  have HU := Lib.hid hu
  clear hk hr hu
  go_enter Tryd.func7, Tryd.ntmps7
  go_wp2_with fail
  refine HK.out.mono ?_
  rintro e w1 ⟨rfl, hB1⟩
  go_wp2_with fail
  go_loopw [19] (fun i wr => ∃ k : Nat, k ≤ n ∧ k ≤ 20 ∧ i = .int .i64 k ∧ Below w.heap.size w wr) (fun i _ => n - (intOf i).toNat)
  case atStart => exact ⟨0, by omega, by omega, rfl, hB1⟩
  case round =>
    obtain ⟨k, hk, hk20, rfl, hB⟩ := hrel
    by_cases hlt : k < n
    · obtain ⟨ad, v, rfl, _, hx, hc⟩ := (HR.out.below hB).at_ hlt
      obtain ⟨s, hs, rfl⟩ := us_at hx
      obtain ⟨s0, s1⟩ := HU.out k s hs
      have j0 : (0 : Int) ≤ (k : Int) := by omega
      have j1 : (k : Int) < (n : Int) := by omega
      clear hx hs
      by_cases h20 : k = 20
      · have h20' : ((k : Int) == 20) = true := by simp; omega
        clear h20 hk20
        go_wp2
        go_ret
        exact ⟨rfl, hB⟩
      · have h20' : ((k : Int) == 20) = false := by simp; omega
        have H20 : Hid (k + 1 ≤ 20) := Lib.hid (by omega)
        have HLT := Lib.hid hlt
        have HQ := Lib.hid (fun u => check_any s u s0 s1)
        have HW := Lib.hid (fun u => with_any s m u s0 s1)
        have HO := Lib.hid (fun u => out_any s m u s0 s1)
        have HN1 := Lib.hid (fun u => count_any s u s0 s1)
        clear h20 hk20 HK
        by_cases hs : s < 256
        · rw [show chkV s = 0 from if_pos hs] at HQ
          by_cases hcp : cpuB m = true
          · by_cases hh : hasB s m = true
            · obtain ⟨t0, t1, e1, e2, e3⟩ := fewer_facts s0 hs hcp hh
              rw [(with_there hs hcp hh).1] at HW
              rw [(with_there hs hcp hh).2] at HO
              have t2 : s - 2 ^ m.toNat < 4294967296 := by omega
              have HW2 := Lib.hid (fun u => with_any (s - 2 ^ m.toNat) m u t0 t2)
              have HH2 := Lib.hid (fun u => has_any (s - 2 ^ m.toNat) m u t0 t2)
              have HI2 := Lib.hid (fun u => within_any (s - 2 ^ m.toNat) s u t0 t2 s0 s1)
              rw [e1] at HW2
              rw [e2] at HH2
              rw [e3] at HI2
              generalize s - 2 ^ m.toNat = t at *
              clear hs hcp hh e1 e2 e3 t0 t1 t2 s0 s1 HN1
              go_wp2_with fail
              refine (HQ.out _).mono ?_
              rintro e w' ⟨rfl, rfl⟩
              go_wp2_with fail
              refine (HW.out _).mono ?_
              rintro e w' ⟨rfl, rfl⟩
              go_wp2_with fail
              refine (HO.out _).mono ?_
              rintro e w' ⟨rfl, rfl⟩
              go_wp2_with fail
              refine (HW2.out _).mono ?_
              rintro e w' ⟨rfl, rfl⟩
              go_wp2_with fail
              refine (HH2.out _).mono ?_
              rintro e w' ⟨rfl, rfl⟩
              go_wp2_with fail
              refine (HI2.out _).mono ?_
              rintro e w' ⟨rfl, rfl⟩
              go_wp2
              go_roundw
              case rel => exact ⟨k + 1, HLT.out, H20.out, by go_num, hB⟩
              case measure => have := HLT.out; simp [intOf]; omega
            · obtain ⟨t0, t1, e1, e2, e3, e4, e5⟩ := more_facts s0 hs hcp hh
              rw [(with_new hs hcp hh).1] at HW
              rw [(with_new hs hcp hh).2] at HO
              have t2 : s + 2 ^ m.toNat < 4294967296 := by omega
              have HO2 := Lib.hid (fun u => out_any (s + 2 ^ m.toNat) m u t0 t2)
              have HH2 := Lib.hid (fun u => has_any (s + 2 ^ m.toNat) m u t0 t2)
              have HN2 := Lib.hid (fun u => count_any (s + 2 ^ m.toNat) u t0 t2)
              have HI2 := Lib.hid (fun u => within_any s (s + 2 ^ m.toNat) u s0 s1 t0 t2)
              have HI3 := Lib.hid (fun u => within_any (s + 2 ^ m.toNat) s u t0 t2 s0 s1)
              rw [e1] at HO2
              rw [e2] at HH2
              rw [e3] at HN2
              rw [e4] at HI2
              rw [e5] at HI3
              have hl8 : (mem s).length ≤ 8 := length_memb s 8
              generalize (mem s).length = L at *
              generalize s + 2 ^ m.toNat = t at *
              have hw : ((L + 1 : Nat) : Int) = (L : Int) + 1 := by omega
              rw [hw] at HN2
              have hl9 : (L : Int) ≤ 8 := by omega
              clear hs hcp hh e1 e2 e3 e4 e5 t0 t1 t2 s0 s1 hl8 hw
              go_wp2_with fail
              refine (HQ.out _).mono ?_
              rintro e w' ⟨rfl, rfl⟩
              go_wp2_with fail
              refine (HW.out _).mono ?_
              rintro e w' ⟨rfl, rfl⟩
              go_wp2_with fail
              refine (HO.out _).mono ?_
              rintro e w' ⟨rfl, rfl⟩
              go_wp2_with fail
              refine (HO2.out _).mono ?_
              rintro e w' ⟨rfl, rfl⟩
              go_wp2_with fail
              refine (HH2.out _).mono ?_
              rintro e w' ⟨rfl, rfl⟩
              go_wp2_with fail
              refine (HN2.out _).mono ?_
              rintro e w' ⟨rfl, q2, rfl⟩
              go_wp2_with fail
              refine (HN1.out _).mono ?_
              rintro e w' ⟨rfl, q1, rfl⟩
              go_wp2_with fail
              refine (HI2.out _).mono ?_
              rintro e w' ⟨rfl, rfl⟩
              go_wp2_with fail
              refine (HI3.out _).mono ?_
              rintro e w' ⟨rfl, rfl⟩
              go_wp2
              go_roundw
              case rel => exact ⟨k + 1, HLT.out, H20.out, by go_num, below_drewN hB _⟩
              case measure => have := HLT.out; simp [intOf]; omega
          · rw [(with_none hs hcp).1] at HW
            rw [(with_none hs hcp).2] at HO
            clear hs hcp s0 s1 HN1
            go_wp2_with fail
            refine (HQ.out _).mono ?_
            rintro e w' ⟨rfl, rfl⟩
            go_wp2_with fail
            refine (HW.out _).mono ?_
            rintro e w' ⟨rfl, rfl⟩
            go_wp2_with fail
            refine (HO.out _).mono ?_
            rintro e w' ⟨rfl, rfl⟩
            go_wp2
            go_roundw
            case rel => exact ⟨k + 1, HLT.out, H20.out, by go_num, hB⟩
            case measure => have := HLT.out; simp [intOf]; omega
        · rw [show chkV s = 140 from if_neg hs] at HQ
          clear hs s0 s1 HN1 HW HO
          go_wp2_with fail
          refine (HQ.out _).mono ?_
          rintro e w' ⟨rfl, rfl⟩
          go_wp2
          go_roundw
          case rel => exact ⟨k + 1, HLT.out, H20.out, by go_num, hB⟩
          case measure => have := HLT.out; simp [intOf]; omega
    · obtain rfl : n = k := by omega
      clear hk20
      go_wp2
      go_ret
      exact ⟨rfl, hB⟩

end Go.Proofs.YtbmlhodglemplaaDoor
