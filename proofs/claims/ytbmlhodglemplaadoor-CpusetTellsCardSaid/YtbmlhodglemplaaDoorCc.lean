/-
  The contracts of the landed cpuset: With, Without, Of. No statement is proved here.
-/
import Derived.Test.YtbmlhodglemplaaDoorCb
namespace Go.Proofs.YtbmlhodglemplaaDoor
open Go.RowKit

theorem bit_nat {s c : Int} (h0 : 0 ≤ s) (h1 : s < 256) (hc : cpuB c = true) : bitB s.toNat c.toNat = true ∧ ((s.toNat : Nat) : Int) = s ∧ ((c.toNat : Nat) : Int) = c := by
  obtain ⟨c0, c1⟩ := cpuB_true hc
  exact ⟨bit_facts (by omega) (by omega), by omega, by omega⟩
theorem or_there {s c : Int} (h0 : 0 ≤ s) (h1 : s < 256) (hc : cpuB c = true) (hh : hasB s c = true) : bits .or .u32 s (2 ^ c.toNat) = s ∧ bits .andNot .u32 s (2 ^ c.toNat) = s - 2 ^ c.toNat := by
  obtain ⟨hb, e1, e2⟩ := bit_nat h0 h1 hc
  unfold bitB at hb
  rw [e1, e2, hh] at hb
  simp at hb
  exact ⟨hb.1.1, hb.2⟩
theorem or_new {s c : Int} (h0 : 0 ≤ s) (h1 : s < 256) (hc : cpuB c = true) (hh : hasB s c = false) : bits .or .u32 s (2 ^ c.toNat) = s + 2 ^ c.toNat ∧ bits .andNot .u32 s (2 ^ c.toNat) = s := by
  obtain ⟨hb, e1, e2⟩ := bit_nat h0 h1 hc
  unfold bitB at hb
  rw [e1, e2, hh] at hb
  simp at hb
  exact ⟨hb.1.1, hb.2⟩
theorem bit_in {s c : Int} (h0 : 0 ≤ s) (h1 : s < 256) (hc : cpuB c = true) (hh : hasB s c = true) : 0 ≤ s - 2 ^ c.toNat := by
  have hb2 : s / 2 ^ c.toNat % 2 = 1 := by
    unfold hasB at hh
    rw [hc] at hh
    simpa using hh
  rcases eight hc with rfl | rfl | rfl | rfl | rfl | rfl | rfl | rfl <;> simp at hb2 ⊢ <;> omega

def withV (s c : Int) : Int × Int := if s < 256 then (if cpuB c = true then (if hasB s c = true then (0, 5) else (s + 2 ^ c.toNat, 0)) else (0, 2)) else (0, 140)
def outV (s c : Int) : Int × Int := if s < 256 then (if cpuB c = true then (if hasB s c = true then (s - 2 ^ c.toNat, 0) else (0, 4)) else (0, 2)) else (0, 140)

set_option maxRecDepth 100000 in
set_option maxHeartbeats 1000000 in
theorem with_any (s c : Int) (w : World) (h0 : 0 ≤ s) (h1 : s < 4294967296) : Calls Tryd.prog 27 #[.int .u32 s, .int .i64 c] w (Two (withV s c).1 (withV s c).2 w) := by
  have HR := Lib.hid (fun u => refused_any s c u h0 h1)
  have HH := Lib.hid (fun u => has_any s c u h0 h1)
  by_cases hs : s < 256
  · by_cases hc : cpuB c = true
    · rw [show refV s c = 0 by unfold refV; rw [if_pos hs, if_pos hc]] at HR
      have HB := Lib.hid (fun u => bit_any c u (by have := cpuB_true hc; omega) (by have := cpuB_true hc; omega))
      by_cases hh : hasB s c = true
      · have HV : Hid (withV s c = (0, 5)) := Lib.hid (by unfold withV; rw [if_pos hs, if_pos hc, if_pos hh])
        rw [hh] at HH
        clear hs hc hh h0 h1
        go_enter Tryd.func27, Tryd.ntmps27
        go_wp2_with fail
        refine (HR.out _).mono ?_
        rintro e w' ⟨rfl, rfl⟩
        go_wp2_with fail
        refine (HH.out _).mono ?_
        rintro e w' ⟨rfl, rfl⟩
        go_wp2
        go_ret2
        rw [HV.out]
        exact ⟨rfl, rfl⟩
      · have HV : Hid (withV s c = (s + 2 ^ c.toNat, 0)) := Lib.hid (by unfold withV; rw [if_pos hs, if_pos hc, if_neg hh])
        have hh' : hasB s c = false := by simpa using hh
        have ho := (or_new h0 hs hc hh').1
        rw [hh'] at HH
        generalize (2 : Int) ^ c.toNat = X at *
        clear hs hc hh hh' h0 h1
        go_enter Tryd.func27, Tryd.ntmps27
        go_wp2_with fail
        refine (HR.out _).mono ?_
        rintro e w' ⟨rfl, rfl⟩
        go_wp2_with fail
        refine (HH.out _).mono ?_
        rintro e w' ⟨rfl, rfl⟩
        go_wp2_with fail
        refine (HB.out _).mono ?_
        rintro e w' ⟨rfl, rfl⟩
        go_wp2
        go_ret2
        rw [HV.out]
        exact ⟨rfl, rfl⟩
    · rw [show refV s c = 2 by unfold refV; rw [if_pos hs, if_neg hc]] at HR
      have HV : Hid (withV s c = (0, 2)) := Lib.hid (by unfold withV; rw [if_pos hs, if_neg hc])
      clear hs hc h0 h1
      go_enter Tryd.func27, Tryd.ntmps27
      go_wp2_with fail
      refine (HR.out _).mono ?_
      rintro e w' ⟨rfl, rfl⟩
      go_wp2
      go_ret2
      rw [HV.out]
      exact ⟨rfl, rfl⟩
  · rw [show refV s c = 140 by unfold refV; rw [if_neg hs]] at HR
    have HV : Hid (withV s c = (0, 140)) := Lib.hid (by unfold withV; rw [if_neg hs])
    clear hs h0 h1
    go_enter Tryd.func27, Tryd.ntmps27
    go_wp2_with fail
    refine (HR.out _).mono ?_
    rintro e w' ⟨rfl, rfl⟩
    go_wp2
    go_ret2
    rw [HV.out]
    exact ⟨rfl, rfl⟩

set_option maxRecDepth 100000 in
set_option maxHeartbeats 1000000 in
theorem out_any (s c : Int) (w : World) (h0 : 0 ≤ s) (h1 : s < 4294967296) : Calls Tryd.prog 28 #[.int .u32 s, .int .i64 c] w (Two (outV s c).1 (outV s c).2 w) := by
  have HR := Lib.hid (fun u => refused_any s c u h0 h1)
  have HH := Lib.hid (fun u => has_any s c u h0 h1)
  by_cases hs : s < 256
  · by_cases hc : cpuB c = true
    · rw [show refV s c = 0 by unfold refV; rw [if_pos hs, if_pos hc]] at HR
      have HB := Lib.hid (fun u => bit_any c u (by have := cpuB_true hc; omega) (by have := cpuB_true hc; omega))
      by_cases hh : hasB s c = true
      · have HV : Hid (outV s c = (s - 2 ^ c.toNat, 0)) := Lib.hid (by unfold outV; rw [if_pos hs, if_pos hc, if_pos hh])
        have ho := (or_there h0 hs hc hh).2
        rw [hh] at HH
        generalize (2 : Int) ^ c.toNat = X at *
        clear hs hc hh h0 h1
        go_enter Tryd.func28, Tryd.ntmps28
        go_wp2_with fail
        refine (HR.out _).mono ?_
        rintro e w' ⟨rfl, rfl⟩
        go_wp2_with fail
        refine (HH.out _).mono ?_
        rintro e w' ⟨rfl, rfl⟩
        go_wp2_with fail
        refine (HB.out _).mono ?_
        rintro e w' ⟨rfl, rfl⟩
        go_wp2
        go_ret2
        rw [HV.out]
        exact ⟨rfl, rfl⟩
      · have HV : Hid (outV s c = (0, 4)) := Lib.hid (by unfold outV; rw [if_pos hs, if_pos hc, if_neg hh])
        rw [show hasB s c = false by simpa using hh] at HH
        clear hs hc hh h0 h1
        go_enter Tryd.func28, Tryd.ntmps28
        go_wp2_with fail
        refine (HR.out _).mono ?_
        rintro e w' ⟨rfl, rfl⟩
        go_wp2_with fail
        refine (HH.out _).mono ?_
        rintro e w' ⟨rfl, rfl⟩
        go_wp2
        go_ret2
        rw [HV.out]
        exact ⟨rfl, rfl⟩
    · rw [show refV s c = 2 by unfold refV; rw [if_pos hs, if_neg hc]] at HR
      have HV : Hid (outV s c = (0, 2)) := Lib.hid (by unfold outV; rw [if_pos hs, if_neg hc])
      clear hs hc h0 h1
      go_enter Tryd.func28, Tryd.ntmps28
      go_wp2_with fail
      refine (HR.out _).mono ?_
      rintro e w' ⟨rfl, rfl⟩
      go_wp2
      go_ret2
      rw [HV.out]
      exact ⟨rfl, rfl⟩
  · rw [show refV s c = 140 by unfold refV; rw [if_neg hs]] at HR
    have HV : Hid (outV s c = (0, 140)) := Lib.hid (by unfold outV; rw [if_neg hs])
    clear hs h0 h1
    go_enter Tryd.func28, Tryd.ntmps28
    go_wp2_with fail
    refine (HR.out _).mono ?_
    rintro e w' ⟨rfl, rfl⟩
    go_wp2
    go_ret2
    rw [HV.out]
    exact ⟨rfl, rfl⟩

/-- what Of answers -/
def ofE (l : List Int) : Int × Int := ((ofV l 0).1, if (ofV l 0).2 = true then 0 else 2)
theorem ofE_no {l : List Int} (h : ofV l 0 = (0, false)) : ofE l = (0, 2) := by unfold ofE; rw [h]; rfl
theorem ofE_yes {l : List Int} {s : Int} (h : ofV l 0 = (s, true)) : ofE l = (s, 0) := by unfold ofE; rw [h]; rfl

set_option maxRecDepth 100000 in
set_option maxHeartbeats 1000000 in
theorem of_any (A : Option Addr) (c : Nat) (l : List Int) (w : World) (hl : l.length ≤ 100000) (hR : Reads w w.heap.size 1 A l.length (vs l)) :
    Calls Tryd.prog 12 #[.slice A l.length c] w (Two (ofE l).1 (ofE l).2 w) := by
  go_enter Tryd.func12, Tryd.ntmps12
  go_wp2_with fail
  go_loop [4, 9] (fun v i => ∃ (k : Nat) (s : Int), k ≤ l.length ∧ i = .int .i64 k ∧ v = .int .u32 s ∧ 0 ≤ s ∧ s < 256 ∧ ofV l 0 = ofV (l.drop k) s) (fun _ i => l.length - (intOf i).toNat)
  case atStart => exact ⟨0, 0, Nat.zero_le _, rfl, rfl, by omega, by omega, rfl⟩
  case round =>
    obtain ⟨k, s, hk, rfl, rfl, s0, s1, hN⟩ := hrel
    by_cases hlt : k < l.length
    · obtain ⟨ad, v, rfl, _, hx, hc⟩ := hR.at_ hlt
      obtain ⟨x, hx2, rfl⟩ := vs_at hx
      clear hx
      have HP := Lib.hid (fun u => cpu_any x u)
      have j0 : (0 : Int) ≤ (k : Int) := by omega
      have j1 : (k : Int) < (l.length : Int) := by omega
      by_cases hp : cpuB x = true
      · have HP2 := Lib.hid (fun u => hp ▸ HP.out u)
        have HB := Lib.hid (fun u => bit_any x u (by have := cpuB_true hp; omega) (by have := cpuB_true hp; omega))
        obtain ⟨t, ht, t0, t1, HV⟩ : ∃ t, bits .or .u32 s (2 ^ x.toNat) = t ∧ 0 ≤ t ∧ t < 256 ∧ Hid (ofV l 0 = ofV (l.drop (k + 1)) t) := by
          by_cases hb : hasB s x = true
          · exact ⟨s, (or_there s0 s1 hp hb).1, s0, s1, Lib.hid (hN.trans (of_there hx2 hp hb))⟩
          · have hb' : hasB s x = false := by simpa using hb
            have := bit_fits s0 s1 hp hb'
            exact ⟨s + 2 ^ x.toNat, (or_new s0 s1 hp hb').1, by omega, by omega, Lib.hid (hN.trans (of_new hx2 hp hb'))⟩
        generalize (2 : Int) ^ x.toNat = X at *
        clear hN hx2 hp HP
        go_wp2_with fail
        refine (HP2.out _).mono ?_
        rintro e w' ⟨rfl, rfl⟩
        go_wp2_with fail
        refine (HB.out _).mono ?_
        rintro e w' ⟨rfl, rfl⟩
        go_wp2
        go_round
        case rel => exact ⟨k + 1, t, by omega, by go_num, by simp, t0, t1, HV.out⟩
        case measure => simp [intOf]; omega
      · have hp' : cpuB x = false := by simpa using hp
        have HV := Lib.hid (ofE_no (hN.trans (of_none hx2 hp')))
        have HP2 := Lib.hid (fun u => hp' ▸ HP.out u)
        clear hN hx2 hp hp' HP
        go_wp2_with fail
        refine (HP2.out _).mono ?_
        rintro e w' ⟨rfl, rfl⟩
        go_wp2
        go_ret2
        rw [HV.out]
        exact ⟨rfl, rfl⟩
    · obtain rfl : k = l.length := by omega
      have HV := Lib.hid (ofE_yes (hN.trans (of_end l s)))
      clear hN
      go_wp2
      go_ret2
      rw [HV.out]
      exact ⟨rfl, rfl⟩

end Go.Proofs.YtbmlhodglemplaaDoor
