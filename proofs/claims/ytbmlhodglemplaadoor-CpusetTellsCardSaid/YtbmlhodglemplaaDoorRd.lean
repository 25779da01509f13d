/-
  The contract of the document's Of. No statement is proved here.
-/
import Derived.Test.YtbmlhodglemplaaDoorRc
namespace Go.Proofs.YtbmlhodglemplaaDoor
open Go.RowKit

/-- the set of numbers, onto those that there are -/
def ofV : List Int → Int → Int × Bool
  | [], s => (s, true)
  | n :: l, s => if cpuB n = true then (if hasB s n = true then ofV l s else ofV l (s + 2 ^ n.toNat)) else (0, false)
theorem of_none {l : List Int} {k : Nat} {x s : Int} (h : l[k]? = some x) (hc : cpuB x = false) : ofV (l.drop k) s = (0, false) := by
  rw [drop_at h]; simp [ofV, hc]
theorem of_there {l : List Int} {k : Nat} {x s : Int} (h : l[k]? = some x) (hc : cpuB x = true) (hb : hasB s x = true) : ofV (l.drop k) s = ofV (l.drop (k + 1)) s := by
  rw [drop_at h]; simp [ofV, hc, hb]
theorem of_new {l : List Int} {k : Nat} {x s : Int} (h : l[k]? = some x) (hc : cpuB x = true) (hb : hasB s x = false) : ofV (l.drop k) s = ofV (l.drop (k + 1)) (s + 2 ^ x.toNat) := by
  rw [drop_at h]; simp [ofV, hc, hb]
theorem of_end (l : List Int) (s : Int) : ofV (l.drop l.length) s = (s, true) := by
  rw [List.drop_length]; rfl
theorem eight {c : Int} (h : cpuB c = true) : c = 0 ∨ c = 1 ∨ c = 2 ∨ c = 3 ∨ c = 4 ∨ c = 5 ∨ c = 6 ∨ c = 7 := by
  have := cpuB_true h
  omega
theorem bit_fits {s c : Int} (h0 : 0 ≤ s) (h1 : s < 256) (hc : cpuB c = true) (hb : hasB s c = false) : s + 2 ^ c.toNat < 256 ∧ 0 < (2 : Int) ^ c.toNat ∧ (2 : Int) ^ c.toNat < 256 := by
  have hb2 : ¬ s / 2 ^ c.toNat % 2 = 1 := by
    unfold hasB at hb
    rw [hc] at hb
    simpa using hb
  rcases eight hc with rfl | rfl | rfl | rfl | rfl | rfl | rfl | rfl <;> simp at hb2 ⊢ <;> omega

set_option maxRecDepth 100000 in
set_option maxHeartbeats 1000000 in
theorem rof_any (A : Option Addr) (c : Nat) (l : List Int) (w : World) (hl : l.length ≤ 100000) (hR : Reads w w.heap.size 1 A l.length (vs l)) :
    Calls Tryd.prog 13 #[.slice A l.length c] w (Ans (.tuple #[.int .u32 (ofV l 0).1, .bool (ofV l 0).2]) w) := by
  go_enter Tryd.func13, Tryd.ntmps13
  go_wp2_with fail
  go_loop [4, 9] (fun v i => ∃ (k : Nat) (s : Int), k ≤ l.length ∧ i = .int .i64 k ∧ v = .int .u32 s ∧ 0 ≤ s ∧ s < 256 ∧ ofV l 0 = ofV (l.drop k) s) (fun _ i => l.length - (intOf i).toNat)
  case atStart => exact ⟨0, 0, Nat.zero_le _, rfl, rfl, by omega, by omega, rfl⟩
  case round =>
    obtain ⟨k, s, hk, rfl, rfl, s0, s1, hN⟩ := hrel
    by_cases hlt : k < l.length
    · obtain ⟨ad, v, rfl, _, hx, hc⟩ := hR.at_ hlt
      obtain ⟨x, hx2, rfl⟩ := vs_at hx
      clear hx
      have HP := Lib.hid (fun u => rcpu_any x u)
      have HH := Lib.hid (fun u => rhas_any s x u s0)
      have j0 : (0 : Int) ≤ (k : Int) := by omega
      have j1 : (k : Int) < (l.length : Int) := by omega
      by_cases hp : cpuB x = true
      · have HP2 := Lib.hid (fun u => hp ▸ HP.out u)
        by_cases hb : hasB s x = true
        · have HV := Lib.hid (hN.trans (of_there hx2 hp hb))
          have HH2 := Lib.hid (fun u => hb ▸ HH.out u)
          clear hN hx2 hp hb HP HH
          go_wp2_with fail
          refine (HP2.out _).mono ?_
          rintro e w' ⟨rfl, rfl⟩
          go_wp2_with fail
          refine (HH2.out _).mono ?_
          rintro e w' ⟨rfl, rfl⟩
          go_wp2
          go_round
          case rel => exact ⟨k + 1, s, by omega, by go_num, rfl, s0, s1, HV.out⟩
          case measure => simp [intOf]; omega
        · have hb' : hasB s x = false := by simpa using hb
          have HV := Lib.hid (hN.trans (of_new hx2 hp hb'))
          have HH2 := Lib.hid (fun u => hb' ▸ HH.out u)
          obtain ⟨f1, f2, f3⟩ := bit_fits s0 s1 hp hb'
          obtain ⟨x0, x1⟩ := cpuB_true hp
          have x2 : x ≤ 32 := by omega
          clear hN hx2 hp hb hb' HP HH
          go_wp2_with fail
          refine (HP2.out _).mono ?_
          rintro e w' ⟨rfl, rfl⟩
          go_wp2_with fail
          refine (HH2.out _).mono ?_
          rintro e w' ⟨rfl, rfl⟩
          go_wp2
          go_round
          case rel => exact ⟨k + 1, s + 2 ^ x.toNat, by omega, by go_num, by simp, by omega, f1, HV.out⟩
          case measure => simp [intOf]; omega
      · have hp' : cpuB x = false := by simpa using hp
        have HV := Lib.hid (hN.trans (of_none hx2 hp'))
        have HP2 := Lib.hid (fun u => hp' ▸ HP.out u)
        clear hN hx2 hp hp' HP HH
        go_wp2_with fail
        refine (HP2.out _).mono ?_
        rintro e w' ⟨rfl, rfl⟩
        go_wp2
        go_ret2
        rw [HV.out]
        exact ⟨rfl, Below.refl _ _⟩
    · obtain rfl : k = l.length := by omega
      have HV := Lib.hid (hN.trans (of_end l s))
      clear hN
      go_wp2
      go_ret2
      rw [HV.out]
      exact ⟨rfl, Below.refl _ _⟩

end Go.Proofs.YtbmlhodglemplaaDoor
