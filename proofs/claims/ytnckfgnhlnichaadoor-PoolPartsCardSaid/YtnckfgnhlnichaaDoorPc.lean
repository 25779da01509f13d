/-
  The landed pool: Check. No statement is proved here.
-/
import Derived.Test.YtnckfgnhlnichaaDoorPb
namespace Go.Proofs.YtnckfgnhlnichaaDoor
open Go.RowKit

theorem chk_no {l : List Nat} (h : rightP l = false) : (if rightP l = true then (0 : Int) else 180) = 180 := by rw [h]; rfl
theorem chk_yes {l : List Nat} (h : rightP l = true) : (if rightP l = true then (0 : Int) else 180) = 0 := by rw [h]; rfl
theorem first_cast (S : Nat) : (2 : Int) ^ S - 1 = ((2 ^ S - 1 : Nat) : Int) := by
  have h := Nat.one_le_two_pow (n := S)
  rw [Int.ofNat_sub h]
  simp

set_option maxRecDepth 100000 in
set_option maxHeartbeats 4000000 in
theorem lcheck_any {G : World → Prop} : PCheckOk G := by
  intro A n c l w hAt
  have hl := hAt.len
  obtain ⟨hR, hnc, hn, hU, _⟩ := hAt
  obtain ⟨K, B⟩ : Blk (w.alloc (.cells #[.slice A n c] 26)) w.heap.size 26 #[.slice A n c] ∧ Below w.heap.size w (w.alloc (.cells #[.slice A n c] 26)) := ⟨Blk.new _ _ _, (Below.refl _ _).alloc (Nat.le_refl _) _⟩
  have HCo := Lib.hid (fun (u : World) (h : Below w.heap.size w u) => lcontains_any A n c l u ((hR.below h).more h.size) hn)
  have HCn := Lib.hid (fun (u : World) (h : Below w.heap.size w u) => lcount_any A n c l u ((hR.below h).more h.size) hU hn)
  have HUn := Lib.hid (fun (u : World) (h : Below w.heap.size w u) => lunion_any A n c l u ((hR.below h).more h.size) hU hn)
  have HF := Lib.hid (fun u => first_any (popK l n : Nat) u)
  have HK := Lib.hid (And.intro K B)
  generalize hE : (if rightP l = true then (0 : Int) else 180) = E
  have k1 : (w.alloc (.cells #[.slice A n c] 26)).cell? ⟨w.heap.size, 0, none⟩ = some (.slice A n c) := K.cell 0
  clear hR hU hnc K B
  by_cases h1 : n < 1
  · have HV : Hid (180 = E) := Lib.hid (by
      rw [← hE, chk_no]
      cases hr : rightP l with
      | false => rfl
      | true => have := right_parts8 hr; omega)
    have q : decide ((n : Int) < 1) = true := decide_eq_true (by omega)
    clear hE hl hn h1
    go_enter Tryd.func12, Tryd.ntmps12
    go_wp2
    go_ret
    exact ⟨retI HV.out, HK.out.2⟩
  · have q : decide ((n : Int) < 1) = false := decide_eq_false (by omega)
    by_cases h4 : 4 < n
    · have HV : Hid (180 = E) := Lib.hid (by
        rw [← hE, chk_no]
        cases hr : rightP l with
        | false => rfl
        | true => have := right_parts8 hr; omega)
      have q2 : decide ((4 : Int) < (n : Int)) = true := decide_eq_true (by omega)
      clear hE hl hn h1 h4
      go_enter Tryd.func12, Tryd.ntmps12
      go_wp2
      go_ret
      exact ⟨retI HV.out, HK.out.2⟩
    · have q2 : decide ((4 : Int) < (n : Int)) = false := decide_eq_false (by omega)
      cases hz : zeroB l with
      | true =>
        rw [hz] at HCo
        have HV : Hid (180 = E) := Lib.hid (by
          rw [← hE, chk_no]
          cases hr : rightP l with
          | false => rfl
          | true => have := (right_parts8 hr).2.2.1; rw [zero_sets hz] at this; cases this)
        clear hE hl hn h1 h4 hz
        go_enter Tryd.func12, Tryd.ntmps12
        go_wp2_with fail
        refine (HCo.out _ HK.out.2).mono ?_
        rintro e w2 ⟨rfl, rfl⟩
        go_wp2
        go_ret
        exact ⟨retI HV.out, HK.out.2⟩
      | false =>
        rw [hz] at HCo
        have hi := chk_iff (l := l) (by omega) (by omega) hz
        rw [hl] at hi
        by_cases h8 : popK l n ≤ 8
        · have hf : firstV ((popK l n : Nat) : Int) = (((2 ^ popK l n - 1 : Nat) : Int), 0) := by
            unfold firstV
            rw [if_neg (by omega), Int.toNat_natCast, first_cast]
          rw [hf] at HF
          by_cases ho : orK l n = 2 ^ popK l n - 1
          · have HV : Hid (0 = E) := Lib.hid (by rw [← hE, chk_yes (hi.2 ⟨h8, ho⟩)])
            rw [ho] at HUn
            generalize 2 ^ popK l n - 1 = F at *
            generalize popK l n = S at *
            clear hE hl hn h1 h4 hz hi h8 ho hf
            go_enter Tryd.func12, Tryd.ntmps12
            go_wp2_with fail
            refine (HCo.out _ HK.out.2).mono ?_
            rintro e w2 ⟨rfl, rfl⟩
            go_wp2_with fail
            refine (HCn.out _ HK.out.2).mono ?_
            rintro e w3 ⟨rfl, h3⟩
            have B3 := HK.out.2.trans (h3.mono HK.out.2.size)
            have K3 := HK.out.1.below h3 HK.out.1.lt
            have k3 : w3.cell? ⟨w.heap.size, 0, none⟩ = some (.slice A n c) := K3.cell 0
            go_wp2_with fail
            refine (HF.out _).mono ?_
            rintro e w4 ⟨rfl, rfl⟩
            go_wp2_with fail
            refine (HUn.out _ B3).mono ?_
            rintro e w5 ⟨rfl, rfl⟩
            go_wp2
            go_ret
            exact ⟨retI HV.out, B3⟩
          · have HV : Hid (180 = E) := Lib.hid (by
              rw [← hE, chk_no]
              cases hr : rightP l with
              | false => rfl
              | true => exact absurd (hi.1 hr).2 ho)
            have q5 : (((orK l n : Nat) : Int) == ((2 ^ popK l n - 1 : Nat) : Int)) = false := by simp; omega
            generalize 2 ^ popK l n - 1 = F at *
            generalize popK l n = S at *
            generalize orK l n = O at *
            clear hE hl hn h1 h4 hz hi h8 ho hf
            go_enter Tryd.func12, Tryd.ntmps12
            go_wp2_with fail
            refine (HCo.out _ HK.out.2).mono ?_
            rintro e w2 ⟨rfl, rfl⟩
            go_wp2_with fail
            refine (HCn.out _ HK.out.2).mono ?_
            rintro e w3 ⟨rfl, h3⟩
            have B3 := HK.out.2.trans (h3.mono HK.out.2.size)
            have K3 := HK.out.1.below h3 HK.out.1.lt
            have k3 : w3.cell? ⟨w.heap.size, 0, none⟩ = some (.slice A n c) := K3.cell 0
            go_wp2_with fail
            refine (HF.out _).mono ?_
            rintro e w4 ⟨rfl, rfl⟩
            go_wp2_with fail
            refine (HUn.out _ B3).mono ?_
            rintro e w5 ⟨rfl, rfl⟩
            go_wp2
            go_ret
            exact ⟨retI HV.out, B3⟩
        · have hf : firstV ((popK l n : Nat) : Int) = (0, 2) := by
            unfold firstV
            rw [if_pos (by omega)]
          rw [hf] at HF
          have HV : Hid (180 = E) := Lib.hid (by
            rw [← hE, chk_no]
            cases hr : rightP l with
            | false => rfl
            | true => exact absurd (hi.1 hr).1 h8)
          generalize popK l n = S at *
          clear hE hl hn h1 h4 hz hi h8 hf
          go_enter Tryd.func12, Tryd.ntmps12
          go_wp2_with fail
          refine (HCo.out _ HK.out.2).mono ?_
          rintro e w2 ⟨rfl, rfl⟩
          go_wp2_with fail
          refine (HCn.out _ HK.out.2).mono ?_
          rintro e w3 ⟨rfl, h3⟩
          have B3 := HK.out.2.trans (h3.mono HK.out.2.size)
          have K3 := HK.out.1.below h3 HK.out.1.lt
          have k3 : w3.cell? ⟨w.heap.size, 0, none⟩ = some (.slice A n c) := K3.cell 0
          go_wp2_with fail
          refine (HF.out _).mono ?_
          rintro e w4 ⟨rfl, rfl⟩
          go_wp2
          go_ret
          exact ⟨retI HV.out, B3⟩

end Go.Proofs.YtnckfgnhlnichaaDoor
