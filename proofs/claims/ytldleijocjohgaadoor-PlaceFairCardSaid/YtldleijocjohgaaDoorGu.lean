/-
  The contracts of the document's Right for a row of wishes, of why nothing is asked. No statement is proved here.
-/
import Derived.Test.YtldleijocjohgaaDoorGe
namespace Go.Proofs.YtldleijocjohgaaDoor
open Go.RowKit

theorem fit_snoc {l : List Wi} {j : Nat} {q : Wi} (w : Wi) (h : l[j]? = some q) : fitB (l.take (j + 1)) w = (fitB (l.take j) w && (!(q.v == w.v) && !(decide (0 ≤ w.a) && q.a == w.a))) := by
  unfold fitB
  rw [List.take_add_one, h, List.all_append]
  simp
theorem fit_no {l : List Wi} {j k : Nat} {q w : Wi} (h : l[j]? = some q) (hj : j < k) (hq : (!(q.v == w.v) && !(decide (0 ≤ w.a) && q.a == w.a)) = false) : fitB (l.take k) w = false := by
  cases hf : fitB (l.take k) w with
  | false => rfl
  | true =>
    unfold fitB at hf
    rw [List.all_eq_true] at hf
    have hm : q ∈ l.take k := List.mem_of_getElem? (i := j) (by rw [List.getElem?_take_of_lt hj]; exact h)
    rw [hf q hm] at hq
    cases hq
theorem wi_no {w : Wi} (h : ¬ (1 ≤ w.v ∧ w.v ≤ 16 ∧ -1 ≤ w.a ∧ w.a ≤ 7 ∧ rightM (w.h, w.s) = true)) : wiB w = false := by
  cases hb : wiB w with
  | false => rfl
  | true => exact absurd (wi_parts hb) h
theorem wi_yes {w : Wi} (h1 : 1 ≤ w.v) (h2 : w.v ≤ 16) (h3 : -1 ≤ w.a) (h4 : w.a ≤ 7) (h5 : rightM (w.h, w.s) = true) : wiB w = true := by
  unfold wiB
  simp [h1, h2, h3, h4, h5]

set_option maxRecDepth 100000 in
set_option maxHeartbeats 4000000 in
theorem rrow_any (A : Option Addr) (n c : Nat) (l : List Wi) (w : World) (hR : Reads w w.heap.size 4 A n (wivs l)) (hn : n ≤ 1000) :
    Calls Tryd.prog 13 #[.slice A n c] w (Said (.bool (rightW l)) w) := by
  have HL := Lib.hid (wishes_len hR)
  have HR := Lib.hid hR
  have HM := Lib.hid (fun (x y : Int) u => rrightM_any x y u)
  obtain ⟨FF, hF⟩ : ∃ r, rightW l = r := ⟨_, rfl⟩
  rw [hF]
  have HSF := Lib.hid hF
  clear hF
  clear hR
  go_enter Tryd.func13, Tryd.ntmps13
  go_wp2_with fail
  go_loopw [3] (fun i wr => ∃ k : Nat, k ≤ n ∧ i = .int .i64 (k : Int) ∧ Hid (rightK l k = true) ∧ Below w.heap.size w wr) (fun i _ => n - (intOf i).toNat)
  case atStart => exact ⟨0, by omega, rfl, Lib.hid rfl, Below.refl _ _⟩
  case round =>
    obtain ⟨k, hk, rfl, HA, hB⟩ := hrel
    by_cases hlt : k < n
    · obtain ⟨x, hm⟩ := elem_at (l := l) (k := k) (by rw [HL.out]; exact hlt)
      obtain ⟨ad, rfl, hb, d0, d1, d2, d3⟩ := wish_at (HR.out.below hB) hm
      have i1 : (0 : Int) ≤ (k : Int) := by omega
      have i2 : (k : Int) < (n : Int) := by omega
      have HT := Lib.hid hm
      have HS := Lib.hid (rightK_step hm)
      have HNO := Lib.hid (fun h => HSF.out.symm.trans (right_no_at hm h))
      obtain ⟨v, a, h, s⟩ := x
      have K7 := Blk.new wr 43 #[.int .i64 v, .int .i64 a, .int .u32 h, .int .u32 s]
      have B1 := Lib.hid (hB.alloc hB.size (.cells #[.int .i64 v, .int .i64 a, .int .u32 h, .int .u32 s] 43))
      have z0 := K7.cell 0
      have z1 := K7.cell 1
      have z2 := K7.cell 2
      have z3 := K7.cell 3
      have K7 := Lib.hid K7
      have hsz := hB.size
      clear hm hB
      by_cases c0 : v < 1
      · have q0 : (decide (v < (1 : Int))) = true := decide_eq_true c0
        have HV := Lib.hid (HNO.out (by rw [wi_no (by rintro ⟨h1, _⟩; have h1 : 1 ≤ v := h1; omega)]; rfl))
        clear HNO HS c0
        go_wp2_with fail
        try go_wp2
        go_ret
        exact ⟨retB HV.out.symm, B1.out⟩
      · have q0 : (decide (v < (1 : Int))) = false := decide_eq_false c0
        by_cases c1 : 16 < v
        · have q1 : (decide ((16 : Int) < v)) = true := decide_eq_true c1
          have HV := Lib.hid (HNO.out (by rw [wi_no (by rintro ⟨_, h1, _⟩; have h1 : v ≤ 16 := h1; omega)]; rfl))
          clear HNO HS c1
          go_wp2_with fail
          try go_wp2
          go_ret
          exact ⟨retB HV.out.symm, B1.out⟩
        · have q1 : (decide ((16 : Int) < v)) = false := decide_eq_false c1
          by_cases c2 : a < -1
          · have q2 : (decide (a < (-1 : Int))) = true := decide_eq_true c2
            have HV := Lib.hid (HNO.out (by rw [wi_no (by rintro ⟨_, _, h1, _⟩; have h1 : -1 ≤ a := h1; omega)]; rfl))
            clear HNO HS c2
            go_wp2_with fail
            try go_wp2
            go_ret
            exact ⟨retB HV.out.symm, B1.out⟩
          · have q2 : (decide (a < (-1 : Int))) = false := decide_eq_false c2
            by_cases c3 : 7 < a
            · have q3 : (decide ((7 : Int) < a)) = true := decide_eq_true c3
              have HV := Lib.hid (HNO.out (by rw [wi_no (by rintro ⟨_, _, _, h1, _⟩; have h1 : a ≤ 7 := h1; omega)]; rfl))
              clear HNO HS c3
              go_wp2_with fail
              try go_wp2
              go_ret
              exact ⟨retB HV.out.symm, B1.out⟩
            · have q3 : (decide ((7 : Int) < a)) = false := decide_eq_false c3
              have HX := Lib.hid (fun u => HM.out h s u)
              cases hr : rightM (h, s) with
              | false =>
                rw [hr] at HX
                have HV := Lib.hid (HNO.out (by rw [wi_no (by rintro ⟨_, _, _, _, h1⟩; have h1 : rightM (h, s) = true := h1; rw [hr] at h1; cases h1)]; rfl))
                clear HNO HS hr c0 c1 c2 c3
                go_wp2_with fail
                refine (HX.out _).mono ?_
                rintro e w2 ⟨rfl, h2⟩
                have B2 := Lib.hid (B1.out.trans (h2.mono B1.out.size))
                clear h2
                go_wp2
                go_ret
                exact ⟨retB HV.out.symm, B2.out⟩
              | true =>
                rw [hr] at HX
                have HW : Hid (wiB ⟨v, a, h, s⟩ = true) := Lib.hid (wi_yes (by show 1 ≤ v; omega) (by show v ≤ 16; omega) (by show -1 ≤ a; omega) (by show a ≤ 7; omega) hr)
                clear hr c0 c1 c2 c3
                go_wp2_with fail
                refine (HX.out _).mono ?_
                rintro e w2 ⟨rfl, h2⟩
                have B2 := Lib.hid (B1.out.trans (h2.mono B1.out.size))
                have M2 := Lib.hid (K7.out.below h2 K7.out.lt)
                have hsz2 := B2.out.size
                clear h2 z0 z1 z2 z3 d0 d1 d2 d3 K7 B1 q0 q1 q2 q3
                go_wp2_with fail
                go_loopw [5] (fun i w3 => ∃ j : Nat, j ≤ k ∧ i = .int .i64 (j : Int) ∧ Hid (fitB (l.take j) ⟨v, a, h, s⟩ = true) ∧ Hid (Blk w3 wr.heap.size 43 #[.int .i64 v, .int .i64 a, .int .u32 h, .int .u32 s]) ∧ Below w.heap.size w w3) (fun i _ => k - (intOf i).toNat)
                case atStart => exact ⟨0, by omega, rfl, Lib.hid rfl, M2, B2.out⟩
                case round =>
                  clear M2 B2 hsz2
                  obtain ⟨j, hj, rfl, HF, M3, hB⟩ := hrel
                  by_cases hjk : j < k
                  · obtain ⟨⟨v', a', h', s'⟩, hm⟩ := elem_at (l := l) (k := j) (by rw [HL.out]; omega)
                    obtain ⟨ad, he, hb', d0, d1, d2, d3⟩ := wish_at (HR.out.below hB) hm
                    injection he with he
                    subst he
                    have z0 := M3.out.cell 0
                    have z1 := M3.out.cell 1
                    have j1 : (0 : Int) ≤ (j : Int) := by omega
                    have j2 : (j : Int) < (n : Int) := by omega
                    have j3 : (j : Int) < (k : Int) := by omega
                    have HFS := Lib.hid (fit_snoc ⟨v, a, h, s⟩ hm)
                    have HFN := Lib.hid (fun (hh : (!(v' == v) && !(decide (0 ≤ a) && a' == a)) = false) => HNO.out (by rw [fit_no (w := ⟨v, a, h, s⟩) hm hjk hh, Bool.and_false]))
                    clear hm d2 d3
                    have hsz3 := hB.size
                    by_cases e0 : v' = v
                    · have g0 : (v' == v) = true := by simpa using e0
                      have HV := Lib.hid (HFN.out (by rw [g0]; rfl))
                      subst e0
                      clear HNO HS HFN HFS
                      go_wp2_with fail
                      go_quiet (fail)
                      go_wp2
                      go_ret
                      exact ⟨retB HV.out.symm, below_drewN hB _⟩
                    · have g0 : (v' == v) = false := by simpa using e0
                      clear e0
                      by_cases e1 : 0 ≤ a
                      · have g1 : decide ((0 : Int) ≤ a) = true := decide_eq_true e1
                        clear e1
                        cases g2 : (a' == a) with
                        | true =>
                          have HV := Lib.hid (HFN.out (by rw [g0, g1, g2]; rfl))
                          clear HNO HS HFN HFS
                          go_wp2_with fail
                          go_quiet (fail)
                          go_wp2
                          go_ret
                          exact ⟨retB HV.out.symm, below_drewN hB _⟩
                        | false =>
                          have HV : Hid (fitB (l.take (j + 1)) ⟨v, a, h, s⟩ = true) := Lib.hid (HFS.out.trans (by rw [HF.out]; show (true && (!(v' == v) && !(decide (0 ≤ a) && a' == a))) = true; rw [g0, g1, g2]; rfl))
                          clear HFN HFS
                          go_wp2_with fail
                          go_quiet (fail)
                          go_wp2
                          go_roundw
                          case rel => exact ⟨j + 1, by omega, by go_num, HV, M3.drewN _, below_drewN hB _⟩
                          case measure => simp [intOf] <;> omega
                      · have g1 : decide ((0 : Int) ≤ a) = false := decide_eq_false e1
                        have HV : Hid (fitB (l.take (j + 1)) ⟨v, a, h, s⟩ = true) := Lib.hid (HFS.out.trans (by rw [HF.out]; show (true && (!(v' == v) && !(decide (0 ≤ a) && a' == a))) = true; rw [g0, g1]; rfl))
                        clear HFN HFS e1
                        go_wp2_with fail
                        go_quiet (fail)
                        go_wp2
                        go_roundw
                        case rel => exact ⟨j + 1, by omega, by go_num, HV, M3.drewN _, below_drewN hB _⟩
                        case measure => simp [intOf] <;> omega
                  · obtain rfl : j = k := by omega
                    have HA1 : Hid (rightK l (j + 1) = true) := Lib.hid (by rw [HS.out, HA.out, HW.out, HF.out]; rfl)
                    clear HS HNO
                    go_wp2
                    go_roundw
                    case rel => exact ⟨j + 1, by omega, by go_num, HA1, hB⟩
                    case measure => simp [intOf] <;> omega
    · obtain rfl : n = k := by omega
      have HN : Hid (FF = true) := Lib.hid (HSF.out.symm.trans (by unfold rightW; rw [HL.out]; exact HA.out))
      go_wp2
      go_ret
      exact ⟨retB HN.out.symm, hB⟩

set_option maxRecDepth 100000 in
set_option maxHeartbeats 1000000 in
theorem why_any (A : Option Addr) (n c : Nat) (l : List Wi) (s : Int) (w : World) (hR : Reads w w.heap.size 4 A n (wivs l)) (hn : n ≤ 1000) :
    Calls Tryd.prog 14 #[.slice A n c, .int .u32 s] w (Said (.int .i64 (whyE l s)) w) := by
  have HX := Lib.hid (rrow_any A n c l w hR hn)
  have HY := Lib.hid (fun u => rright_any s u)
  have HB := Lib.hid (Below.refl w.heap.size w)
  unfold whyE
  clear hR
  cases h1 : rightW l with
  | false =>
    rw [h1] at HX
    clear h1
    go_enter Tryd.func14, Tryd.ntmps14
    go_wp2_with fail
    refine HX.out.mono ?_
    rintro e w' ⟨rfl, h2⟩
    go_wp2
    go_ret
    exact ⟨rfl, h2⟩
  | true =>
    rw [h1] at HX
    clear h1
    by_cases h2 : s < 256
    · rw [decide_eq_true h2] at HY
      rw [if_pos rfl, if_pos h2]
      clear h2
      go_enter Tryd.func14, Tryd.ntmps14
      go_wp2_with fail
      refine HX.out.mono ?_
      rintro e w' ⟨rfl, h2⟩
      go_wp2_with fail
      refine (HY.out _).mono ?_
      rintro e w'' ⟨rfl, rfl⟩
      go_wp2
      go_ret
      exact ⟨rfl, h2⟩
    · rw [decide_eq_false h2] at HY
      rw [if_pos rfl, if_neg h2]
      clear h2
      go_enter Tryd.func14, Tryd.ntmps14
      go_wp2_with fail
      refine HX.out.mono ?_
      rintro e w' ⟨rfl, h2⟩
      go_wp2_with fail
      refine (HY.out _).mono ?_
      rintro e w'' ⟨rfl, rfl⟩
      go_wp2
      go_ret
      exact ⟨rfl, h2⟩

end Go.Proofs.YtldleijocjohgaaDoor
