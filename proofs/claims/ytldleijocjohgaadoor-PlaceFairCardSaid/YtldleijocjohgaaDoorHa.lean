/-
  The contract of the document's Fair. No statement is proved here.
-/
import Derived.Test.YtldleijocjohgaaDoorGv
import Derived.Test.YtldleijocjohgaaDoorGj
namespace Go.Proofs.YtldleijocjohgaaDoor
open Go.RowKit

section
variable {S N : Nat} {ps : List (Int × Int)} {x : Wi} {l : List Wi}
theorem fairR_hit {p : Int × Int} (hp : ps[N]? = some p) (hv : p.1 = x.v) : fairR S ps (x :: l) N = (hasB (alW x S : Int) p.2 && !((ps.take N).any (fun q => q.2 == p.2)) && fairR S ps l (N + 1)) := by
  show (match ps[N]? with | some p => _ | none => _) = _
  rw [hp]
  exact if_pos hv
theorem fairR_wait (h : ∀ p, ps[N]? = some p → p.1 ≠ x.v) : fairR S ps (x :: l) N = (waitB x S (ps.take N) && fairR S ps l N) := by
  show (match ps[N]? with | some p => _ | none => _) = _
  cases hp : ps[N]? with
  | none => rfl
  | some p => exact if_neg (h p hp)
theorem waitB_no {c : Nat} (hc : c < 8) {qs : List (Int × Int)} (h : (!(hasB (alW x S : Int) (c : Int)) || qs.any (fun q => q.2 == (c : Int))) = false) : waitB x S qs = false := by
  cases hw : waitB x S qs with
  | false => rfl
  | true =>
    unfold waitB at hw
    rw [List.all_eq_true] at hw
    rw [hw c (List.mem_range.2 hc)] at h
    cases h
theorem waitB_yes {qs : List (Int × Int)} (h : ∀ c : Nat, c < 8 → (!(hasB (alW x S : Int) (c : Int)) || qs.any (fun q => q.2 == (c : Int))) = true) : waitB x S qs = true := by
  unfold waitB
  rw [List.all_eq_true]
  exact fun c hc => h c (List.mem_range.1 hc)
end

set_option maxRecDepth 100000 in
set_option maxHeartbeats 8000000 in
theorem rfair_any (A : Option Addr) (n c : Nat) (l : List Wi) (S : Nat) (A' : Option Addr) (n' c' : Nat) (ps : List (Int × Int)) (w : World) (hR : Reads w w.heap.size 4 A n (wivs l)) (hU : ∀ (k : Nat) (x : Wi), l[k]? = some x → UW x) (hr : rightW l = true) (hS : S < 256) (hn : n ≤ 1000)
    (hP : Reads w w.heap.size 2 A' n' (svs ps)) (hn' : n' ≤ 1000) :
    Calls Tryd.prog 21 #[.slice A n c, .int .u32 (S : Int), .slice A' n' c'] w (Said (.bool (fairR S ps l 0)) w) := by
  have HL := Lib.hid (wishes_len hR)
  have HLP := Lib.hid (reads_len hP)
  have HR := Lib.hid hR
  have HP := Lib.hid hP
  have HAL := Lib.hid (fun (k : Nat) (x : Wi) (h : l[k]? = some x) => show ∀ u, Calls Tryd.prog 40 #[.agg #[.int .u32 x.h, .int .u32 x.s], .int .u32 (S : Int)] u (Said (.int .u32 (alW x S : Int)) u) from by
    intro u
    have hg : (rightM (x.h, x.s) && decide ((S : Int) < 256)) = true := by rw [(wi_parts (right_wish hr h).1).2.2.2.2]; simp; omega
    have e1 : alW x S = (x.h.toNat &&& (S : Int).toNat) := by unfold alW allowsR; rw [if_pos hg]; rfl
    rw [e1]
    exact rallows_any x.h x.s (S : Int) u (hU k x h).1 ⟨by omega, by omega⟩)
  have HHS := Lib.hid (fun (a : Nat) (cc : Int) u => rhas_any (a : Int) cc u (by omega))
  obtain ⟨FF, hF⟩ : ∃ r, fairR S ps l 0 = r := ⟨_, rfl⟩
  rw [hF]
  have HF := Lib.hid hF
  clear hR hU hr hP hF hS
  go_enter Tryd.func21, Tryd.ntmps21
  go_wp2_with fail
  go_loopw [7, 8] (fun nv i wr => ∃ k N : Nat, k ≤ n ∧ N ≤ n' ∧ i = .int .i64 (k : Int) ∧ nv = .int .i64 (N : Int) ∧ Hid (fairR S ps (l.drop k) N = FF) ∧ Below w.heap.size w wr) (fun _ i _ => n - (intOf i).toNat)
  case atStart => exact ⟨0, 0, by omega, by omega, rfl, rfl, Lib.hid HF.out, Below.refl _ _⟩
  case round =>
    obtain ⟨k, N, hk, hN, rfl, rfl, hFR, hB⟩ := hrel
    by_cases hlt : k < n
    · obtain ⟨x, hm⟩ := elem_at (l := l) (k := k) (by rw [HL.out]; exact hlt)
      obtain ⟨ad, rfl, hb, d0, d1, d2, d3⟩ := wish_at (HR.out.below hB) hm
      have i1 : (0 : Int) ≤ (k : Int) := by omega
      have i2 : (k : Int) < (n : Int) := by omega
      have HA := Lib.hid (HAL.out k x hm)
      have HDR : Hid (l.drop k = x :: l.drop (k + 1)) := Lib.hid (by
        obtain ⟨hk, hx⟩ := List.getElem?_eq_some_iff.1 hm
        rw [List.drop_eq_getElem_cons hk, hx])
      rw [HDR.out] at hFR
      have HXV := Lib.hid (fun (u : World) (hb2 : Below w.heap.size w u) => show u.cell? (ad.add (k * 4)) = some (.int .i64 x.v) from by
        obtain ⟨ad2, e, _, e0, _⟩ := wish_at (HR.out.below hb2) hm
        injection e with e
        subst e
        exact e0)
      have hsz := hB.size
      have HB := Lib.hid hB
      clear hm HDR hB
      obtain ⟨AL, hAL⟩ : ∃ a, alW x S = a := ⟨_, rfl⟩
      rw [hAL] at HA
      have HALe := Lib.hid hAL
      clear hAL
      obtain ⟨xv, hxv⟩ : ∃ v, x.v = v := ⟨_, rfl⟩
      rw [hxv] at d0
      have HXV2 := Lib.hid (fun (u : World) (hb2 : Below w.heap.size w u) => (HXV.out u hb2).trans (by rw [hxv]))
      have Hxv := Lib.hid hxv
      clear HXV hxv
      generalize hxh : x.h = xh at *
      generalize hxs : x.s = xs at *
      clear hxh hxs
      go_wp2_with fail
      refine (HA.out _).mono ?_
      rintro e w2 ⟨rfl, h2⟩
      have B2 := Lib.hid (HB.out.trans (h2.mono HB.out.size))
      have hsz2 := B2.out.size
      have e0 := HXV2.out _ B2.out
      clear h2 d0 d1 d2 d3
      have HWAIT : Hid ((∀ p, ps[N]? = some p → p.1 ≠ x.v) → ∀ u, Below w.heap.size w u → True) := Lib.hid (fun _ _ _ => trivial)
      by_cases hNn : N < n'
      · obtain ⟨⟨y, z⟩, hp⟩ := elem_at (l := ps) (k := N) (by rw [HLP.out]; exact hNn)
        obtain ⟨ad', rfl, hb', p0, p1⟩ := seat_at (HP.out.below B2.out) hp
        have HPV := Lib.hid (fun (u : World) (hb2 : Below w.heap.size w u) => show u.cell? ⟨(ad'.add (N * 2)).block, (ad'.add (N * 2)).off + 1, none⟩ = some (.int .i64 z) from by
          obtain ⟨ad2, e, _, _, e0⟩ := seat_at (HP.out.below hb2) hp
          injection e with e
          subst e
          exact e0)
        have i3 : (N : Int) < (n' : Int) := by omega
        have i4 : (0 : Int) ≤ (N : Int) := by omega
        cases hv : (y == xv) with
        | true =>
          have HH := Lib.hid (hFR.out.symm.trans (fairR_hit hp (by rw [Hxv.out]; exact beq_iff_eq.1 hv)))
          rw [HALe.out] at HH
          clear hp
          cases hh : hasB (AL : Int) z with
          | false =>
            have HHz := Lib.hid (fun u => hh ▸ HHS.out AL z u)
            have HV : Hid (FF = false) := Lib.hid (HH.out.trans (by rw [hh]; rfl))
            clear hh HH
            go_wp2_with fail
            go_quiet (fail)
            have e1 := HPV.out _ (below_drewN B2.out nq)
            go_wp2_with fail
            refine (HHz.out _).mono ?_
            rintro e w3 ⟨rfl, rfl⟩
            go_wp2
            go_ret
            exact ⟨retB HV.out.symm, below_drewN B2.out _⟩
          | true =>
            have HHz := Lib.hid (fun u => hh ▸ HHS.out AL z u)
            have HH2 : Hid (FF = (!((ps.take N).any (fun q => q.2 == z)) && fairR S ps (l.drop (k + 1)) (N + 1))) := Lib.hid (HH.out.trans (by rw [hh, Bool.true_and]))
            clear hh HH
            go_wp2_with fail
            go_quiet (fail)
            have e1 := HPV.out _ (below_drewN B2.out nq)
            have B3 := Lib.hid (below_drewN B2.out nq)
            go_wp2_with fail
            refine (HHz.out _).mono ?_
            rintro e w3 ⟨rfl, rfl⟩
            clear p0 p1 e0 e1
            go_wp2_with fail
            go_loopw [10] (fun i wr2 => ∃ j : Nat, j ≤ N ∧ i = .int .i64 (j : Int) ∧ Hid ((ps.take j).any (fun q => q.2 == z) = false) ∧ Below w.heap.size w wr2) (fun i _ => N - (intOf i).toNat)
            case atStart => exact ⟨0, by omega, rfl, Lib.hid rfl, B3.out⟩
            case round =>
              rename World => wr2
              obtain ⟨j, hj, rfl, hAny, hB⟩ := hrel
              by_cases hjN : j < N
              · obtain ⟨⟨y', z'⟩, hq⟩ := elem_at (l := ps) (k := j) (by rw [HLP.out]; omega)
                obtain ⟨ad2, e, hb2, _, q1⟩ := seat_at (HP.out.below hB) hq
                injection e with e
                subst e
                have e1 := HPV.out _ hB
                have i5 : (0 : Int) ≤ (j : Int) := by omega
                have i6 : (j : Int) < (n' : Int) := by omega
                have i7 : (j : Int) < (N : Int) := by omega
                have HAT := Lib.hid (any_take hq z)
                clear hq
                cases hz : (z' == z) with
                | true =>
                  have HAN : Hid ((ps.take N).any (fun q => q.2 == z) = true) := Lib.hid (by
                    have h1 : (ps.take (j + 1)).any (fun q => q.2 == z) = true := by rw [HAT.out, hz, Bool.or_true]
                    rw [List.any_eq_true] at h1 ⊢
                    obtain ⟨q, hq, hqz⟩ := h1
                    exact ⟨q, (List.take_prefix_take_left (l := ps) (show j + 1 ≤ N by omega)).subset hq, hqz⟩)
                  have HV : Hid (FF = false) := Lib.hid (HH2.out.trans (by rw [HAN.out]; rfl))
                  go_wp2_with fail
                  go_quiet (fail)
                  go_wp2
                  go_ret
                  exact ⟨retB HV.out.symm, below_drewN hB _⟩
                | false =>
                  have HAN : Hid ((ps.take (j + 1)).any (fun q => q.2 == z) = false) := Lib.hid (by rw [HAT.out, hAny.out, hz]; rfl)
                  go_wp2_with fail
                  go_quiet (fail)
                  go_wp2
                  go_roundw
                  case rel => exact ⟨j + 1, by omega, by go_num, HAN, below_drewN hB _⟩
                  case measure => simp [intOf] <;> omega
              · obtain rfl : j = N := by omega
                have HN : Hid (fairR S ps (l.drop (k + 1)) (j + 1) = FF) := Lib.hid (HH2.out.trans (by rw [hAny.out]; rfl)).symm
                go_wp2
                go_roundw
                case rel => exact ⟨k + 1, j + 1, by omega, by omega, by go_num, by go_num, HN, hB⟩
                case measure => simp [intOf] <;> omega
        | false =>
          have HH := Lib.hid (hFR.out.symm.trans (fairR_wait (fun p hp' hv' => by
            rw [hp] at hp'
            injection hp' with hp'
            subst hp'
            rw [Hxv.out] at hv'
            rw [beq_iff_eq.2 hv'] at hv
            cases hv)))
          clear hp
          go_wp2_with fail
          go_quiet (fail)
          have B3 := Lib.hid (below_drewN B2.out nq)
          clear p0 p1 e0
          go_wp2_with fail
          go_loop [11] (fun i => ∃ cc : Nat, cc ≤ 8 ∧ i = .int .i64 (cc : Int) ∧ Hid (∀ d : Nat, d < cc → (!(hasB (AL : Int) (d : Int)) || (ps.take N).any (fun q => q.2 == (d : Int))) = true)) (fun i => 8 - (intOf i).toNat)
          case atStart => exact ⟨0, by omega, rfl, Lib.hid (fun d hd => by omega)⟩
          case round =>
            obtain ⟨cc, hcc, rfl, hW⟩ := hrel
            by_cases hc8 : cc < 8
            · have i8 : (cc : Int) < 8 := by omega
              obtain ⟨b9, hbe⟩ : ∃ b, hasB (AL : Int) (cc : Int) = b := ⟨_, rfl⟩
              have HHc := Lib.hid (fun u => hbe ▸ HHS.out AL (cc : Int) u)
              have HBE := Lib.hid hbe
              clear hbe
              go_wp2_with fail
              refine (HHc.out _).mono ?_
              rintro e w4 ⟨rfl, rfl⟩
              go_wp2_with fail
              go_loop [12, 13] (fun t i => ∃ j : Nat, j ≤ N ∧ i = .int .i64 (j : Int) ∧ t = .bool (!b9 || (ps.take j).any (fun q => q.2 == (cc : Int)))) (fun _ i => N - (intOf i).toNat)
              case atStart => exact ⟨0, by omega, rfl, by simp⟩
              case round =>
                obtain ⟨j, hj, rfl, rfl⟩ := hrel
                by_cases hjN : j < N
                · obtain ⟨⟨y', z'⟩, hq⟩ := elem_at (l := ps) (k := j) (by rw [HLP.out]; omega)
                  obtain ⟨ad2, e, hb2, _, q1⟩ := seat_at (HP.out.below B3.out) hq
                  injection e with e
                  subst e
                  have i5 : (0 : Int) ≤ (j : Int) := by omega
                  have i6 : (j : Int) < (n' : Int) := by omega
                  have i7 : (j : Int) < (N : Int) := by omega
                  have HAT := Lib.hid (any_take hq (cc : Int))
                  clear hq
                  cases hz : (z' == (cc : Int)) with
                  | true =>
                    go_wp2
                    go_round
                    case rel => exact ⟨j + 1, by omega, by go_num, by rw [HAT.out, hz]; simp⟩
                    case measure => simp [intOf] <;> omega
                  | false =>
                    go_wp2
                    go_round
                    case rel => exact ⟨j + 1, by omega, by go_num, by rw [HAT.out, hz, Bool.or_false]⟩
                    case measure => simp [intOf] <;> omega
                · obtain rfl : j = N := by omega
                  have HAny := Lib.hid (show ∀ b, (!b9 || (ps.take j).any (fun q => q.2 == (cc : Int))) = b → (!(hasB (AL : Int) (cc : Int)) || (ps.take j).any (fun q => q.2 == (cc : Int))) = b from fun b hb => by rw [HBE.out]; exact hb)
                  generalize hd : (!b9 || (ps.take j).any (fun q => q.2 == (cc : Int))) = bd at *
                  have HAn2 := Lib.hid (HAny.out _ rfl)
                  clear hd HAny
                  cases bd with
                  | true =>
                    go_wp2
                    go_round
                    case rel => exact ⟨cc + 1, by omega, by go_num, Lib.hid (fun d hd => by
                      by_cases e : d = cc
                      · subst e; exact HAn2.out
                      · exact hW.out d (by omega))⟩
                    case measure => simp [intOf] <;> omega
                  | false =>
                    have HV : Hid (FF = false) := Lib.hid (HH.out.trans (by rw [waitB_no hc8 (by rw [HALe.out]; exact HAn2.out)]; rfl))
                    go_wp2
                    go_ret
                    exact ⟨retB HV.out.symm, B3.out⟩
            · obtain rfl : cc = 8 := by omega
              have HNX : Hid (fairR S ps (l.drop (k + 1)) N = FF) := Lib.hid (HH.out.trans (by rw [waitB_yes (fun d hd => by rw [HALe.out]; exact hW.out d hd), Bool.true_and])).symm
              go_wp2
              go_roundw
              case rel => exact ⟨k + 1, N, by omega, by omega, by go_num, by first | rfl | rw [hNe], HNX, B3.out⟩
              case measure => simp [intOf] <;> omega
      · have hNe : N = n' := by omega
        have g1 : decide ((N : Int) < (n' : Int)) = false := decide_eq_false (by omega)
        have HH := Lib.hid (hFR.out.symm.trans (fairR_wait (fun p hp' _ => by
          have := (List.getElem?_eq_some_iff.1 hp').1
          have := HLP.out
          omega)))
        go_wp2_with fail
        go_quiet (fail)
        have B3 := Lib.hid (below_drewN B2.out nq)
        clear e0
        go_wp2_with fail
        go_loop [11] (fun i => ∃ cc : Nat, cc ≤ 8 ∧ i = .int .i64 (cc : Int) ∧ Hid (∀ d : Nat, d < cc → (!(hasB (AL : Int) (d : Int)) || (ps.take N).any (fun q => q.2 == (d : Int))) = true)) (fun i => 8 - (intOf i).toNat)
        case atStart => exact ⟨0, by omega, rfl, Lib.hid (fun d hd => by omega)⟩
        case round =>
          obtain ⟨cc, hcc, rfl, hW⟩ := hrel
          by_cases hc8 : cc < 8
          · have i8 : (cc : Int) < 8 := by omega
            obtain ⟨b9, hbe⟩ : ∃ b, hasB (AL : Int) (cc : Int) = b := ⟨_, rfl⟩
            have HHc := Lib.hid (fun u => hbe ▸ HHS.out AL (cc : Int) u)
            have HBE := Lib.hid hbe
            clear hbe
            go_wp2_with fail
            refine (HHc.out _).mono ?_
            rintro e w4 ⟨rfl, rfl⟩
            go_wp2_with fail
            go_loop [12, 13] (fun t i => ∃ j : Nat, j ≤ N ∧ i = .int .i64 (j : Int) ∧ t = .bool (!b9 || (ps.take j).any (fun q => q.2 == (cc : Int)))) (fun _ i => N - (intOf i).toNat)
            case atStart => exact ⟨0, by omega, rfl, by simp⟩
            case round =>
              obtain ⟨j, hj, rfl, rfl⟩ := hrel
              by_cases hjN : j < N
              · obtain ⟨⟨y', z'⟩, hq⟩ := elem_at (l := ps) (k := j) (by rw [HLP.out]; omega)
                obtain ⟨ad2, e, hb2, _, q1⟩ := seat_at (HP.out.below B3.out) hq
                subst e
                have i5 : (0 : Int) ≤ (j : Int) := by omega
                have i6 : (j : Int) < (n' : Int) := by omega
                have i7 : (j : Int) < (N : Int) := by omega
                have HAT := Lib.hid (any_take hq (cc : Int))
                clear hq
                cases hz : (z' == (cc : Int)) with
                | true =>
                  go_wp2
                  go_round
                  case rel => exact ⟨j + 1, by omega, by go_num, by rw [HAT.out, hz]; simp⟩
                  case measure => simp [intOf] <;> omega
                | false =>
                  go_wp2
                  go_round
                  case rel => exact ⟨j + 1, by omega, by go_num, by rw [HAT.out, hz, Bool.or_false]⟩
                  case measure => simp [intOf] <;> omega
              · obtain rfl : j = N := by omega
                have HAny := Lib.hid (show ∀ b, (!b9 || (ps.take j).any (fun q => q.2 == (cc : Int))) = b → (!(hasB (AL : Int) (cc : Int)) || (ps.take j).any (fun q => q.2 == (cc : Int))) = b from fun b hb => by rw [HBE.out]; exact hb)
                generalize hd : (!b9 || (ps.take j).any (fun q => q.2 == (cc : Int))) = bd at *
                have HAn2 := Lib.hid (HAny.out _ rfl)
                clear hd HAny
                cases bd with
                | true =>
                  go_wp2
                  go_round
                  case rel => exact ⟨cc + 1, by omega, by go_num, Lib.hid (fun d hd => by
                    by_cases e : d = cc
                    · subst e; exact HAn2.out
                    · exact hW.out d (by omega))⟩
                  case measure => simp [intOf] <;> omega
                | false =>
                  have HV : Hid (FF = false) := Lib.hid (HH.out.trans (by rw [waitB_no hc8 (by rw [HALe.out]; exact HAn2.out)]; rfl))
                  go_wp2
                  go_ret
                  exact ⟨retB HV.out.symm, B3.out⟩
          · obtain rfl : cc = 8 := by omega
            have HNX : Hid (fairR S ps (l.drop (k + 1)) N = FF) := Lib.hid (HH.out.trans (by rw [waitB_yes (fun d hd => by rw [HALe.out]; exact hW.out d hd), Bool.true_and])).symm
            go_wp2
            go_roundw
            case rel => exact ⟨k + 1, N, by omega, by omega, by go_num, by first | rfl | rw [hNe], HNX, B3.out⟩
            case measure => simp [intOf] <;> omega
    · obtain rfl : n = k := by omega
      have e1 : l.drop n = [] := by rw [← HL.out]; exact List.drop_length
      rw [e1] at hFR
      have HV : Hid ((N == n') = FF) := Lib.hid (by rw [← HLP.out]; exact hFR.out)
      by_cases hNe : N = n'
      · subst hNe
        have HV2 : Hid (FF = true) := Lib.hid (HV.out.symm.trans (by simp))
        go_wp2
        go_ret
        exact ⟨retB HV2.out.symm, hB⟩
      · have HV2 : Hid (FF = false) := Lib.hid (HV.out.symm.trans (by simpa using hNe))
        have g1 : ((N : Int) == (n' : Int)) = false := by simp; omega
        go_wp2
        go_ret
        exact ⟨retB HV2.out.symm, hB⟩

end Go.Proofs.YtldleijocjohgaaDoor
