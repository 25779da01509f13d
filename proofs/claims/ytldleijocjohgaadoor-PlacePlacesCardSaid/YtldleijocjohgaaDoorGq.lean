/-
  PlaceMore's walk. No statement is proved here.
-/
import Derived.Test.YtldleijocjohgaaDoorGn
namespace Go.Proofs.YtldleijocjohgaaDoor
open Go.RowKit

/-! ### a row's parts -/
theorem puts_append (a b : List Tu) : putsOf (a ++ b) = putsOf a ++ putsOf b := by unfold putsOf; rw [List.filter_append, List.map_append]
theorem rightK_of {l : List Wi} (h : ∀ (k : Nat) (x : Wi), l[k]? = some x → wiB x = true ∧ fitB (l.take k) x = true) : ∀ k, rightK l k = true
  | 0 => rfl
  | k + 1 => by
    cases hx : l[k]? with
    | none =>
      show (rightK l k && (match l[k]? with | some w => wiB w && fitB (l.take k) w | none => true)) = true
      rw [hx, rightK_of h k]; rfl
    | some x =>
      rw [rightK_step hx, rightK_of h k, (h k x hx).1, (h k x hx).2]; rfl
theorem right_take {l : List Wi} (hr : rightW l = true) (m : Nat) : rightW (l.take m) = true := rightK_of (fun k x hx => by
  have hk : k < m := by have := (List.getElem?_eq_some_iff.1 hx).1; rw [List.length_take] at this; omega
  rw [List.getElem?_take_of_lt hk] at hx
  have := right_wish hr hx
  rw [List.take_take, Nat.min_eq_left (by omega)]
  exact this) _
theorem right_drop {l : List Wi} (hr : rightW l = true) (m : Nat) : rightW (l.drop m) = true := rightK_of (fun k x hx => by
  rw [List.getElem?_drop] at hx
  obtain ⟨h1, h2⟩ := right_wish hr hx
  refine ⟨h1, ?_⟩
  unfold fitB at h2 ⊢
  rw [List.all_eq_true] at h2 ⊢
  intro y hy
  refine h2 y ?_
  obtain ⟨j, hj⟩ := List.mem_iff_getElem?.1 hy
  have hjk : j < k := by have := (List.getElem?_eq_some_iff.1 hj).1; rw [List.length_take] at this; omega
  rw [List.getElem?_take_of_lt hjk, List.getElem?_drop] at hj
  exact List.mem_of_getElem? (i := m + j) (by rw [List.getElem?_take_of_lt (by omega)]; exact hj)) _
theorem um_take {l : List Wi} (hU : ∀ (k : Nat) (x : Wi), l[k]? = some x → UW x) (m : Nat) : ∀ (k : Nat) (x : Wi), (l.take m)[k]? = some x → UW x := fun k x hx => by
  have hk : k < m := by have := (List.getElem?_eq_some_iff.1 hx).1; rw [List.length_take] at this; omega
  rw [List.getElem?_take_of_lt hk] at hx
  exact hU k x hx
theorem um_drop {l : List Wi} (hU : ∀ (k : Nat) (x : Wi), l[k]? = some x → UW x) (m : Nat) : ∀ (k : Nat) (x : Wi), (l.drop m)[k]? = some x → UW x := fun k x hx => by
  rw [List.getElem?_drop] at hx
  exact hU _ x hx
theorem puts_parts (l : List Wi) (S m : Nat) : putsOf (tus bestW l S) = putsOf (tus bestW (l.take m) S) ++ putsOf (tus bestW (l.drop m) (lefts bestW (l.take m) S)) := by
  rw [← puts_append, ← tus_append, List.take_append_drop]
theorem cut_wishes {w : World} {B n : Nat} {A : Option Addr} {l : List Wi} (h : Reads w B 4 A n (wivs l)) {m : Nat} (hm : m ≤ n) : Reads w B 4 A m (wivs (l.take m)) := by
  have hl := wishes_len h
  refine ⟨by rw [length_wivs, List.length_take]; omega, fun h0 => ?_⟩
  obtain ⟨ad, e, hb, hc⟩ := h.2 (by omega)
  refine ⟨ad, e, hb, fun j u hj => hc j u ?_⟩
  have e2 : wivs l = wivs (l.take m) ++ wivs (l.drop m) := by unfold wivs; rw [← flat_append, List.take_append_drop]
  rw [e2, List.getElem?_append_left (List.getElem?_eq_some_iff.1 hj).1]
  exact hj
theorem drop_wishes {w : World} {B n : Nat} {A : Option Addr} {l : List Wi} (h : Reads w B 4 A n (wivs l)) {m c : Nat} (hm : m ≤ n) (hc : n ≤ c) : Reads w B 4 (if c = m then A else A.map (·.add (m * 4))) (n - m) (wivs (l.drop m)) := by
  have := h.cut hm hc
  have e : (wivs l).drop (m * 4) = wivs (l.drop m) := by
    have e2 : wivs l = wivs (l.take m) ++ wivs (l.drop m) := by unfold wivs; rw [← flat_append, List.take_append_drop]
    have hl : (wivs (l.take m)).length = m * 4 := by rw [length_wivs, List.length_take, wishes_len h]; omega
    rw [e2, ← hl, List.drop_left]
  rwa [e] at this
theorem max_rem (t : Int) (n : Nat) : ∃ m : Nat, m ≤ n ∧ (max t 0).tmod ((n : Int) + 1) = (m : Int) := by
  refine ⟨((max t 0).tmod ((n : Int) + 1)).toNat, ?_, ?_⟩
  · rw [Int.tmod_eq_emod_of_nonneg (by omega)]
    have := Int.emod_lt_of_pos (max t 0) (b := (n : Int) + 1) (by omega)
    omega
  · rw [Int.toNat_of_nonneg]
    rw [Int.tmod_eq_emod_of_nonneg (by omega)]
    exact Int.emod_nonneg _ (by omega)
theorem places_facts {l : List Wi} {S m : Nat} (hS : S < 256) (h : whyE l (S : Int) = 0) : whyE (l.take m) (S : Int) = 0 ∧ whyE (l.drop m) (lefts bestW (l.take m) S : Int) = 0 := by
  have hr := why_right h
  have hL := lefts_small bestW (l.take m) S hS
  unfold whyE
  rw [if_pos (right_take hr m), if_pos (right_drop hr m), if_pos (by omega), if_pos (by omega)]
  exact ⟨rfl, rfl⟩

set_option maxRecDepth 100000 in
set_option maxHeartbeats 4000000 in
theorem more_walk (A : Option Addr) (n c : Nat) (l : List Wi) (s t : Int) (w : World) (hD : Db w) (hR : Reads w w.heap.size 4 A n (wivs l)) (hc : n ≤ c) (hU : ∀ (k : Nat) (x : Wi), l[k]? = some x → UW x) (hs : U32 s) :
    Calls Tryd.prog 6 #[.slice A n c, .int .u32 s, .int .i64 t] w (Said (.bool true) w) := by
  have HK := Lib.hid (fun u hu => wakes_any u hu)
  have HD := Lib.hid hD
  by_cases hn : 60 < n
  · have q : decide ((60 : Int) < (n : Int)) = true := decide_eq_true (by omega)
    clear hR hU hs hD hn hc
    go_enter Tryd.func6, Tryd.ntmps6
    go_wp2_with fail
    refine (HK.out _ HD.out).mono ?_
    rintro e w1 ⟨rfl, h1⟩
    go_wp2
    go_ret
    exact ⟨rfl, h1⟩
  · have q : decide ((60 : Int) < (n : Int)) = false := decide_eq_false (by omega)
    obtain ⟨m, hmn, hm⟩ := max_rem t n
    have HL := Lib.hid (wishes_len hR)
    have HR := Lib.hid hR
    have HCm := Lib.hid hmn
    have HCc := Lib.hid hc
    have HPa := Lib.hid (fun u hR hD => place_any A n c l s u hs hR hU (by omega) hD)
    have HPb := Lib.hid (fun u hR hD => place_any A m c (l.take m) s u hs hR (um_take hU m) (by omega) hD)
    have hn60 : n ≤ 60 := by omega
    have hmc : (m : Int) ≤ (c : Int) := by omega
    have hm0 : (0 : Int) ≤ (m : Int) := by omega
    have hmnI : (m : Int) ≤ (n : Int) := by omega
    by_cases hE : whyE l s = 0
    · have hs256 := why_small hE
      obtain ⟨S, hS⟩ := Int.eq_ofNat_of_zero_le hs.1
      subst hS
      have hS : S < 256 := by omega
      obtain ⟨E2, E3⟩ := places_facts (m := m) hS hE
      have hparts := puts_parts l S m
      have hLs := lefts_small bestW (l.take m) S hS
      have HPc := Lib.hid (fun A' u hR hD => place_any A' (n - m) (c - m) (l.drop m) (lefts bestW (l.take m) S : Int) u ⟨by omega, by omega⟩ hR (um_drop hU m) (by omega) hD)
      unfold placesL placesS at HPa HPb HPc
      rw [if_pos hE, if_pos hE, hE, Int.toNat_natCast] at HPa
      rw [if_pos E2, if_pos E2, E2, Int.toNat_natCast] at HPb
      rw [if_pos E3, if_pos E3, E3, Int.toNat_natCast] at HPc
      have hl1 : (putsOf (tus bestW l S)).length = (putsOf (tus bestW (l.take m) S)).length + (putsOf (tus bestW (l.drop m) (lefts bestW (l.take m) S))).length := by rw [hparts, List.length_append]
      have hl2 : (putsOf (tus bestW l S)).length ≤ 60 := by have := puts_le (tus bestW l S); rw [tus_length, wishes_len hR] at this; omega
      generalize putsOf (tus bestW l S) = ps at *
      generalize putsOf (tus bestW (l.drop m) (lefts bestW (l.take m) S)) = rs at *
      generalize putsOf (tus bestW (l.take m) S) = qs at *
      generalize lefts bestW (l.take m) S = L at *
      generalize lefts bestW l S = L1 at *
      generalize lefts bestW (l.drop m) L = L3 at *
      have HPS := Lib.hid hparts
      obtain ⟨N, hN⟩ : ∃ N, ps.length = N := ⟨_, rfl⟩
      obtain ⟨M, hM⟩ : ∃ M, qs.length = M := ⟨_, rfl⟩
      obtain ⟨R, hRl⟩ : ∃ R, rs.length = R := ⟨_, rfl⟩
      have HNl := Lib.hid hN
      have HMl := Lib.hid hM
      have HRl := Lib.hid hRl
      rw [hN, hM, hRl] at hl1
      rw [hN] at hl2
      have hsub : (N : Int) - (M : Int) = (R : Int) := by omega
      have hle : ¬ (M : Int) > (N : Int) := by omega
      have hle2 : ¬ N < M := by omega
      have hle3 : decide (N < M) = false := decide_eq_false hle2
      unfold PutsOf at HPa HPb HPc
      rw [hN] at HPa
      rw [hM] at HPb
      rw [hRl] at HPc
      have HHl := Lib.hid hl1
      have hM60 : M ≤ 60 := by omega
      have hR60 : R ≤ 60 := by omega
      clear hR hU hs hD hn hE E2 E3 hparts hl1 hs256 hS hLs hN hM hRl hc
      go_enter Tryd.func6, Tryd.ntmps6
      go_wp2_with fail
      refine (HK.out _ HD.out).mono ?_
      rintro e w1 ⟨rfl, h1⟩
      have HD1 := Lib.hid (HD.out.below h1 HD.out.lt)
      have HR1 := Lib.hid ((HR.out.below h1).more h1.size)
      have HB1 := Lib.hid h1
      clear h1
      go_wp2_with fail
      refine (HPa.out w1 HR1.out HD1.out).mono ?_
      rintro e w2 ⟨v1, rfl, O1, h2⟩
      obtain ⟨A1, c1, rfl, hc1, P1⟩ := own_reads O1
      have HP1 := Lib.hid P1
      have HR2 := Lib.hid ((HR1.out.below h2).more h2.size)
      have HD2 := Lib.hid (HD1.out.below h2 HD1.out.lt)
      have HB2 := Lib.hid (HB1.out.trans (h2.mono HB1.out.size))
      clear h2 O1 P1
      go_wp2_with fail
      refine (HPb.out w2 (cut_wishes HR2.out HCm.out) HD2.out).mono ?_
      rintro e w3 ⟨v2, rfl, O2, h3⟩
      obtain ⟨A2, c2, rfl, hc2, P2⟩ := own_reads O2
      have HP2 := Lib.hid P2
      have HP1' := Lib.hid ((HP1.out.below h3).more h3.size)
      have HR3 := Lib.hid ((HR2.out.below h3).more h3.size)
      have HD3 := Lib.hid (HD2.out.below h3 HD2.out.lt)
      have HB3 := Lib.hid (HB2.out.trans (h3.mono HB2.out.size))
      clear h3 O2 P2
      go_wp2_with fail
      go_loopw [60, 13] (fun i _ wr => ∃ k : Nat, k ≤ M ∧ i = .int .i64 (k : Int) ∧ Below w3.heap.size w3 wr) (fun i _ _ => M - (intOf i).toNat)
      case atStart => exact ⟨0, by omega, rfl, Below.refl _ _⟩
      case round =>
        obtain ⟨k, hk, rfl, hB⟩ := hrel
        by_cases hlt : k < M
        · obtain ⟨⟨x, y⟩, hx⟩ := elem_at (l := qs) (k := k) (by rw [HMl.out]; exact hlt)
          have hy : ps[k]? = some (x, y) := by rw [HPS.out, List.getElem?_append_left (by rw [HMl.out]; exact hlt)]; exact hx
          obtain ⟨ad, rfl, hb1, d0, d1⟩ := seat_at (HP2.out.below hB) hx
          obtain ⟨ad', rfl, hb2, g0, g1⟩ := seat_at (HP1'.out.below hB) hy
          have i1 : (0 : Int) ≤ (k : Int) := by omega
          have i2 : (k : Int) < (M : Int) := by omega
          have i3 : (k : Int) < (N : Int) := by have := HHl.out; omega
          clear hx hy hb1 hb2
          go_wp2_with fail
          go_quiet (fail)
          go_wp2
          go_roundw
          case rel => exact ⟨k + 1, by omega, by go_num, below_drewN hB _⟩
          case measure => simp [intOf] <;> omega
        · obtain rfl : M = k := by omega
          have HR4 := Lib.hid ((HR3.out.below hB).more hB.size)
          have HD4 := Lib.hid (HD3.out.below hB HD3.out.lt)
          have HB4 := Lib.hid (HB3.out.trans (hB.mono HB3.out.size))
          have HP1'' := Lib.hid ((HP1'.out.below hB).more hB.size)
          have HCut := Lib.hid (drop_wishes HR4.out HCm.out HCc.out)
          obtain ⟨A3, hA3⟩ : ∃ A3, (if c = m then A else A.map (·.add (m * 4))) = A3 := ⟨_, rfl⟩
          rw [hA3] at HCut
          clear hB
          go_wp2_with fail
          refine (HPc.out A3 wr HCut.out HD4.out).mono ?_
          rintro e w5 ⟨v3, rfl, O3, h5⟩
          obtain ⟨A5, c5, rfl, hc5, P5⟩ := own_reads O3
          have HP5 := Lib.hid P5
          have HP15 := Lib.hid ((HP1''.out.below h5).more h5.size)
          have HB5 := Lib.hid (HB4.out.trans (h5.mono HB4.out.size))
          clear h5 O3 P5
          go_wp2_with fail
          go_loopw [96, 16] (fun i _ wr2 => ∃ k : Nat, k ≤ R ∧ i = .int .i64 (k : Int) ∧ Below w5.heap.size w5 wr2) (fun i _ _ => R - (intOf i).toNat)
          case atStart => exact ⟨0, by omega, rfl, Below.refl _ _⟩
          case round =>
            rename World => wr2
            obtain ⟨k, hk, rfl, hB⟩ := hrel
            by_cases hlt : k < R
            · obtain ⟨⟨x, y⟩, hx⟩ := elem_at (l := rs) (k := k) (by rw [HRl.out]; exact hlt)
              have hy : ps[M + k]? = some (x, y) := by rw [HPS.out, List.getElem?_append_right (by rw [HMl.out]; omega), HMl.out, Nat.add_sub_cancel_left]; exact hx
              obtain ⟨ad, rfl, hb1, d0, d1⟩ := seat_at (HP5.out.below hB) hx
              obtain ⟨j, hj, hjI⟩ : ∃ j : Nat, M + k = j ∧ (M : Int) + (k : Int) = (j : Int) := ⟨M + k, rfl, by omega⟩
              rw [hj] at hy
              have hjN : j < N := by have := HHl.out; omega
              obtain ⟨ad', rfl, hb2, g0, g1⟩ := seat_at (HP15.out.below hB) hy
              have i1 : (0 : Int) ≤ (k : Int) := by omega
              have i2 : (k : Int) < (R : Int) := by omega
              have i3 : (0 : Int) ≤ (j : Int) := by omega
              have i4 : (j : Int) < (N : Int) := by omega
              clear hx hy hb1 hb2 hj
              go_wp2_with fail
              go_quiet (fail)
              go_wp2
              go_roundw
              case rel => exact ⟨k + 1, by omega, by go_num, below_drewN hB _⟩
              case measure => simp [intOf] <;> omega
            · obtain rfl : R = k := by omega
              go_wp2
              go_ret
              exact ⟨rfl, HB5.out.trans (hB.mono HB5.out.size)⟩
    · have q2 : (whyE l s != 0) = true := by simpa using hE
      unfold placesL placesS at HPa
      rw [if_neg hE, if_neg hE] at HPa
      generalize whyE l s = E at *
      generalize placesL (l.take m) s = qs at *
      generalize placesS (l.take m) s = L2 at *
      generalize whyE (l.take m) s = E2 at *
      clear hR hU hs hD hn hE hc
      go_enter Tryd.func6, Tryd.ntmps6
      go_wp2_with fail
      refine (HK.out _ HD.out).mono ?_
      rintro e w1 ⟨rfl, h1⟩
      have HD1 := Lib.hid (HD.out.below h1 HD.out.lt)
      have HR1 := Lib.hid ((HR.out.below h1).more h1.size)
      have HB1 := Lib.hid h1
      clear h1
      go_wp2_with fail
      refine (HPa.out w1 HR1.out HD1.out).mono ?_
      rintro e w2 ⟨v1, rfl, O1, h2⟩
      obtain ⟨A1, c1, rfl, hc1, P1⟩ := own_reads O1
      have HR2 := Lib.hid ((HR1.out.below h2).more h2.size)
      have HD2 := Lib.hid (HD1.out.below h2 HD1.out.lt)
      have HB2 := Lib.hid (HB1.out.trans (h2.mono HB1.out.size))
      clear h2 O1 P1
      go_wp2_with fail
      refine (HPb.out w2 (cut_wishes HR2.out HCm.out) HD2.out).mono ?_
      rintro e w3 ⟨v2, rfl, O2, h3⟩
      obtain ⟨A2, c2, rfl, hc2, P2⟩ := own_reads O2
      have HB3 := Lib.hid (HB2.out.trans (h3.mono HB2.out.size))
      clear h3 O2 P2
      go_wp2
      go_ret
      exact ⟨rfl, HB3.out⟩

end Go.Proofs.YtldleijocjohgaaDoor
