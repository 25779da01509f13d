/-
  PlaceWaits' walk, the program's. No statement is proved here.
-/
import Derived.Test.YtldleijocjohgaaDoorGs
namespace Go.Proofs.YtldleijocjohgaaDoor
open Go.RowKit Go.Maps

theorem or_shift {ah c : Nat} (h : ah < 256) (hc : c < 8) : bits .or .u32 (ah : Int) (2 ^ c) = ((ah ||| 2 ^ c : Nat) : Int) ∧ IntKind.u32.wrap (2 ^ c) = 2 ^ c := by
  obtain ⟨P, hP⟩ : ∃ P : Nat, 2 ^ c = P := ⟨_, rfl⟩
  have h2c : (2 : Int) ^ c = (P : Int) := by rw [← hP]; push_cast; rfl
  have h3 : P < 256 := by rw [← hP]; rcases below8 hc with rfl | rfl | rfl | rfl | rfl | rfl | rfl | rfl <;> decide
  rw [h2c, hP]
  constructor
  · rw [u32_or _ _ (by omega) (by omega) (by omega) (by omega), Int.toNat_natCast, Int.toNat_natCast]
  · simp [IntKind.wrap, IntKind.bits, IntKind.signed]
    omega

set_option maxRecDepth 100000 in
set_option maxHeartbeats 8000000 in
theorem waits_walk (A : Option Addr) (n c : Nat) (l : List Wi) (s : Int) (w : World) (hD : Db w) (hR : Reads w w.heap.size 4 A n (wivs l)) (hU : ∀ (k : Nat) (x : Wi), l[k]? = some x → UW x) (hs : U32 s) :
    Calls Tryd.prog 5 #[.slice A n c, .int .u32 s] w (Said (.bool true) w) := by
  have HK := Lib.hid (fun u hu => wakes_any u hu)
  have HD := Lib.hid hD
  by_cases hn : 60 < n
  · have q : decide ((60 : Int) < (n : Int)) = true := decide_eq_true (by omega)
    clear hR hU hs hD hn
    go_enter Tryd.func5, Tryd.ntmps5
    go_wp2_with fail
    refine (HK.out _ HD.out).mono ?_
    rintro e w1 ⟨rfl, h1⟩
    go_wp2
    go_ret
    exact ⟨rfl, h1⟩
  · have q : decide ((60 : Int) < (n : Int)) = false := decide_eq_false (by omega)
    have HL := Lib.hid (wishes_len hR)
    have HR := Lib.hid hR
    have HPa := Lib.hid (fun u hR hD => place_any A n c l s u hs hR hU (by omega) hD)
    have hn60 : n ≤ 60 := by omega
    by_cases hE : whyE l s = 0
    · have hs256 := why_small hE
      obtain ⟨S, hS⟩ := Int.eq_ofNat_of_zero_le hs.1
      subst hS
      have hS : S < 256 := by omega
      have HW := Lib.hid (waits_facts (why_right hE) hU hS)
      have HFair := Lib.hid (fun A' N c' (ps : List (Int × Int)) u hR hP hN => fair_any A n c l (S : Int) A' N c' ps u hs hR hU (by omega) hP hN)
      have hfv : ∀ ps, fairV l (S : Int) ps = fairP l S ps := fun ps => by unfold fairV; rw [if_pos hE, Int.toNat_natCast]
      rw [hE] at HFair
      have HFV := Lib.hid hfv
      unfold placesL placesS at HPa
      rw [if_pos hE, if_pos hE, hE, Int.toNat_natCast] at HPa
      have hl2 : (putsOf (tus bestW l S)).length ≤ 60 := by have := puts_le (tus bestW l S); rw [tus_length, wishes_len hR] at this; omega
      have HLS := Lib.hid (lefts_small bestW l S hS)
      generalize putsOf (tus bestW l S) = ps at *
      generalize hLe : lefts bestW l S = L at *
      have HLE := Lib.hid hLe
      clear hLe
      obtain ⟨N, hN⟩ : ∃ N, ps.length = N := ⟨_, rfl⟩
      have HNl := Lib.hid hN
      rw [hN] at hl2
      unfold PutsOf at HPa
      rw [hN] at HPa
      have HHasL := Lib.hid (fun (x : Int) u => has_any (L : Int) x u (by omega) (by have := HLS.out; omega))
      have HHasS := Lib.hid (fun (x : Int) u => has_any (S : Int) x u (by omega) (by omega))
      have HAl := Lib.hid (fun (x : Wi) (hx : UW x) u => allows_any x.h x.s (S : Int) u hx.1 hx.2 ⟨by omega, by omega⟩)
      have HHasN := Lib.hid (fun (a : Nat) (ha : a < 256) (x : Int) u => has_any (a : Int) x u (by omega) (by omega))
      have HWi := Lib.hid (fun (a b : Nat) (ha : a < 256) (hb : b < 256) u => within_any (a : Int) (b : Int) u (by omega) (by omega) (by omega) (by omega))
      have hmm := @run_makeMap Tryd.prog
      clear hR hU hs hD hn hE hs256 hS hN hfv
      go_enter Tryd.func5, Tryd.ntmps5
      go_wp2_with fail
      refine (HK.out _ HD.out).mono ?_
      rintro e w1 ⟨rfl, h1⟩
      have HD1 := Lib.hid (HD.out.below h1 HD.out.lt)
      have HR1 := Lib.hid ((HR.out.below h1).more h1.size)
      have HB1 := Lib.hid h1
      clear h1
      go_wp2_with fail
      refine (HPa.out w1 HR1.out HD1.out).mono ?_
      rintro e w2 ⟨v1, rfl, O1, h2⟩
      obtain ⟨A1, c1, rfl, hc1, P1⟩ := own_reads O1
      have HP1 := Lib.hid P1
      have HR2 := Lib.hid ((HR1.out.below h2).more h2.size)
      have HB2 := Lib.hid (HB1.out.trans (h2.mono HB1.out.size))
      have M0 := MP.made w2
      have B0 := (Below.refl w2.heap.size w2).alloc (Nat.le_refl _) (.map #[] 0)
      clear h2 O1 P1
      go_wp2_with fail
      clear hmm
      go_loopw [40] (fun i wr => ∃ k : Nat, k ≤ N ∧ i = .int .i64 (k : Int) ∧ Hid (MP wr w2.heap.size (ps.take k)) ∧ Below w2.heap.size w2 wr) (fun i _ => N - (intOf i).toNat)
      case atStart => exact ⟨0, by omega, rfl, Lib.hid M0, B0⟩
      case round =>
        clear M0 B0
        obtain ⟨k, hk, rfl, HM, hB⟩ := hrel
        by_cases hlt : k < N
        · obtain ⟨⟨x, y⟩, hx⟩ := elem_at (l := ps) (k := k) (by rw [HNl.out]; exact hlt)
          obtain ⟨ad, rfl, hb1, d0, d1⟩ := seat_at (HP1.out.below hB) hx
          obtain ⟨e0, e1, e2, e3, e4, e5, e6, e7⟩ := HW.out.each k _ hx
          have M1 := HM.out.alloc (.cells #[.int .i64 x, .int .i64 y] 52)
          have hlk := M1.look x (wf_small e0 e1)
          rw [e4] at hlk
          have K10 := Blk.new wr 52 #[.int .i64 x, .int .i64 y]
          have B1 := hB.alloc hB.size (.cells #[.int .i64 x, .int .i64 y] 52)
          obtain ⟨w5, hst, M5, g5⟩ := M1.store (wf_small e0 e1) (wf_small e2 e3) e5 (by rw [List.length_take]; unfold maxLen; omega)
          have HM5 : Hid (MP w5 w2.heap.size (ps.take (k + 1))) := Lib.hid (by rw [List.take_add_one, hx]; exact M5)
          have HB5 := Lib.hid (B1.grown g5 B1.size (fun g hg => by injection hg with hg; omega))
          have HhL := Lib.hid (fun u => HHasL.out y u)
          have HhS := Lib.hid (fun u => HHasS.out y u)
          rw [e6] at HhL
          rw [e7] at HhS
          have z0 := K10.cell 0
          have z1 := K10.cell 1
          clear hx hb1 hB e0 e1 e2 e3 e4 e5 e6 e7 M1 K10 B1 M5 g5
          go_wp2_with fail
          refine (HhL.out _).mono ?_
          rintro e w6 ⟨rfl, rfl⟩
          go_wp2_with fail
          refine (HhS.out _).mono ?_
          rintro e w6 ⟨rfl, rfl⟩
          go_wp2_with fail
          go_roundw
          case rel => exact ⟨k + 1, by omega, by go_num, HM5, HB5.out⟩
          case measure => simp [intOf] <;> omega
        · obtain rfl : N = k := by omega
          have e1 : ps.take N = ps := by rw [← HNl.out]; exact List.take_length
          rw [e1] at HM
          obtain ⟨X2, rfl⟩ : ∃ X, X = wr := ⟨_, rfl⟩
          have HR3 := Lib.hid ((HR2.out.below hB).more hB.size)
          have HP3 := Lib.hid ((HP1.out.below hB).more hB.size)
          have HB3 := Lib.hid (HB2.out.trans (hB.mono HB2.out.size))
          have HML : Hid (w2.heap.size < X2.heap.size) := Lib.hid HM.out.lt
          clear hB e1
          go_wp2_with fail
          go_loopw [73, 13] (fun i ah wr => ∃ k : Nat, k ≤ n ∧ i = .int .i64 (k : Int) ∧ ah = .int .u32 ((ahA S (lefts bestW (l.take k) S) : Nat) : Int) ∧ Below X2.heap.size X2 wr) (fun i _ _ => n - (intOf i).toNat)
          case atStart => exact ⟨0, by omega, rfl, by rw [show lefts bestW (l.take 0) S = S from rfl, HW.out.start]; rfl, Below.refl _ _⟩
          case round =>
            obtain ⟨k, hk, rfl, rfl, hB⟩ := hrel
            by_cases hlt : k < n
            · obtain ⟨x, hx⟩ := elem_at (l := l) (k := k) (by rw [HL.out]; exact hlt)
              obtain ⟨ad, rfl, hb1, d0, d1, d2, d3⟩ := wish_at (HR3.out.below hB) hx
              obtain ⟨e0, e1, e2, e3, e4, e5, e6⟩ := HW.out.turn k x hx
              have e7 := HW.out.small k
              have HAL := Lib.hid (fun u => HAl.out x e2 u)
              rw [show allowsR (x.h, x.s) (S : Int) = alW x S from rfl] at HAL
              have HHc := Lib.hid (fun (y : Int) u => HHasN.out (alW x S) e4 y u)
              have HHa := Lib.hid (fun (y : Int) u => HHasN.out (ahA S (lefts bestW (l.take k) S)) e7 y u)
              have HWW := Lib.hid (fun u => HWi.out (alW x S) (ahA S (lefts bestW (l.take k) S)) e4 e7 u)
              obtain ⟨v, a, h, ss⟩ := x
              dsimp only at *
              have M1 := (HM.out.below hB HML.out).alloc (.cells #[.int .i64 v, .int .i64 a, .int .u32 h, .int .u32 ss] 43)
              have hlk := M1.look v (wf_small e0 e1)
              rw [e3] at hlk
              have K15 := Blk.new wr 43 #[.int .i64 v, .int .i64 a, .int .u32 h, .int .u32 ss]
              have B1 := Lib.hid (hB.alloc hB.size (.cells #[.int .i64 v, .int .i64 a, .int .u32 h, .int .u32 ss] 43))
              have HK15 := Lib.hid K15
              generalize alW ⟨v, a, h, ss⟩ S = al at *
              generalize hLk : lefts bestW (l.take k) S = Lk at *
              generalize bestW ⟨v, a, h, ss⟩ Lk = R at *
              obtain ⟨cc, pp⟩ := R
              dsimp only at *
              have HE5 := Lib.hid e5
              have HE6 := Lib.hid e6
              have z0 := K15.cell 0
              have z2 := K15.cell 2
              have z3 := K15.cell 3
              clear hx hb1 hB e0 e1 e2 e3 e5 e6 M1 K15
              cases pp with
              | false =>
                obtain ⟨f1, f2⟩ := HE5.out rfl
                rw [f1] at HWW
                have HF2 : Hid (((ahA S (lefts bestW (l.take (k + 1)) S) : Nat) : Int) = (ahA S Lk : Int)) := Lib.hid (by rw [f2])
                clear HE5 HE6 f1 f2
                generalize ahA S Lk = ah at *
                go_wp2_with fail
                refine (HAL.out _).mono ?_
                rintro e w6 ⟨rfl, h6⟩
                have HB6 := Lib.hid (B1.out.trans (h6.mono B1.out.size))
                clear h6 d0 d1 d2 d3 z0 z2 z3 hlk
                go_wp2_with fail
                refine (HWW.out _).mono ?_
                rintro e w7 ⟨rfl, rfl⟩
                go_wp2
                go_roundw
                case rel => exact ⟨k + 1, by omega, by go_num, by rw [HF2.out], HB6.out⟩
                case measure => simp [intOf] <;> omega
              | true =>
                obtain ⟨c', hc', f2, f3, f4, f5, f6⟩ := HE6.out rfl
                subst hc'
                clear HE5 HE6
                have HC1 := Lib.hid (fun u => HHc.out (c' : Int) u)
                have HC2 := Lib.hid (fun u => HHa.out (c' : Int) u)
                have HC3 := Lib.hid (fun u => HHc.out a u)
                have HC4 := Lib.hid (fun u => HHa.out a u)
                rw [f3] at HC1
                rw [f4] at HC2
                have hsz := or_shift (ah := ahA S Lk) e7 f2
                rw [← f6] at hsz
                obtain ⟨g1, g2⟩ := hsz
                have i5 : (0 : Int) ≤ (c' : Int) := by omega
                have i6 : (c' : Int) ≤ 32 := by omega
                generalize hah2 : ahA S (lefts bestW (l.take (k + 1)) S) = ah2 at *
                have HAH := Lib.hid hah2
                clear hah2
                generalize ahA S Lk = ah at *
                have HF5 := Lib.hid f5
                clear f3 f4 f5 f6
                cases hb1 : hasB (al : Int) a with
                | false =>
                  rw [hb1] at HC3
                  clear hb1 HF5
                  go_wp2_with fail
                  refine (HAL.out _).mono ?_
                  rintro e w6 ⟨rfl, h6⟩
                  have HB6 := Lib.hid (B1.out.trans (h6.mono B1.out.size))
                  have HK6 := Lib.hid (HK15.out.below h6 HK15.out.lt)
                  clear h6 d0 d1 d2 d3 z0 z2 z3 hlk
                  have z1 := HK6.out.cell 1
                  go_wp2_with fail
                  refine (HC1.out _).mono ?_
                  rintro e w7 ⟨rfl, rfl⟩
                  go_wp2_with fail
                  refine (HC2.out _).mono ?_
                  rintro e w7 ⟨rfl, rfl⟩
                  go_wp2_with fail
                  refine (HC3.out _).mono ?_
                  rintro e w7 ⟨rfl, rfl⟩
                  go_wp2_with fail
                  go_roundw
                  case rel => exact ⟨k + 1, by omega, by go_num, by rw [HAH.out], HB6.out⟩
                  case measure => simp [intOf] <;> omega
                | true =>
                  rw [hb1] at HC3
                  cases hb2 : hasB (ah : Int) a with
                  | true =>
                    rw [hb2] at HC4
                    clear hb1 hb2 HF5
                    go_wp2_with fail
                    refine (HAL.out _).mono ?_
                    rintro e w6 ⟨rfl, h6⟩
                    have HB6 := Lib.hid (B1.out.trans (h6.mono B1.out.size))
                    have HK6 := Lib.hid (HK15.out.below h6 HK15.out.lt)
                    clear h6 d0 d1 d2 d3 z0 z2 z3 hlk
                    have z1 := HK6.out.cell 1
                    go_wp2_with fail
                    refine (HC1.out _).mono ?_
                    rintro e w7 ⟨rfl, rfl⟩
                    go_wp2_with fail
                    refine (HC2.out _).mono ?_
                    rintro e w7 ⟨rfl, rfl⟩
                    go_wp2_with fail
                    refine (HC3.out _).mono ?_
                    rintro e w7 ⟨rfl, rfl⟩
                    go_wp2_with fail
                    refine (HC4.out _).mono ?_
                    rintro e w7 ⟨rfl, rfl⟩
                    go_wp2_with fail
                    go_roundw
                    case rel => exact ⟨k + 1, by omega, by go_num, by rw [HAH.out], HB6.out⟩
                    case measure => simp [intOf] <;> omega
                  | false =>
                    rw [hb2] at HC4
                    have hca := HF5.out hb1 hb2
                    subst hca
                    clear hb1 hb2 HF5
                    go_wp2_with fail
                    refine (HAL.out _).mono ?_
                    rintro e w6 ⟨rfl, h6⟩
                    have HB6 := Lib.hid (B1.out.trans (h6.mono B1.out.size))
                    have HK6 := Lib.hid (HK15.out.below h6 HK15.out.lt)
                    clear h6 d0 d1 d2 d3 z0 z2 z3 hlk
                    have z1 := HK6.out.cell 1
                    go_wp2_with fail
                    refine (HC1.out _).mono ?_
                    rintro e w7 ⟨rfl, rfl⟩
                    go_wp2_with fail
                    refine (HC2.out _).mono ?_
                    rintro e w7 ⟨rfl, rfl⟩
                    go_wp2_with fail
                    refine (HC3.out _).mono ?_
                    rintro e w7 ⟨rfl, rfl⟩
                    go_wp2_with fail
                    refine (HC4.out _).mono ?_
                    rintro e w7 ⟨rfl, rfl⟩
                    go_wp2_with fail
                    go_roundw
                    case rel => exact ⟨k + 1, by omega, by go_num, by rw [HAH.out], HB6.out⟩
                    case measure => simp [intOf] <;> omega
            · obtain rfl : n = k := by omega
              have e1 : l.take n = l := by rw [← HL.out]; exact List.take_length
              have HFa := Lib.hid (HFair.out A1 N c1 ps wr ((HR3.out.below hB).more hB.size) ((HP3.out.below hB).more hB.size) (by omega))
              rw [HFV.out, HW.out.fair] at HFa
              have hor : bits .or .u32 (ahA S L : Int) (L : Int) = (S : Int) := by
                have h1 : ahA S L < 256 := by have := HW.out.small n; rw [e1, HLE.out] at this; exact this
                have h2 := HLS.out
                rw [u32_or _ _ (by omega) (by omega) (by omega) (by omega), Int.toNat_natCast, Int.toNat_natCast, HW.out.done]
              rw [e1, HLE.out]
              generalize ahA S L = ah at *
              have HB9 := Lib.hid (HB3.out.trans (hB.mono HB3.out.size))
              clear hB e1
              go_wp2_with fail
              refine HFa.out.mono ?_
              rintro e w9 ⟨rfl, h9⟩
              have HB10 := Lib.hid (HB9.out.trans (h9.mono HB9.out.size))
              clear h9
              go_wp2
              go_ret
              exact ⟨rfl, HB10.out⟩
    · have q2 : (whyE l s != 0) = true := by simpa using hE
      unfold placesL placesS at HPa
      rw [if_neg hE, if_neg hE] at HPa
      generalize whyE l s = E at *
      clear hR hU hs hD hn hE
      go_enter Tryd.func5, Tryd.ntmps5
      go_wp2_with fail
      refine (HK.out _ HD.out).mono ?_
      rintro e w1 ⟨rfl, h1⟩
      have HD1 := Lib.hid (HD.out.below h1 HD.out.lt)
      have HR1 := Lib.hid ((HR.out.below h1).more h1.size)
      have HB1 := Lib.hid h1
      clear h1
      go_wp2_with fail
      refine (HPa.out w1 HR1.out HD1.out).mono ?_
      rintro e w2 ⟨v1, rfl, O1, h2⟩
      obtain ⟨A1, c1, rfl, hc1, P1⟩ := own_reads O1
      have HB2 := Lib.hid (HB1.out.trans (h2.mono HB1.out.size))
      clear h2 O1 P1
      go_wp2
      go_ret
      exact ⟨rfl, HB2.out⟩

end Go.Proofs.YtldleijocjohgaaDoor
