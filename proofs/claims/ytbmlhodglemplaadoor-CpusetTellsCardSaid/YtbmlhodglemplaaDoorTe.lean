/-
  CpusetTells' walk: which sets may be, and what they tell.
-/
import Derived.Test.YtbmlhodglemplaaDoorOg
import Derived.Deep.RegionHeld3
import Derived.Deep.DeepCutAuto
import Derived.Deep.CutBlock
import Derived.IntWalk
namespace Go.Proofs.YtbmlhodglemplaaDoor
open Go.RowKit

theorem Draws.ans {v : Value} {w w' : World} {e : Ending} (h : Draws v w e w') : Ans v w e w' := ⟨h.1, h.below _⟩
theorem nextV_pair (l : List Int) (a : Int) : ∃ x b, nextV l a = (x, b) := ⟨_, _, rfl⟩

set_option maxHeartbeats 16000000 in
set_option maxRecDepth 100000 in
theorem tells_walk (A0 : Option Addr) (n c : Nat) (ss : List Int) (B0 : Option Addr) (n' c' : Nat) (ns : List Int) (w : World) (hr : Reads w w.heap.size 1 A0 n (us ss)) (hu : ∀ (k : Nat) (x : Int), ss[k]? = some x → U32 x) (hn : n ≤ maxLen)
    (hr' : Reads w w.heap.size 1 B0 n' (vs ns)) (hn' : n' ≤ maxLen) (hG : Gd w)
    (hk : Calls Tryd.prog 10 #[] w fun e w' => e = .returned (.bool true) ∧ Below w.heap.size w w') :
    Calls Tryd.prog 4 #[.slice A0 n c, .slice B0 n' c'] w fun e w' => e = .returned (.bool true) ∧ Below w.heap.size w w' := by
  unfold maxLen at hn hn'
  have HK := Lib.hid hk
  have HR := Lib.hid hr
  have HS := Lib.hid hr'
  have HU := Lib.hid hu
  have HG := Lib.hid hG.1
  clear hk hr hr' hu hG
  go_enter Tryd.func4, Tryd.ntmps4
  go_wp2_with fail
  refine HK.out.mono ?_
  rintro e w1 ⟨rfl, hB1⟩
  clear HK
  go_wp2_with fail
  go_loopw [19] (fun i wr => ∃ k : Nat, k ≤ n ∧ k ≤ 20 ∧ i = .int .i64 k ∧ Below w.heap.size w wr) (fun i _ => n - (intOf i).toNat)
  case atStart => exact ⟨0, by omega, by omega, rfl, hB1⟩
  case round =>
    clear hB1
    obtain ⟨k, hk, hk20, rfl, hB⟩ := hrel
    by_cases hlt : k < n
    · obtain ⟨ad, v, rfl, hbl, hx, hc⟩ := HR.out.at_ hlt
      obtain ⟨s, hs, rfl⟩ := us_at hx
      obtain ⟨s0, s1⟩ := HU.out k s hs
      obtain ⟨ad0, v0, e0, _, hx0, hc0⟩ := HR.out.at_ (k := 0) (by omega)
      obtain rfl := Option.some.inj e0
      obtain ⟨t, ht, rfl⟩ := us_at hx0
      obtain ⟨t0, t1⟩ := HU.out 0 t ht
      have hc0 : w.cell? ad = some (.int .u32 t) := hc0
      have hcr := (hB.cell (p := ad.add k) (by rw [block_of_add]; exact hbl)).trans hc
      have j0 : (0 : Int) ≤ (k : Int) := by omega
      have j1 : (k : Int) < (n : Int) := by omega
      have jn : (0 : Int) < (n : Int) := by omega
      have n0 : 0 < n := by omega
      clear hx hs hx0 ht hc e0
      by_cases h20 : k = 20
      · have h20' : ((k : Int) == 20) = true := by simp; omega
        clear h20 hk20
        go_wp2
        go_ret
        exact ⟨rfl, hB⟩
      · have h20' : ((k : Int) == 20) = false := by simp; omega
        have H20 : Hid (k + 1 ≤ 20) := Lib.hid (by omega)
        have HLT := Lib.hid hlt
        have HQ := Lib.hid (fun u => check_any s u s0 s1)
        have HI := Lib.hid (fun u => rright_any s u)
        have HL1 := Lib.hid (fun u (h : Below w.heap.size w u) => list_any s u s0 s1 (HG.out.below h HG.out.lt))
        have HL2 := Lib.hid (fun u => rlist_any s u s0)
        have HCo := Lib.hid (fun u => (count_any s u s0 s1).mono fun _ _ h => h.ans)
        have HW1 := Lib.hid (fun u => within_any s t u s0 s1 t0 t1)
        have HW2 := Lib.hid (fun u => rwithin_any s t u s0 t0)
        have HW3 := Lib.hid (fun u => within_any t s u t0 t1 s0 s1)
        have HW4 := Lib.hid (fun u => rwithin_any t s u t0 s0)
        have HN1 := Lib.hid (fun a u (h : Below w.heap.size w u) => next_any s a u s0 s1 (HG.out.below h HG.out.lt))
        have HN2 := Lib.hid (fun a u => rnext_any s a u s0)
        have HH1 := Lib.hid (fun a u => has_any s a u s0 s1)
        have HH2 := Lib.hid (fun a u => rhas_any s a u s0)
        have HM := Lib.hid (fun (A A' : Option Addr) (c c' : Nat) (u : World) (h : Reads u u.heap.size 1 A (mem s).length (vs (mem s))) (h' : Reads u u.heap.size 1 A' (mem s).length (vs (mem s))) => (same_same A A' (mem s).length c c' (mem s) u h h' (Nat.le_trans (length_memb s 8) (by omega))).mono fun _ _ h => h.ans)
        generalize withinV (mem s) t = b1 at *
        generalize withinV (mem t) s = b2 at *
        generalize mem s = L at *
        have hl : ((L.length : Nat) : Int) = ((L.length : Nat) : Int) := rfl
        obtain ⟨e, b, hE, hV, hcase⟩ : ∃ (e : Int) (b : Bool), chkV s = e ∧ decide (s < 256) = b ∧ ((e = 0 ∧ b = true) ∨ (e = 140 ∧ b = false)) := by
          by_cases h : s < 256
          · exact ⟨0, true, if_pos h, by simp [h], .inl ⟨rfl, rfl⟩⟩
          · exact ⟨140, false, if_neg h, by simp [h], .inr ⟨rfl, rfl⟩⟩
        rw [hE] at HQ
        rw [hV] at HI
        have HC0 := Lib.hid (fun u (h : Below w.heap.size w u) => show u.cell? ad = some (.int .u32 t) from (h.cell hbl).trans hc0)
        clear hE hV h20 hk20 s0 s1 t0 t1 hc0 hl
        rcases hcase with ⟨rfl, rfl⟩ | ⟨rfl, rfl⟩
        all_goals
          go_wp2_with fail
          refine (HI.out _).mono ?_
          rintro e w' ⟨rfl, rfl⟩
          go_wp2_with fail
          refine (HQ.out _).mono ?_
          rintro e w' ⟨rfl, rfl⟩
          go_upto_region 11 with fail
          have D1 := hB.drew
          have k1 := HC0.out _ D1
          clear hB hcr
          go_region_held3 (fun w' => w'.cell? ad = some (.int .u32 t))
            (first | exact k9 | exact k7 | exact k5 | exact k4 | exact k3 | exact k2 | exact k1)
            (first
              | (go_at_call 22; (with_reducible refine (HW4.out _).mono ?_); rintro e w19 ⟨rfl, h9⟩; have D9 := D7.trans (h9.mono D7.size); have k9 := HC0.out _ D9; clear h9)
              | (go_at_call 21; (with_reducible refine (HW3.out _).mono ?_); rintro e w18 ⟨rfl, rfl⟩)
              | (go_at_call 22; (with_reducible refine (HW2.out _).mono ?_); rintro e w17 ⟨rfl, h7⟩; have D7 := D5.trans (h7.mono D5.size); have k7 := HC0.out _ D7; clear h7)
              | (go_at_call 21; (with_reducible refine (HW1.out _).mono ?_); rintro e w16 ⟨rfl, rfl⟩)
              | (go_at_call 19; (have D4' := D4); (with_reducible refine (HL2.out _).mono ?_); rintro e w15 ⟨A5, c5, rfl, hO5, h5⟩; have D5 := D4.trans (h5.mono D4.size); have k5 := HC0.out _ D5; clear h5 hO5)
              | (go_at_call 20; (with_reducible refine (HCo.out _).mono ?_); rintro e w14 ⟨rfl, h4⟩; have D4 := D3.trans (h4.mono D3.size); have k4 := HC0.out _ D4; clear h4)
              | (go_at_call 14; (with_reducible refine (HM.out _ _ _ _ _ S1 R2).mono ?_); rintro e w13 ⟨rfl, h3⟩; have D3 := D2.trans (h3.mono D2.size); have k3 := HC0.out _ D3; clear S1 R2 h3)
              | (go_at_call 19; (with_reducible refine (HL2.out _).mono ?_); rintro e w12 ⟨A2, c2, rfl, hO2, h2⟩; have R2 := Reads.of_own hO2; have S1 := (R1.below h2).more h2.size; have D2 := Dx.trans (h2.mono Dx.size); have k2 := HC0.out _ D2; clear h2 hO2 R1)
              | (go_at_call 18; (with_reducible refine (HL1.out _ D1).mono ?_); rintro e w11 ⟨A1, c1, rfl, hO1, h1⟩; have R1 := Reads.of_own hO1; have Dx := D1.trans (h1.mono D1.size); have k1 := HC0.out _ Dx; clear h1 hO1))
          clear HL1 HL2 HCo HW1 HW2 HW3 HW4 HM HC0 HQ HI
          go_wp2_with fail
          go_loopw [84] (fun i wr => ∃ j : Nat, j ≤ n' ∧ j ≤ 12 ∧ i = .int .i64 j ∧ Below w.heap.size w wr) (fun i _ => n' - (intOf i).toNat)
          case atStart => exact ⟨0, by omega, by omega, rfl, D9⟩
          case round =>
            obtain ⟨j, hj, hj12, rfl, hB⟩ := hrel
            by_cases hjt : j < n'
            · obtain ⟨ad', v', rfl, _, hx', hc'⟩ := (HS.out.below hB).at_ hjt
              obtain ⟨m, hm, rfl⟩ := vs_at hx'
              have j2 : (0 : Int) ≤ (j : Int) := by omega
              have j3 : (j : Int) < (n' : Int) := by omega
              clear hx' hm
              by_cases h12 : j = 12
              · have h12' : ((j : Int) == 12) = true := by simp; omega
                clear h12 hj12
                go_wp2
                go_roundw
                case rel => exact ⟨k + 1, HLT.out, H20.out, by go_num, hB⟩
                case measure => have := HLT.out; simp [intOf]; omega
              · have h12' : ((j : Int) == 12) = false := by simp; omega
                have J12 : Hid (j + 1 ≤ 12) := Lib.hid (by omega)
                have JLT := Lib.hid hjt
                have X1 := Lib.hid (fun u h => HN1.out m u h)
                have X2 := Lib.hid (fun u => HN2.out m u)
                have X3 := Lib.hid (fun u => HH1.out m u)
                have X4 := Lib.hid (fun u => HH2.out m u)
                obtain ⟨y, q, hyq⟩ := nextV_pair L m
                rw [hyq] at X1 X2
                generalize hasB s m = p at *
                clear h12 hj12 hyq
                go_wp2_with fail
                refine (X1.out _ hB).mono ?_
                rintro e w2 ⟨rfl, h2⟩
                have b2 := hB.trans (h2.mono hB.size)
                clear h2 hB hc'
                go_wp2_with fail
                refine (X2.out _).mono ?_
                rintro e w3 ⟨rfl, h3⟩
                have b3 := b2.trans (h3.mono b2.size)
                clear h3 b2
                go_wp2_with fail
                refine (X3.out _).mono ?_
                rintro e w' ⟨rfl, rfl⟩
                go_wp2_with fail
                refine (X4.out _).mono ?_
                rintro e w' ⟨rfl, rfl⟩
                go_wp2
                go_roundw
                case rel => exact ⟨j + 1, JLT.out, J12.out, by go_num, b3⟩
                case measure => have := JLT.out; simp [intOf]; omega
            · obtain rfl : n' = j := by omega
              clear hj12
              go_wp2
              go_roundw
              case rel => exact ⟨k + 1, HLT.out, H20.out, by go_num, hB⟩
              case measure => have := HLT.out; simp [intOf]; omega
    · obtain rfl : n = k := by omega
      clear hk20
      go_wp2
      go_ret
      exact ⟨rfl, hB⟩

end Go.Proofs.YtbmlhodglemplaaDoor
