/-
  GangMatches' walk. No statement is proved here.
-/
import Derived.Test.YtglphgfaknofcaaGr
import Derived.Test.YtglphgfaknofcaaGl
namespace Go.Proofs.Ytglphgfaknofcaa
open Go.RowKit Go.Maps

theorem gw_own {w : World} {B n c : Nat} {A : Option Addr} {G : List Gg} (h : GO w B A n c G) (hn : n ≤ 17) (hm : ∀ g ∈ G, g.2.1 ≤ 17) : GW w A n G :=
  ⟨Reads.of_own h.row, by omega, fun g hg => ⟨⟨Reads.of_own (h.mem g hg), by have := hm g hg; omega⟩, by have := hm g hg; omega⟩⟩
/-- rows of rows that came in -/
abbrev Gx := Option Addr × Nat × Nat × List Gg
def gxv (x : Gx) : List Value := [.slice x.1 x.2.1 x.2.2.1]
theorem length_gxv (x : Gx) : (gxv x).length = 1 := rfl
structure XA (w : World) (A : Option Addr) (n : Nat) (l : List Gx) : Prop where
  row : Reads w w.heap.size 1 A n (flat gxv l)
  big : n ≤ maxLen
  mem : ∀ x ∈ l, GA w x.1 x.2.1 x.2.2.2
theorem XA.below {w w' : World} {A : Option Addr} {n : Nat} {l : List Gx} (h : XA w A n l) (hb : Below w.heap.size w w') : XA w' A n l :=
  ⟨(h.row.below hb).more hb.size, h.big, fun x hx => (h.mem x hx).below hb⟩
theorem XA.len {w : World} {A : Option Addr} {n : Nat} {l : List Gx} (h : XA w A n l) : l.length = n := by
  have h1 := h.row.1
  rw [length_flat gxv length_gxv] at h1
  omega
theorem XA.at_ {w : World} {A : Option Addr} {n : Nat} {l : List Gx} (h : XA w A n l) {k : Nat} {x : Gx} (hx : l[k]? = some x) :
    ∃ ad, A = some ad ∧ ad.block < w.heap.size ∧ w.cell? (ad.add k) = some (.slice x.1 x.2.1 x.2.2.1) := by
  obtain ⟨ad, e, hb, hc⟩ := h.row.elem gxv length_gxv hx (by omega)
  have := hc 0 _ rfl
  rw [Nat.mul_one, Nat.add_zero] at this
  exact ⟨ad, e, hb, this⟩
theorem below_of_draws {B : Nat} {w : World} {q : Nat} : Below B w (w.drewN q) := below_drewN (Below.refl _ _) q

set_option maxRecDepth 100000 in
set_option maxHeartbeats 16000000 in
theorem matches_walk (A : Option Addr) (n c : Nat) (l : List Gx) (w : World) (hA : XA w A n l) : Calls Try.prog 5 #[.slice A n c] w (Said (.bool true) w) := by
  have HA := Lib.hid hA
  have HL := Lib.hid hA.len
  have HW := Lib.hid (wakes_any w)
  have hn2 : n ≤ 9223372036854775807 := by have := hA.big; unfold maxLen at this; omega
  clear hA
  go_enter Try.func5, Try.ntmps5
  go_wp2_with fail
  refine HW.out.mono ?_
  rintro e w0 ⟨rfl, h0⟩
  have HB0 := Lib.hid h0
  clear h0
  go_wp2_with fail
  go_loopw [13] (fun iv wr => ∃ k : Nat, k ≤ n ∧ k ≤ 6 ∧ iv = .int .i64 (k : Int) ∧ Below w0.heap.size w0 wr) (fun iv _ => n - (intOf iv).toNat)
  case atStart => exact ⟨0, by omega, by omega, rfl, Below.refl _ _⟩
  case round =>
    obtain ⟨k, hk, hk6, rfl, hB⟩ := hrel
    have HB := Lib.hid (HB0.out.trans (hB.mono HB0.out.size))
    have HBr := Lib.hid hB
    clear hB
    by_cases hlt : k < n
    · obtain ⟨⟨A2, m, c2, gs⟩, hx⟩ := elem_at (l := l) (k := k) (by rw [HL.out]; exact hlt)
      obtain ⟨ad, rfl, _, d0⟩ := (HA.out.below HB.out).at_ hx
      have HG := Lib.hid (((HA.out.below HB.out).mem _ (List.mem_of_getElem? hx)))
      have HFw := Lib.hid (fun (u : World) (hu : Below wr.heap.size wr u) => few_any A2 m c2 gs u (HG.out.below hu))
      have i1 : (0 : Int) ≤ (k : Int) := by omega
      have i2 : (k : Int) < (n : Int) := by omega
      clear hx
      by_cases h6 : k = 6
      · have q : ((k : Int) == 6) = true := by simp; omega
        clear h6
        go_wp2_with fail
        go_ret
        exact ⟨rfl, HB.out⟩
      · have q : ((k : Int) == 6) = false := by simp; omega
        obtain ⟨cs, hcs⟩ : ∃ cs, fewL gs = cs := ⟨_, rfl⟩
        have HCS := Lib.hid hcs
        have HK7 : Hid (k + 1 ≤ 6) := Lib.hid (by omega)
        clear h6 hcs
        go_wp2_with fail
        refine (HFw.out wr (Below.refl _ _)).mono ?_
        rintro e w1 ⟨A3, n3, c3, G3, rfl, S3, E3, M3, h3, b1, _⟩
        have W3 := gw_own S3 (by omega) (fun g hg => by have := M3 g hg; omega)
        have HM := Lib.hid (match_any A3 n3 c3 G3 w1 W3 (own_nil S3.row))
        rw [E3, HCS.out] at HM
        have HB1 := Lib.hid b1
        clear S3 E3 M3 b1 W3 d0
        go_wp2_with fail
        refine HM.out.mono ?_
        rintro e w2 ⟨A4, n4, c4, rfl, O4, b2⟩
        have HO4 := Lib.hid O4
        have HB2 := Lib.hid (HB1.out.trans (b2.mono HB1.out.size))
        have HL4 : Hid ((matchL cs).length = n4) := Lib.hid (by have := O4.1; rw [length_vs] at this; omega)
        clear O4 b2
        go_wp2_with fail
        refine (HFw.out w2 HB2.out).mono ?_
        rintro e w3 ⟨A5, n5, c5, G5, rfl, S5, E5, M5, b3⟩
        have W5 := gw_own S5 (by omega) (fun g hg => by have := M5 g hg; omega)
        have HCh := Lib.hid (rchoices_any A5 n5 c5 G5 w3 W5 (fun g hg => own_nc (S5.mem g hg)))
        rw [E5, HCS.out] at HCh
        have HB3 := Lib.hid (HB2.out.trans (b3.2.1.mono HB2.out.size))
        have HO5 := Lib.hid (own_below HO4.out b3.2.1)
        clear S5 E5 M5 b3 W5
        go_wp2_with fail
        refine HCh.out.mono ?_
        rintro e w4 ⟨rfl, b4⟩
        have HB4 := Lib.hid (HB3.out.trans (b4.mono HB3.out.size))
        have HO6 := Lib.hid (own_below HO5.out b4)
        clear b4
        cases hch : choicesB cs with
        | false =>
          have HML : Hid (matchL cs = []) := Lib.hid (by unfold matchL; rw [hch]; rfl)
          have HO7 := HO6.out
          rw [HML.out] at HO7
          obtain rfl : n4 = 0 := by have := HL4.out; rw [HML.out] at this; exact this.symm
          have HS := Lib.hid (same_same A4 none 0 c4 0 [] w4 (Reads.of_own HO7) Reads.none_ (by omega))
          rw [Bool.false_and]
          clear hch HO7
          go_wp2_with fail
          refine HS.out.mono ?_
          rintro e w5 ⟨rfl, q5, rfl⟩
          go_wp2
          go_roundw
          case rel => exact ⟨k + 1, by omega, HK7.out, by go_num, HBr.out.trans ((HB4.out.trans below_of_draws).mono HBr.out.size)⟩
          case measure => simp [intOf] <;> omega
        | true =>
          rw [Bool.true_and]
          go_wp2_with fail
          refine (HFw.out w4 HB4.out).mono ?_
          rintro e w5 ⟨A7, n7, c7, G7, rfl, S7, E7, M7, b7⟩
          have W7 := gw_own S7 (by omega) (fun g hg => by have := M7 g hg; omega)
          have HMr := Lib.hid (rmatch_any A7 n7 c7 G7 n7 w5 [] none 0 0 W7 ⟨Reads.none_, by omega⟩ (by omega))
          rw [List.drop_zero, E7, HCS.out] at HMr
          have HB5 := Lib.hid (HB4.out.trans (b7.2.1.mono HB4.out.size))
          have HO7 := Lib.hid (own_below HO6.out b7.2.1)
          clear S7 E7 M7 b7 W7
          cases hm : matchR cs [] with
          | none =>
            have hfi : fitsB cs = false := by unfold fitsB; rw [hm]; rfl
            have HML : Hid (matchL cs = []) := Lib.hid (by unfold matchL; rw [if_pos hch, hm]; rfl)
            rw [hm] at HMr
            rw [hfi]
            have HO8 := HO7.out
            rw [HML.out] at HO8
            obtain rfl : n4 = 0 := by have := HL4.out; rw [HML.out] at this; exact this.symm
            clear hch hm hfi
            have HO8' := Lib.hid HO8
            clear HO8
            go_wp2_with fail
            refine HMr.out.mono ?_
            rintro e w6 ⟨b8, h8⟩
            obtain rfl := h8
            have HB6 := Lib.hid (HB5.out.trans (b8.mono HB5.out.size))
            have HS := Lib.hid (same_same A4 none 0 c4 0 [] w6 (Reads.of_own (own_below HO8'.out b8)) Reads.none_ (by omega))
            clear b8
            go_wp2_with fail
            refine HS.out.mono ?_
            rintro e w7 ⟨rfl, q5, rfl⟩
            go_wp2
            go_roundw
            case rel => exact ⟨k + 1, by omega, HK7.out, by go_num, HBr.out.trans ((HB6.out.trans below_of_draws).mono HBr.out.size)⟩
            case measure => simp [intOf] <;> omega
          | some M =>
            have hfi : fitsB cs = true := by unfold fitsB; rw [hm]; rfl
            have HML : Hid (matchL cs = M) := Lib.hid (by unfold matchL; rw [if_pos hch, hm]; rfl)
            rw [hm] at HMr
            rw [hfi]
            have HO8 := HO7.out
            rw [HML.out] at HO8
            have HLM : Hid (M.length = n4) := Lib.hid (by have := HL4.out; rwa [HML.out] at this)
            clear hch hm hfi
            have HO8' := Lib.hid HO8
            clear HO8
            go_wp2_with fail
            refine HMr.out.mono ?_
            rintro e w6 ⟨b8, h8⟩
            obtain ⟨A8, n8, c8, rfl, I8⟩ := h8
            rw [List.nil_append] at I8
            obtain rfl : n4 = n8 := by rw [← HLM.out, I8.len]
            have HB6 := Lib.hid (HB5.out.trans (b8.mono HB5.out.size))
            have HS := Lib.hid (same_same A4 A8 n4 c4 c8 M w6 (Reads.of_own (own_below HO8'.out b8)) I8.row (by have := I8.small; omega))
            clear b8 I8
            go_wp2_with fail
            refine HS.out.mono ?_
            rintro e w7 ⟨rfl, q5, rfl⟩
            go_wp2
            go_roundw
            case rel => exact ⟨k + 1, by omega, HK7.out, by go_num, HBr.out.trans ((HB6.out.trans below_of_draws).mono HBr.out.size)⟩
            case measure => simp [intOf] <;> omega
    · obtain rfl : k = n := by omega
      go_wp2
      go_ret
      exact ⟨rfl, HB.out⟩

end Go.Proofs.Ytglphgfaknofcaa
