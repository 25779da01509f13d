/-
  The landed gang: Part. No statement is proved here.
-/
import Derived.Test.YtglphgfaknofcaaGy
namespace Go.Proofs.Ytglphgfaknofcaa
open Go.RowKit Go.Maps

/-- what Part and Leave come to -/
def PartSaid (E : Int) (R : List Gm) (w : World) (e : Ending) (w' : World) : Prop :=
  ∃ A n c G, e = .returned (.tuple #[.agg #[.slice A n c], .int .i64 E]) ∧ NO w' w.heap.size A n c G ∧ gsM G = R ∧ Below w.heap.size w w'
/-- of one who asks for a gang: its place -/
def plV (p : Gm → Bool) (l : List Gm) : Nat := (amV p l).1.toNat

set_option maxRecDepth 100000 in
set_option maxHeartbeats 8000000 in
theorem part_any (A : Option Addr) (n c : Nat) (gs : List Gn) (v : Int) (w : World) (hG : NW w A n gs) (hc : n ≤ c) :
    Calls Try.prog 31 #[.agg #[.slice A n c], .int .i64 v] w (PartSaid (amV (isV v) (gsM gs)).2 (if (amV (isV v) (gsM gs)).2 = 0 then (gsM gs).eraseIdx (plV (isV v) (gsM gs)) else []) w) := by
  obtain ⟨K0, K1, GB⟩ := blks2 w 24 24 #[.slice A n c] #[.slice none 0 0]
  have HG := Lib.hid hG
  have n9 : n ≤ 100 := hG.small
  have HLn := Lib.hid hG.len
  have HKs : Hid (∀ u, Below ((w.alloc (.cells #[.slice A n c] 24)).alloc (.cells #[.slice none 0 0] 24)).heap.size ((w.alloc (.cells #[.slice A n c] 24)).alloc (.cells #[.slice none 0 0] 24)) u → Blk u w.heap.size 24 #[.slice A n c] ∧ Blk u (w.heap.size + 1) 24 #[.slice none 0 0]) := Lib.hid (fun u hu => ⟨K0.below hu K0.lt, K1.below hu K1.lt⟩)
  have HGB := Lib.hid GB
  clear hG K0 K1 GB
  unfold plV
  obtain ⟨x, hx⟩ : ∃ x, amV (isV v) (gsM gs) = x := ⟨_, rfl⟩
  rw [hx]
  go_enter Try.func31, Try.ntmps31
  go_upto_region 1 with fail
  generalize hw0 : (w.alloc (.cells #[.slice A n c] 24)).alloc (.cells #[.slice none 0 0] 24) = w0 at *
  have D0 := (Below.refl w0.heap.size w0).drew
  have k0 := (HKs.out _ D0).1.cell 0
  have DA := D0.alloc D0.size (.cells #[.int .i64 0] 3)
  have kA := (HKs.out _ DA).1.cell 0
  have BA : Blk (w0.drew.alloc (.cells #[.int .i64 0] 3)) w0.heap.size 3 #[.int .i64 0] := Blk.new w0.drew 3 #[.int .i64 0]
  have HHf := Lib.hid (fun u => numberedf_any v u)
  have HAm := Lib.hid (fun (u : World) (hu : Below w0.heap.size w0 u) (vb : Nat) (h : Blk u vb 3 #[.int .i64 v]) => numamong_any A n c gs u (HG.out.below (HGB.out.trans (hu.mono HGB.out.size))) hc vb v h)
  have HAE := Lib.hid (am_fnd (isV v) (gsM gs))
  have e0 : (fun g : Gm => g.1 == v) = isV v := rfl
  rw [e0] at HAm
  rw [hx] at HAm HAE
  clear e0 hx
  go_region_held3 (fun u => u.cell? ⟨w.heap.size, 0, none⟩ = some (.slice A n c))
    (first | exact k3 | exact k2 | exact k4 | exact k5 | exact kA | exact k0)
    (first
      | (go_at_call 44; go_must (first
          | (refine (HAm.out _ D2 vb hv).mono ?_; rintro e w5 ⟨rfl, h9⟩; have D3 := D2.trans (h9.mono D2.size); have k3 := (HKs.out _ D3).1.cell 0; have D4 := D3.alloc D3.size (.cells #[.int .i64 0] 3); have k4 := (HKs.out _ D4).1.cell 0; have D5 := D3.alloc D3.size (.cells #[.int .i64 x.1] 3); have k5 := (HKs.out _ D5).1.cell 0; have BX := Blk.new w5 3 #[.int .i64 x.1]; have HD3 := Lib.hid D3.size; have hD5 := D5; obtain ⟨w6, hw6⟩ : ∃ w6, w5.alloc (.cells #[.int .i64 x.1] 3) = w6 := ⟨_, rfl⟩; obtain ⟨bx, hbx⟩ : ∃ bx, w5.heap.size = bx := ⟨_, rfl⟩; rw [hw6] at hD5 BX; rw [hbx] at BX HD3; have hq6 := Lib.hid hw6; have hqx := Lib.hid hbx; clear h9 hw6 hbx)
          | (refine (HAm.out _ DA4 vb (hv.alloc _)).mono ?_; rintro e w5 ⟨rfl, h9⟩; have D3 := DA4.trans (h9.mono DA4.size); have k3 := (HKs.out _ D3).1.cell 0; have B5 := BA4.below h9 BA4.lt; have y0 := B5.cell 0; have y1 := B5.frozen 0; have HP := put1 (x := .int .i64 x.1) B5 D3 D2.size; have k5 := (HKs.out _ HP.2).1.cell 0; have BX := HP.1; have HD3 := Lib.hid D2.size; have hD5 := HP.2; obtain ⟨w6, hw6⟩ : ∃ w6, w5.setCell ⟨w4.heap.size, 0, none⟩ (.int .i64 x.1) = w6 := ⟨_, rfl⟩; obtain ⟨bx, hbx⟩ : ∃ bx, w4.heap.size = bx := ⟨_, rfl⟩; rw [hw6] at hD5 BX; rw [hbx] at BX HD3; have hq6 := Lib.hid hw6; have hqx := Lib.hid hbx; clear h9 hw6 hbx)
          | (refine (HAm.out _ D2c vb hv).mono ?_; rintro e w5 ⟨rfl, h9⟩; have D3 := D2c.trans (h9.mono D2c.size); have k3 := (HKs.out _ D3).1.cell 0; have B5 := BAc.below h9 BAc.lt; have y0 := B5.cell 0; have y1 := B5.frozen 0; have HP := put1 (x := .int .i64 x.1) B5 D3 D0.size; have k5 := (HKs.out _ HP.2).1.cell 0; have BX := HP.1; have HD3 := Lib.hid (Nat.le_refl w0.heap.size); have hD5 := HP.2; obtain ⟨w6, hw6⟩ : ∃ w6, w5.setCell ⟨w0.heap.size, 0, none⟩ (.int .i64 x.1) = w6 := ⟨_, rfl⟩; obtain ⟨bx, hbx⟩ : ∃ bx, w0.heap.size = bx := ⟨_, rfl⟩; rw [hw6] at hD5 BX; rw [hbx] at BX; have HD3 : Hid (w0.heap.size ≤ bx) := Lib.hid (Nat.le_of_eq hbx); have hq6 := Lib.hid hw6; have hqx := Lib.hid hbx; clear h9 hw6 hbx)))
      | (go_at_call 46; go_must (first
          | (refine (HHf.out w0.drew).mono ?_; rintro e w4 ⟨vb, rfl, hv, h9⟩; have D2 := D0.trans (h9.mono D0.size); have k2 := (HKs.out _ D2).1.cell 0; have DA4 := D2.alloc D2.size (.cells #[.int .i64 0] 3); have k4 := (HKs.out _ DA4).1.cell 0; have BA4 := Blk.new w4 3 #[.int .i64 0]; clear h9)
          | (refine (HHf.out (w0.drew.alloc (.cells #[.int .i64 0] 3))).mono ?_; rintro e w4 ⟨vb, rfl, hv, h9⟩; have D2c := DA.trans (h9.mono DA.size); have k2 := (HKs.out _ D2c).1.cell 0; have BAc := BA.below h9 BA.lt; clear h9))))
  all_goals (have HD5 := Lib.hid hD5; have HBx := Lib.hid BX; rw [hq6.out, hqx.out]; clear hq6 hqx BX hD5)
  all_goals
    have HBE := Lib.hid (HGB.out.trans (HD5.out.mono HGB.out.size))
    have HZ : Hid (w.heap.size + 1 + 1 = w0.heap.size) := Lib.hid (by rw [← hw0]; simp)
    clear hw0
    have c0 := (HKs.out _ HD5.out).1.cell 0
    have J1 := (HKs.out _ HD5.out).2
    rcases HAE.out with ⟨e, hx, hne, hf, he⟩ | ⟨k, g, hx, hk, hf, hp, _⟩
    · subst hx
      have q0 : (e == 0) = false := by simpa using hne
      have HNE := Lib.hid hne
      have x2 := J1.cell 0
      have x3 := J1.frozen 0
      have HP := Lib.hid (put1 (x := .slice none 0 0) J1 HBE.out (by omega))
      clear hf he hne HAE J1
      go_wp2_with fail
      exact bodyPost_ret (v := .tuple #[.agg #[.slice none 0 0], .int .i64 e]) (results_cell_row_tmp Try.results31 _ _ _ _ _ _ rfl HP.out.1 Try.underlying24 rfl (by kernel_rfl)) rfl ⟨none, 0, 0, [], rfl, no_none _ _, by first | rfl | (rw [if_neg HNE.out]; rfl), HP.out.2⟩
    · subst hx
      have HK := Lib.hid hk
      have HLT : Hid (k < n) := Lib.hid (by have := (List.getElem?_eq_some_iff.1 hk).1; rw [gsM_len, HLn.out] at this; exact this)
      have HJ1 := Lib.hid J1
      have HCh := Lib.hid (chpart_any A n c gs w6 (HG.out.below HBE.out) bx ((gsM gs).eraseIdx k) (fun u A' c' G hN hb hs hE => by
        have hb : Below w6.heap.size w6 u := ⟨hb.os, hb.tape, hb.output, hb.size, hb.block⟩
        have := partdo_any (w6.heap.size + 1 + 1) n c' A' G bx k u hN hs (HBx.out.below hb HBx.out.lt) HLT.out n9
        rwa [hE] at this))
      clear hf hp hk HAE J1
      go_wp2_with fail
      refine HCh.out.mono ?_
      rintro e w7 ⟨A5, n5, c5, G5, rfl, N5, E5, h5⟩
      have HL1 : w.heap.size + 1 < w6.heap.size := HJ1.out.lt
      have J5 := HJ1.out.below h5 HL1
      have hbx := HBE.out.trans (h5.mono HBE.out.size)
      have x2 := J5.cell 0
      have x3 := J5.frozen 0
      have HP := Lib.hid (put1 (x := .slice A5 n5 c5) J5 hbx (by omega))
      have HNF := Lib.hid (((N5.set (g := w.heap.size + 1) HL1 0 (.slice A5 n5 c5)).down (by have := HBE.out.size; omega)) : NO (w7.setCell ⟨w.heap.size + 1, 0, none⟩ (.slice A5 n5 c5)) w.heap.size A5 n5 c5 G5)
      clear N5 h5 hbx J5 c0
      have HE5 := Lib.hid E5
      clear E5
      go_wp2_with fail
      exact bodyPost_ret (v := .tuple #[.agg #[.slice A5 n5 c5], .int .i64 0]) (results_cell_row_tmp Try.results31 _ _ _ _ _ _ rfl HP.out.1 Try.underlying24 rfl (by kernel_rfl)) rfl ⟨A5, n5, c5, G5, rfl, HNF.out, by exact HE5.out, HP.out.2⟩

end Go.Proofs.Ytglphgfaknofcaa
