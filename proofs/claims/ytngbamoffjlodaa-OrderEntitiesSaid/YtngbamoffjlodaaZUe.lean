/-
  The law's same, of two rows that hold the same. No statement is proved here.
-/
import Derived.Test.YtngbamoffjlodaaZUc
import Derived.Test.YtngbamoffjlodaaZTf
import Derived.Test.YtngbamoffjlodaaZOe
import Derived.Test.YtngbamoffjlodaaZMm
namespace Go.Proofs.Ytngbamoffjlodaa
open Go.RowKit Go.Maps

theorem gsI_same {gs gs' : List Gg} (h : gsI gs = gsI gs') {k : Nat} {g g' : Gg} (hk : gs[k]? = some g) (hk' : gs'[k]? = some g') : g.2.2.2 = g'.2.2.2 := by
  have h1 : (gsI gs)[k]? = some g.2.2.2 := by unfold gsI; rw [List.getElem?_map, hk]; rfl
  have h2 : (gsI gs')[k]? = some g'.2.2.2 := by unfold gsI; rw [List.getElem?_map, hk']; rfl
  rw [h, h2] at h1
  exact (Option.some.inj h1).symm

set_option maxRecDepth 100000 in
set_option maxHeartbeats 8000000 in
theorem lsame_any (A : Option Addr) (n c : Nat) (qs : List Rn) (A1 : Option Addr) (n1 c1 : Nat) (ws : List Wt) (A2 : Option Addr) (n2 c2 : Nat) (gs : List Gg) (B : Option Addr) (c' : Nat) (B1 : Option Addr) (c1' : Nat) (B2 : Option Addr) (c2' : Nat) (gs' : List Gg) (w : World)
    (hQ : QR w A n c qs) (hQ' : QR w B n c' qs) (hW : WT w A1 n1 c1 ws) (hW' : WT w B1 n1 c1' ws) (hG : GW w A2 n2 gs) (hG' : GW w B2 n2 gs') (hI : gsI gs = gsI gs') :
    Calls Try.prog 14 #[.agg #[.slice A n c, .slice A1 n1 c1, .slice A2 n2 c2], .agg #[.slice B n c', .slice B1 n1 c1', .slice B2 n2 c2']] w (Said (.bool true) w) := by
  obtain ⟨K0, K1, GB⟩ := blks2 w 30 30 #[.slice A n c, .slice A1 n1 c1, .slice A2 n2 c2] #[.slice B n c', .slice B1 n1 c1', .slice B2 n2 c2']
  have HSQ := Lib.hid (fun (u : World) (hu : Below w.heap.size w u) => show Calls Try.prog 45 #[.agg #[.slice A n c], .agg #[.slice B n c']] u (Said (.bool true) u) from by
    have := rsame_any A n c qs B n c' qs u (hQ.below hu) (hQ'.below hu)
    rwa [decide_eq_true rfl] at this)
  have HW := Lib.hid hW
  have HW' := Lib.hid hW'
  have HG := Lib.hid hG
  have HG' := Lib.hid hG'
  have HI := Lib.hid hI
  have HWL := Lib.hid hW.len
  have HGL := Lib.hid hG.len
  have HGL' := Lib.hid hG'.len
  have hn1 := hW.small
  have hn2 := hG.small
  have z0 := K0.cell 0
  have z1 := K0.cell 1
  have z2 := K0.cell 2
  have y0 := K1.cell 0
  have y1 := K1.cell 1
  have y2 := K1.cell 2
  have HK0 := Lib.hid K0
  have HK1 := Lib.hid K1
  have HB := Lib.hid GB
  clear hQ hQ' hW hW' hG hG' hI K0 K1 GB
  go_enter Try.func14, Try.ntmps14
  go_wp2_with fail
  refine (HSQ.out _ HB.out).mono ?_
  rintro e w2 ⟨rfl, h9⟩
  have K0 := HK0.out.below h9 HK0.out.lt
  have K1 := HK1.out.below h9 HK1.out.lt
  have HB2 := Lib.hid (HB.out.trans (h9.mono HB.out.size))
  clear h9 z0 z1 z2 y0 y1 y2 HK0 HK1 HB
  have HK0 := Lib.hid K0
  have HK1 := Lib.hid K1
  have z1 := K0.cell 1
  have z2 := K0.cell 2
  have y1 := K1.cell 1
  have y2 := K1.cell 2
  clear K0 K1
  go_wp2_with fail
  clear z1 z2 y1 y2
  go_loopw [34] (fun iv wr => ∃ k : Nat, k ≤ n1 ∧ iv = .int .i64 (k : Int) ∧ Below w2.heap.size w2 wr) (fun iv _ => n1 - (intOf iv).toNat)
  case atStart => exact ⟨0, by omega, rfl, Below.refl _ _⟩
  case round =>
    obtain ⟨k, hk, rfl, hB⟩ := hrel
    by_cases hlt : k < n1
    · obtain ⟨⟨i, o, f⟩, hx⟩ := elem_at (l := ws) (k := k) (by rw [HWL.out]; exact hlt)
      have hb := HB2.out.trans (hB.mono HB2.out.size)
      obtain ⟨ad, rfl, _, d0, d1, d2⟩ := (HW.out.below hb).at_ hx
      obtain ⟨ad', rfl, _, e0, e1, e2⟩ := (HW'.out.below hb).at_ hx
      have z1 := (HK0.out.below hB HK0.out.lt).cell 1
      have y1 := (HK1.out.below hB HK1.out.lt).cell 1
      have i1 : (0 : Int) ≤ (k : Int) := by omega
      have i2 : (k : Int) < (n1 : Int) := by omega
      have HBW := Lib.hid hB
      clear hx hb hB
      go_wp2_with fail
      go_quiet (fail)
      go_wp2
      go_roundw
      case rel => exact ⟨k + 1, by omega, by go_num, below_drewN HBW.out _⟩
      case measure => simp [intOf] <;> omega
    · obtain rfl : k = n1 := by omega
      have HK0' := Lib.hid (HK0.out.below hB HK0.out.lt)
      have HK1' := Lib.hid (HK1.out.below hB HK1.out.lt)
      have HB3 := Lib.hid (HB2.out.trans (hB.mono HB2.out.size))
      have z2 := HK0'.out.cell 2
      have y2 := HK1'.out.cell 2
      clear hB HK0 HK1 HB2
      go_wp2_with fail
      clear z2 y2
      generalize wr = V at *
      go_loopw [52] (fun iv wr => ∃ k : Nat, k ≤ n2 ∧ iv = .int .i64 (k : Int) ∧ Below V.heap.size V wr) (fun iv _ => n2 - (intOf iv).toNat)
      case atStart => exact ⟨0, by omega, rfl, Below.refl _ _⟩
      case round =>
        obtain ⟨k, hk, rfl, hB⟩ := hrel
        by_cases hlt : k < n2
        · obtain ⟨g, hx⟩ := elem_at (l := gs) (k := k) (by rw [HGL.out]; exact hlt)
          obtain ⟨g', hx'⟩ := elem_at (l := gs') (k := k) (by rw [HGL'.out]; exact hlt)
          have hb := HB3.out.trans (hB.mono HB3.out.size)
          obtain ⟨ad, rfl, _, d0⟩ := (HG.out.below hb).at_ hx
          obtain ⟨ad', rfl, _, e0⟩ := (HG'.out.below hb).at_ hx'
          have hids := gsI_same HI.out hx hx'
          have hI1 := ((HG.out.below hb).each g (List.mem_of_getElem? hx)).1
          have hI2 := ((HG'.out.below hb).each g' (List.mem_of_getElem? hx')).1
          obtain ⟨Ag, ng, cg, is⟩ := g
          obtain ⟨Ag', ng', cg', is'⟩ := g'
          obtain rfl : is = is' := hids
          have hI1 : IR wr Ag ng is := hI1
          have hI2 : IR wr Ag' ng' is := hI2
          obtain rfl : ng = ng' := by rw [← hI1.len, hI2.len]
          have HSO := Lib.hid (fun (u : World) (hu : Below wr.heap.size wr u) => show Calls Try.prog 22 #[.agg #[.slice Ag ng cg, .int .u64 0, .int .u64 0, .int .u64 0, .int .u64 0, .bool false], .agg #[.slice Ag' ng cg', .int .u64 0, .int .u64 0, .int .u64 0, .int .u64 0, .bool false]] u (Said (.bool true) u) from
            esame_one Ag ng cg Ag' cg' 0 0 0 0 false is u (hI1.below hu) (hI2.below hu))
          have HX : Hid (∀ u, Below V.heap.size V u → u.cell? ⟨w.heap.size, 2, none⟩ = some (.slice (some ad) n2 c2) ∧ u.cell? ⟨w.heap.size + 1, 2, none⟩ = some (.slice (some ad') n2 c2') ∧ u.cell? (ad.add k) = some (.slice Ag ng cg) ∧ u.cell? (ad'.add k) = some (.slice Ag' ng cg')) := Lib.hid (fun u hu => by
            obtain ⟨a1, e, _, q1⟩ := (HG.out.below (HB3.out.trans (hu.mono HB3.out.size))).at_ hx
            injection e with e
            subst e
            obtain ⟨a2, e, _, q2⟩ := (HG'.out.below (HB3.out.trans (hu.mono HB3.out.size))).at_ hx'
            injection e with e
            subst e
            exact ⟨(HK0'.out.below hu HK0'.out.lt).cell 2, (HK1'.out.below hu HK1'.out.lt).cell 2, q1, q2⟩)
          have i1 : (0 : Int) ≤ (k : Int) := by omega
          have i2 : (k : Int) < (n2 : Int) := by omega
          have D0 := (Below.refl wr.heap.size wr).drew
          have D1 := hB.trans (D0.mono hB.size)
          have k1 := HX.out _ D1
          clear hx hx' hb hB d0 e0 hI1 hI2
          go_upto_region 12 with fail
          go_region_held3 (fun w' => w'.cell? ⟨w.heap.size, 2, none⟩ = some (.slice (some ad) n2 c2) ∧ w'.cell? ⟨w.heap.size + 1, 2, none⟩ = some (.slice (some ad') n2 c2') ∧ w'.cell? (ad.add k) = some (.slice Ag ng cg) ∧ w'.cell? (ad'.add k) = some (.slice Ag' ng cg'))
            (first | exact k2 | exact k1)
            (first | (go_at_call 22; (with_reducible refine (HSO.out _ D0).mono ?_); rintro e w5 ⟨rfl, h9⟩; have D2 := Lib.hid (D1.trans (h9.mono D1.size)); have k2 := HX.out _ D2.out; clear h9))
          clear k1 D1 D0 k2
          go_wp2
          go_roundw
          case rel => exact ⟨k + 1, by omega, by go_num, D2.out⟩
          case measure => simp [intOf] <;> omega
        · obtain rfl : k = n2 := by omega
          go_wp2
          go_ret
          exact ⟨rfl, HB3.out.trans (hB.mono HB3.out.size)⟩

end Go.Proofs.Ytngbamoffjlodaa
