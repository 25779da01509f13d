/-
  Several texts as one.
-/
import Derived.Test.YtngbamoffjlodaaZMm
import Derived.Test.YtngbamoffjlodaaZMj
/-
  The landed Check. No statement is proved here.
-/
namespace Go.Proofs.Ytngbamoffjlodaa
open Go.RowKit Go.Maps

set_option maxRecDepth 100000 in
set_option maxHeartbeats 4000000 in
theorem ocheck_any (A : Option Addr) (n c : Nat) (qs : List Rn) (A' : Option Addr) (n' c' : Nat) (ws : List Wt) (A2 : Option Addr) (n2 c2 : Nat) (gs : List Gg) (w : World) (hG : QR w A n c qs) (hW : WT w A' n' c' ws) (hS : GW w A2 n2 gs) :
    Calls Try.prog 13 #[.agg #[.slice A n c], .slice A' n' c', .slice A2 n2 c2] w (Said (.int .i64 (chkO qs ws (gsI gs))) w) := by
  obtain ⟨K0, GB⟩ := box1 w 26 #[.slice A n c]
  have z0 := K0.cell 0
  have HC := Lib.hid (fun (u : World) (h : Below w.heap.size w u) => qcheck_any A n c qs u (hG.below h))
  have HWa := Lib.hid (fun (u : World) (h : Below w.heap.size w u) => awaits_any A' n' c' ws A n c qs u (hW.below h) (hG.below h))
  have HGa := Lib.hid (fun (u : World) (h : Below w.heap.size w u) => agangs_any A2 n2 c2 gs u (hS.below h))
  clear hG hW hS
  cases hq : rightQ qs with
  | false =>
    have HV : Hid (chkO qs ws (gsI gs) = 200) := Lib.hid (by unfold chkO; rw [if_pos hq])
    rw [show chkQ qs = 200 from if_neg (by rw [hq]; simp)] at HC
    clear hq HWa HGa
    go_enter Try.func13, Try.ntmps13
    go_wp2_with fail
    refine (HC.out _ GB).mono ?_
    rintro e w1 ⟨rfl, h9⟩
    replace K0 := K0.below h9 K0.lt
    replace GB := GB.trans (h9.mono GB.size)
    clear h9
    have y0 := K0.cell 0
    clear z0
    have HB := Lib.hid GB
    clear GB K0
    go_wp2
    go_ret
    exact ⟨retI HV.out.symm, HB.out⟩
  | true =>
    rw [show chkQ qs = 0 from if_pos hq] at HC
    cases hw : waitsB qs ws with
    | false =>
      have HV : Hid (chkO qs ws (gsI gs) = 220) := Lib.hid (by unfold chkO; rw [if_neg (by rw [hq]; simp), hw, Bool.false_and]; exact if_neg (by simp))
      rw [hw] at HWa
      clear hq hw HGa
      go_enter Try.func13, Try.ntmps13
      go_wp2_with fail
      refine (HC.out _ GB).mono ?_
      rintro e w1 ⟨rfl, h9⟩
      replace K0 := K0.below h9 K0.lt
      replace GB := GB.trans (h9.mono GB.size)
      clear h9
      have y0 := K0.cell 0
      clear z0
      go_wp2_with fail
      refine (HWa.out _ GB).mono ?_
      rintro e w2 ⟨rfl, h9⟩
      replace GB := GB.trans (h9.mono GB.size)
      clear h9 y0
      have HB := Lib.hid GB
      clear GB K0
      go_wp2
      go_ret
      exact ⟨retI HV.out.symm, HB.out⟩
    | true =>
      rw [hw] at HWa
      cases hg : gangsB (gsI gs) with
      | false =>
        have HV : Hid (chkO qs ws (gsI gs) = 220) := Lib.hid (by unfold chkO; rw [if_neg (by rw [hq]; simp), hw, hg]; exact if_neg (by simp))
        rw [hg] at HGa
        clear hq hw hg
        go_enter Try.func13, Try.ntmps13
        go_wp2_with fail
        refine (HC.out _ GB).mono ?_
        rintro e w1 ⟨rfl, h9⟩
        replace K0 := K0.below h9 K0.lt
        replace GB := GB.trans (h9.mono GB.size)
        clear h9
        have y0 := K0.cell 0
        clear z0
        go_wp2_with fail
        refine (HWa.out _ GB).mono ?_
        rintro e w2 ⟨rfl, h9⟩
        replace GB := GB.trans (h9.mono GB.size)
        clear h9 y0
        go_wp2_with fail
        refine (HGa.out _ GB).mono ?_
        rintro e w3 ⟨rfl, h9⟩
        replace GB := GB.trans (h9.mono GB.size)
        clear h9
        have HB := Lib.hid GB
        clear GB K0
        go_wp2
        go_ret
        exact ⟨retI HV.out.symm, HB.out⟩
      | true =>
        have HV : Hid (chkO qs ws (gsI gs) = 0) := Lib.hid (by unfold chkO; rw [if_neg (by rw [hq]; simp), hw, hg]; exact if_pos rfl)
        rw [hg] at HGa
        clear hq hw hg
        go_enter Try.func13, Try.ntmps13
        go_wp2_with fail
        refine (HC.out _ GB).mono ?_
        rintro e w1 ⟨rfl, h9⟩
        replace K0 := K0.below h9 K0.lt
        replace GB := GB.trans (h9.mono GB.size)
        clear h9
        have y0 := K0.cell 0
        clear z0
        go_wp2_with fail
        refine (HWa.out _ GB).mono ?_
        rintro e w2 ⟨rfl, h9⟩
        replace GB := GB.trans (h9.mono GB.size)
        clear h9 y0
        go_wp2_with fail
        refine (HGa.out _ GB).mono ?_
        rintro e w3 ⟨rfl, h9⟩
        replace GB := GB.trans (h9.mono GB.size)
        clear h9
        have HB := Lib.hid GB
        clear GB K0
        go_wp2
        go_ret
        exact ⟨retI HV.out.symm, HB.out⟩

end Go.Proofs.Ytngbamoffjlodaa
/-
  The landed Entities. No statement is proved here.
-/
namespace Go.Proofs.Ytngbamoffjlodaa
open Go.RowKit Go.Maps

/-- entities in memory of their own, from B on -/
structure ES (w : World) (B : Nat) (A : Option Addr) (n c : Nat) (E : List En) : Prop where
  row : w.ownsRow B 47 6 (.slice A n c) n (flat ev E)
  mem : ∀ e ∈ E, w.ownsRow B 3 1 (slE e) e.1.2.1 (vs e.1.2.2.2)
  ne : ∀ e ∈ E, ∀ j j', (slE e).ownBlock = some j → (Value.slice A n c).ownBlock = some j' → j ≠ j'
theorem ES.below {w w' : World} {B : Nat} {A : Option Addr} {n c : Nat} {E : List En} (h : ES w B A n c E) (hb : Below w.heap.size w w') : ES w' B A n c E :=
  ⟨own_below h.row hb, fun e he => own_below (h.mem e he) hb, h.ne⟩
/-- of what may not be put in order: why -/
def EntNo (r : Int) (w : World) (e : Ending) (w' : World) : Prop := e = .returned (.tuple #[.slice none 0 0, .int .i64 r]) ∧ Below w.heap.size w w'
/-- of what may be put in order: its entities -/
def EntOk (qs : List Rn) (ws : List Wt) (gs : List (List Int)) (w : World) (e : Ending) (w' : World) : Prop :=
  ∃ A n c E, e = .returned (.tuple #[.slice A n c, .int .i64 0]) ∧ ES w' w.heap.size A n c E ∧ E.map et = sortE (entsP (pts qs ws) gs) ∧ Below w.heap.size w w'

set_option maxRecDepth 100000 in
set_option maxHeartbeats 4000000 in
theorem entities_no (A : Option Addr) (n c : Nat) (qs : List Rn) (A' : Option Addr) (n' c' : Nat) (ws : List Wt) (A2 : Option Addr) (n2 c2 : Nat) (gs : List Gg) (w : World) (hG : QR w A n c qs) (hW : WT w A' n' c' ws) (hS : GW w A2 n2 gs)
    (hno : chkO qs ws (gsI gs) ≠ 0) : Calls Try.prog 12 #[.agg #[.slice A n c], .slice A' n' c', .slice A2 n2 c2] w (EntNo (chkO qs ws (gsI gs)) w) := by
  obtain ⟨K0, GB⟩ := box1 w 26 #[.slice A n c]
  have z0 := K0.cell 0
  have HC := Lib.hid (fun (u : World) (h : Below w.heap.size w u) => ocheck_any A n c qs A' n' c' ws A2 n2 c2 gs u (hG.below h) (hW.below h) (hS.below h))
  obtain ⟨r, hr⟩ : ∃ r, chkO qs ws (gsI gs) = r := ⟨_, rfl⟩
  rw [hr] at HC hno ⊢
  have c1 : (r != 0) = true := by simpa using hno
  clear hG hW hS hr hno K0
  go_enter Try.func12, Try.ntmps12
  go_wp2_with fail
  refine (HC.out _ GB).mono ?_
  rintro e w1 ⟨rfl, h9⟩
  have HB := Lib.hid (GB.trans (h9.mono GB.size))
  clear h9 GB z0
  go_wp2
  go_ret2
  exact ⟨rfl, HB.out⟩

theorem timesL {L : List Pt} (hL : LG L) {M : List Pt} (hM : ∀ p ∈ M, p ∈ L) (g : List Int) : allB (timesP (takeP M g)) = true ∧ Small (timesP (takeP M g)) := hL.times fun p hp => hM p (takeP_sub p hp)
theorem ST.start {w2 : World} {B0 b bl : Nat} {m : Nat} (h0 : B0 ≤ bl ∧ B0 ≤ b) (hbl : Blk w2 bl 34 #[.slice none 0 0]) {L : List Pt} (hM : PM w2 b m L) :
    ST (w2.alloc (.cells #[.map (some b)] 75)) B0 (w2.heap.size + 1) w2.heap.size bl b m L none 0 0 [] := by
  have h1 := hbl.lt
  have h2 := hM.lt
  refine ⟨⟨⟨by omega, h0.1, h0.2⟩, ⟨by omega, by omega, by omega⟩, by simp⟩, Blk.new _ _ _, hbl.alloc _, hM.alloc _, World.ownsRow_nil _ _ _ _, (fun e he => by cases he), (fun e he => by cases he)⟩

set_option maxRecDepth 100000 in
set_option maxHeartbeats 16000000 in
theorem entities_ok (A : Option Addr) (n c : Nat) (qs : List Rn) (A' : Option Addr) (n' c' : Nat) (ws : List Wt) (A2 : Option Addr) (n2 c2 : Nat) (gs : List Gg) (w : World) (hG : QR w A n c qs) (hW : WT w A' n' c' ws) (hS : GW w A2 n2 gs)
    (hok : chkO qs ws (gsI gs) = 0) : Calls Try.prog 12 #[.agg #[.slice A n c], .slice A' n' c', .slice A2 n2 c2] w (EntOk qs ws (gsI gs) w) := by
  obtain ⟨hQ, hWR, hGR⟩ := chkO_ok hok
  have HLG : Hid (LG (pts qs ws)) := Lib.hid (lg_of hG.ur hQ hWR)
  have HGR := Lib.hid hGR
  have HPL : Hid ((pts qs ws).length = n) := Lib.hid (by rw [pts_len hWR.len]; exact hG.len)
  have HWL : Hid (ws.length = qs.length) := Lib.hid hWR.len
  have HQL := Lib.hid hG.len
  have HSL := Lib.hid hS.len
  have HSN := hS.small
  have HQN : Hid (n ≤ 16) := Lib.hid (by have := hQ.len; have := hG.len; omega)
  obtain ⟨K0, GB⟩ := box1 w 26 #[.slice A n c]
  have z0 := K0.cell 0
  have HC := Lib.hid (fun (u : World) (h : Below w.heap.size w u) => ocheck_any A n c qs A' n' c' ws A2 n2 c2 gs u (hG.below h) (hW.below h) (hS.below h))
  have HPa := Lib.hid (fun (u : World) (h : Below w.heap.size w u) => parts_any A n c qs A' n' c' ws u (hG.below h) (hW.below h) hQ hWR)
  have HQR := Lib.hid hG
  have HGW := Lib.hid hS
  rw [hok] at HC
  clear hG hW hS hok hQ hWR hGR
  go_enter Try.func12, Try.ntmps12
  go_wp2_with fail
  refine (HC.out _ GB).mono ?_
  rintro e w1 ⟨rfl, h9⟩
  replace K0 := K0.below h9 K0.lt
  replace GB := GB.trans (h9.mono GB.size)
  clear h9 z0
  have KA := K0.alloc (.cells #[.slice none 0 0] 34)
  have y0 := KA.cell 0
  have GA := GB.alloc GB.size (.cells #[.slice none 0 0] 34)
  have KL := Blk.new w1 34 #[.slice none 0 0]
  have HZ : Hid (w.heap.size < w1.heap.size) := Lib.hid K0.lt
  have hsz : (w1.alloc (.cells #[.slice none 0 0] 34)).heap.size = w1.heap.size + 1 := by simp
  clear K0 GB
  go_wp2_with fail
  refine (HPa.out _ GA).mono ?_
  rintro e w2 ⟨b, rfl, hb, M2, h9⟩
  replace KA := KA.below h9 KA.lt
  replace KL := KL.below h9 KL.lt
  replace GA := GA.trans (h9.mono GA.size)
  rw [hsz] at hb
  have HB0 : Hid (w.heap.size + 1 ≤ w1.heap.size ∧ w.heap.size + 1 ≤ b) := Lib.hid (by have := HZ.out; omega)
  have S0 := ST.start HB0.out KL M2
  have KQ := KA.alloc (.cells #[.map (some b)] 75)
  have BA := GA.alloc GA.size (.cells #[.map (some b)] 75)
  clear h9 y0 KA KL GA M2 hsz hb
  go_wp2_with fail
  generalize World.alloc w2 _ = V at S0 KQ BA ⊢
  obtain ⟨B0, hB0⟩ : ∃ B0, w.heap.size + 1 = B0 := ⟨_, rfl⟩
  obtain ⟨B, hB⟩ : ∃ B, w2.heap.size + 1 = B := ⟨_, rfl⟩
  rw [hB0, hB] at S0
  have HBB : Hid (w.heap.size ≤ B) := Lib.hid (by have := S0.bnd; omega)
  have HB00 : Hid (w.heap.size < B0 ∧ w.heap.size ≤ B0) := Lib.hid (by omega)
  obtain ⟨bl, hbl⟩ : ∃ x, w1.heap.size = x := ⟨_, rfl⟩
  obtain ⟨bL, hbL⟩ : ∃ x, w2.heap.size = x := ⟨_, rfl⟩
  rw [hbl, hbL] at S0 ⊢
  have HBA := Lib.hid BA
  have HKQ := Lib.hid KQ
  clear hB0 hB hbl hbL HB0 BA KQ HZ
  go_loopw [29] (fun iv wr => ∃ k : Nat, k ≤ n2 ∧ iv = .int .i64 (k : Int) ∧ ∃ A3 n3 c3 E, Hid (ST wr B0 B bL bl b n (leftG (pts qs ws) ((gsI gs).take k)) A3 n3 c3 E ∧ E.map et = gangE (pts qs ws) ((gsI gs).take k) ∧ n3 ≤ k ∧ Below B0 V wr)) (fun iv _ => n2 - (intOf iv).toNat)
  case atStart => exact ⟨0, by omega, rfl, none, 0, 0, [], Lib.hid ⟨by rw [List.take_zero, leftG_nil]; exact S0, rfl, Nat.le_refl _, Below.refl _ _⟩⟩
  case round =>
    clear S0
    obtain ⟨k, hk, rfl, A3, n3, c3, E, HJ⟩ := hrel
    by_cases hlt : k < n2
    · obtain ⟨⟨Ag, ng, cg, is⟩, hx⟩ := elem_at (l := gs) (k := k) (by rw [HSL.out]; exact hlt)
      have HX := Lib.hid (gsI_at hx)
      have hB : Below w.heap.size w _ := HBA.out.trans (HJ.out.2.2.2.mono HB00.out.2)
      obtain ⟨ad, rfl, _, d0⟩ := (HGW.out.below hB).at_ hx
      have hI := (HGW.out.below hB).each _ (List.mem_of_getElem? hx)
      have hgm : is ∈ gsI gs := List.mem_of_getElem? HX.out
      have hsub : ∀ p ∈ leftG (pts qs ws) ((gsI gs).take k), p ∈ pts qs ws := fun p hp => (List.mem_filter.1 hp).1
      have hT := timesL HLG.out hsub is
      have HAd := Lib.hid (add_any B0 B bL bl b n _ A3 n3 c3 E Ag ng cg is _ HJ.out.1 hI.1 (rise_nodup (HGR.out.rise is hgm)) (fun x hx2 => by have := HGR.out.each is hgm x hx2; omega) hT.1 hT.2 (by have := HJ.out.2.2.1; omega) hI.2)
      have i1 : (0 : Int) ≤ (k : Int) := by omega
      have i2 : (k : Int) < (n2 : Int) := by omega
      clear hx hB hI hgm hsub hT
      go_wp2_with fail
      refine HAd.out.mono ?_
      rintro e w4 ⟨rfl, A4, n4, c4, E4, S4, e4, h4, B4⟩
      have HJ2 : Hid (ST w4 B0 B bL bl b n (leftG (pts qs ws) ((gsI gs).take (k + 1))) A4 n4 c4 E4 ∧ E4.map et = gangE (pts qs ws) ((gsI gs).take (k + 1)) ∧ n4 ≤ k + 1 ∧ Below B0 V w4) := Lib.hid
        ⟨by rw [leftG_snoc HX.out]; exact S4, by rw [gangE_snoc HX.out, e4, HJ.out.2.1, leftG_take HGR.out HX.out], by have := HJ.out.2.2.1; omega, HJ.out.2.2.2.trans B4⟩
      clear S4 e4 h4 B4 d0
      go_wp2
      go_roundw
      case rel => exact ⟨k + 1, by omega, by go_num, A4, n4, c4, E4, HJ2⟩
      case measure => simp [intOf] <;> omega
    · obtain rfl : k = n2 := by omega
      have HTk : Hid ((gsI gs).take k = gsI gs) := Lib.hid (List.take_of_length_le (by rw [gsI_len, HSL.out]; exact Nat.le_refl _))
      obtain ⟨S1, e1, h1, BV1⟩ := HJ.out
      rw [HTk.out] at S1 e1
      have y0 := (HKQ.out.below BV1 HB00.out.1).cell 0
      obtain ⟨V1, hV1⟩ : ∃ V1, V1 = wr := ⟨_, rfl⟩
      rw [← hV1] at S1 BV1 y0 ⊢
      have HG1 := Lib.hid (And.intro e1 h1)
      have HBV1 := Lib.hid BV1
      clear HJ e1 h1 hV1 BV1
      go_wp2_with fail
      clear y0
      go_loopw [40] (fun iv wr2 => ∃ j : Nat, j ≤ n ∧ iv = .int .i64 (j : Int) ∧ ∃ A3 n3 c3 E, Hid (ST wr2 B0 B bL bl b n (leftR (pts qs ws) (gsI gs) j) A3 n3 c3 E ∧ E.map et = gangE (pts qs ws) (gsI gs) ++ singE (gsI gs) ((pts qs ws).take j) ∧ n3 ≤ k + j ∧ Below B0 V wr2)) (fun iv _ => n - (intOf iv).toNat)
      case atStart => exact ⟨0, by omega, rfl, A3, n3, c3, E, Lib.hid ⟨by rw [leftR_zero]; exact S1, by rw [HG1.out.1, List.take_zero]; exact (List.append_nil _).symm, by have := HG1.out.2; omega, HBV1.out⟩⟩
      case round =>
        clear S1
        obtain ⟨j, hj, rfl, A5, n5, c5, E5, HJ⟩ := hrel
        by_cases hjt : j < n
        · obtain ⟨⟨i, a, h, l, x⟩, hx⟩ := elem_at (l := qs) (k := j) (by rw [HQL.out]; exact hjt)
          obtain ⟨wt, hwt⟩ := elem_at (l := ws) (k := j) (by rw [HWL.out, HQL.out]; exact hjt)
          have HX := Lib.hid (pts_at hx hwt)
          have hB : Below w.heap.size w _ := HBA.out.trans (HJ.out.2.2.2.mono HB00.out.2)
          obtain ⟨ad, rfl, _, c0, c1, c2, c3, c4⟩ := rn_at ((HQR.out.below hB).row) hx
          have hid := HLG.out.ids _ (List.mem_of_getElem? HX.out)
          have hsub : ∀ p ∈ leftR (pts qs ws) (gsI gs) j, p ∈ pts qs ws := fun p hp => (List.mem_filter.1 hp).1
          have hT := timesL HLG.out hsub [i]
          have KR := Blk.new wr 59 #[.int .i64 i, .int .i64 a, .int .u64 (h : Int), .int .u64 (l : Int), .int .u64 (x : Int)]
          have z0 := KR.cell 0
          have z1 := KR.cell 1
          have z2 := KR.cell 2
          have z3 := KR.cell 3
          have z4 := KR.cell 4
          have S6 := HJ.out.1.below (((Below.refl _ _).alloc (Nat.le_refl _) (.cells #[.int .i64 i, .int .i64 a, .int .u64 (h : Int), .int .u64 (l : Int), .int .u64 (x : Int)] 59)).alloc (by simp) (.cells #[.int .i64 i] 3))
          have HB6 := Lib.hid ((HJ.out.2.2.2.alloc HJ.out.1.bnd_le (.cells #[.int .i64 i, .int .i64 a, .int .u64 (h : Int), .int .u64 (l : Int), .int .u64 (x : Int)] 59)).alloc (by have := HJ.out.1.bnd_le; simp; omega) (.cells #[.int .i64 i] 3))
          have HAd := Lib.hid (add_any B0 B bL bl b n _ A5 n5 c5 E5 (some ⟨wr.heap.size + 1, 0, none⟩) 1 1 [i] _ S6 ⟨reads_int1 _ _ i (by simp), by omega⟩ (by simp) (fun y hy => by rw [List.mem_singleton] at hy; subst hy; omega) hT.1 hT.2 (by have := HJ.out.2.2.1; have := HQN.out; omega) (by omega))
          have i1 : (0 : Int) ≤ (j : Int) := by omega
          have i2 : (j : Int) < (n : Int) := by omega
          have hn9 := HQN.out
          clear hx hwt hB hid hsub hT KR S6
          go_wp2_with fail
          refine HAd.out.mono ?_
          rintro e w4 ⟨rfl, A4, n4, c4x, E4, S4, e4, h4, B4⟩
          have HJ2 : Hid (ST w4 B0 B bL bl b n (leftR (pts qs ws) (gsI gs) (j + 1)) A4 n4 c4x E4 ∧ E4.map et = gangE (pts qs ws) (gsI gs) ++ singE (gsI gs) ((pts qs ws).take (j + 1)) ∧ n4 ≤ k + (j + 1) ∧ Below B0 V w4) := Lib.hid
            ⟨by rw [leftR_snoc HX.out]; exact S4, by rw [singE_snoc HX.out, e4, HJ.out.2.1, ← List.append_assoc, ← leftR_take HLG.out.rise HX.out], by have := HJ.out.2.2.1; omega, HB6.out.trans B4⟩
          clear S4 e4 h4 B4 c0 c1 c2 c3 c4 z0 z1 z2 z3 z4
          go_wp2
          go_roundw
          case rel => exact ⟨j + 1, by omega, by go_num, A4, n4, c4x, E4, HJ2⟩
          case measure => simp [intOf] <;> omega
        · obtain rfl : j = n := by omega
          clear A3 n3 c3 E HG1
          obtain ⟨A3, hA3⟩ : ∃ x, A5 = x := ⟨_, rfl⟩
          obtain ⟨n3, hn3x⟩ : ∃ x, n5 = x := ⟨_, rfl⟩
          obtain ⟨c3, hc3⟩ : ∃ x, c5 = x := ⟨_, rfl⟩
          obtain ⟨E, hE5⟩ : ∃ x, E5 = x := ⟨_, rfl⟩
          subst hA3 hn3x hc3 hE5
          obtain ⟨SV, e2, h2, BV2⟩ := HJ.out
          have BV := HBA.out.trans (BV2.mono HB00.out.2)
          have HE : Hid (E5.map et = entsP (pts qs ws) (gsI gs)) := Lib.hid (by rw [e2, List.take_of_length_le (by rw [HPL.out]; exact Nat.le_refl _)]; rfl)
          have HF : Hid ((∀ e ∈ E5, 0 < e.1.2.1) ∧ (∀ e ∈ E5, e.2.1.1 < 2 ^ 64 ∧ e.2.1.2.1 < 2 ^ 64 ∧ e.2.1.2.2 < 2 ^ 64) ∧ ∀ e ∈ E5, canE (et e) = true) := Lib.hid (by
            have hf : ∀ e ∈ E5, canE (et e) = true ∧ e.2.1.1 < 2 ^ 64 ∧ e.2.1.2.1 < 2 ^ 64 ∧ e.2.1.2.2 < 2 ^ 64 := fun e he => ents_facts HLG.out (gs := gsI gs) (by rw [← HE.out]; exact List.mem_map.2 ⟨e, he, rfl⟩)
            refine ⟨fun e he => ?_, fun e he => (hf e he).2, fun e he => (hf e he).1⟩
            have h1 := (canE_iff.1 (hf e he).1).1
            have h2 := (SV.mem e he).1
            rw [length_vs] at h2
            have h3 : (et e).1 = e.1.2.2.2 := rfl
            rw [h3] at h1
            omega)
          have hn3 : n5 ≤ 1000 := by have := HQN.out; omega
          clear HJ e2 h2 BV2
          go_upto_region 17 with fail
          refine wp_region_held_drew (S := fun _ => True) (by kernel_rfl) trivial (fun hS => ?_)
          replace SV := SV.below (Below.refl _ _).drew
          replace BV := BV.drew
          generalize World.drew _ = V9 at SV BV ⊢
          refine wpAnyH_ready (rs := [0, 1]) (by kernel_rfl) (by simp) ?_
          refine AllReadyH.cons rfl (fun K hK => ?_) (AllReadyH.cons rfl (fun K hK => ?_) (AllReadyH.nil))
          · skip
            have k0 := SV.box.cell 0
            go_simp
            refine hK.out _ _ trivial (fun hS => ?_)
            clear hK K k0
            try simp only [Act.put]
            refine wpAnyH_ready (rs := [1]) (by kernel_rfl) (by simp) ?_
            refine AllReadyH.cons rfl (fun K hK => ?_) (AllReadyH.nil)
            go_simp
            refine (standing_any _).mono ?_
            rintro e2 w5 ⟨g, g2, rfl, hC, hgr, hg1, hg2⟩
            have hgb : ∀ j, (Value.slice A5 n5 c5).ownBlock = some j → g ≠ j ∧ g2 ≠ j := fun j hj => by
              have := (SV.row.lt j hj).2
              omega
            replace SV := SV.below hgr.old
            replace BV := BV.trans (hgr.old.mono BV.size)
            refine hK.out _ _ trivial (fun hS => ?_)
            clear hK K hgr hg1 hg2
            try simp only [Act.put]
            refine wpAnyH_ready (rs := [2]) (by kernel_rfl) (by simp) ?_
            refine AllReadyH.cons rfl (fun K hK => ?_) (AllReadyH.nil)
            go_simp
            refine (sort_all B n5 c5 g g2 A5 E5 w5 hC hgb SV.row SV.mem SV.ne HF.out.1 HF.out.2.1 HF.out.2.2 hn3).mono ?_
            rintro e3 w6 ⟨rfl, E', hp, hs, own6, gr6⟩
            have kb := (SV.box.own SV.row gr6 SV.bnd.2.1.2.1)
            have k0 := kb.cell 0
            have HR : Hid (ES w6 w.heap.size A5 n5 c5 E' ∧ E'.map et = sortE (entsP (pts qs ws) (gsI gs)) ∧ Below w.heap.size w w6) := Lib.hid ⟨⟨own_down own6 HBB.out, fun e he => own_down (own_other (SV.mem e (hp.mem_iff.1 he)) gr6 (SV.ne e (hp.mem_iff.1 he))) HBB.out, fun e he => SV.ne e (hp.mem_iff.1 he)⟩,
              ents_sorted HLG.out HGR.out (by rw [← HE.out]; exact hp.map et) hs, BV.grown gr6 BV.size (fun j hj => Nat.le_trans HBB.out (SV.row.lt j hj).1)⟩
            clear hC hgb SV BV hp hs own6 gr6 kb
            refine hK.out _ _ trivial (fun hS => ?_)
            clear hK K
            try simp only [Act.put]
            refine wpAnyH_done (by kernel_rfl) ?_ _
            clear hS
            go_wp2_with fail
            go_ret2
            exact ⟨A5, n5, c5, E', rfl, HR.out⟩
          · skip
            go_simp
            refine (standing_any _).mono ?_
            rintro e2 w5 ⟨g, g2, rfl, hC, hgr, hg1, hg2⟩
            have hgb : ∀ j, (Value.slice A5 n5 c5).ownBlock = some j → g ≠ j ∧ g2 ≠ j := fun j hj => by
              have := (SV.row.lt j hj).2
              omega
            replace SV := SV.below hgr.old
            replace BV := BV.trans (hgr.old.mono BV.size)
            refine hK.out _ _ trivial (fun hS => ?_)
            clear hK K hgr hg1 hg2
            try simp only [Act.put]
            refine wpAnyH_ready (rs := [0]) (by kernel_rfl) (by simp) ?_
            refine AllReadyH.cons rfl (fun K hK => ?_) (AllReadyH.nil)
            have k0 := SV.box.cell 0
            go_simp
            refine hK.out _ _ trivial (fun hS => ?_)
            clear hK K k0
            try simp only [Act.put]
            refine wpAnyH_ready (rs := [2]) (by kernel_rfl) (by simp) ?_
            refine AllReadyH.cons rfl (fun K hK => ?_) (AllReadyH.nil)
            go_simp
            refine (sort_all B n5 c5 g g2 A5 E5 w5 hC hgb SV.row SV.mem SV.ne HF.out.1 HF.out.2.1 HF.out.2.2 hn3).mono ?_
            rintro e3 w6 ⟨rfl, E', hp, hs, own6, gr6⟩
            have kb := (SV.box.own SV.row gr6 SV.bnd.2.1.2.1)
            have k0 := kb.cell 0
            have HR : Hid (ES w6 w.heap.size A5 n5 c5 E' ∧ E'.map et = sortE (entsP (pts qs ws) (gsI gs)) ∧ Below w.heap.size w w6) := Lib.hid ⟨⟨own_down own6 HBB.out, fun e he => own_down (own_other (SV.mem e (hp.mem_iff.1 he)) gr6 (SV.ne e (hp.mem_iff.1 he))) HBB.out, fun e he => SV.ne e (hp.mem_iff.1 he)⟩,
              ents_sorted HLG.out HGR.out (by rw [← HE.out]; exact hp.map et) hs, BV.grown gr6 BV.size (fun j hj => Nat.le_trans HBB.out (SV.row.lt j hj).1)⟩
            clear hC hgb SV BV hp hs own6 gr6 kb
            refine hK.out _ _ trivial (fun hS => ?_)
            clear hK K
            try simp only [Act.put]
            refine wpAnyH_done (by kernel_rfl) ?_ _
            clear hS
            go_wp2_with fail
            go_ret2
            exact ⟨A5, n5, c5, E', rfl, HR.out⟩

end Go.Proofs.Ytngbamoffjlodaa
