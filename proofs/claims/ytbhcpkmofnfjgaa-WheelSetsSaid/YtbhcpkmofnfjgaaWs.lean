/-
  WheelSets' walk: set, taken away, told. No statement is proved here.
-/
import Derived.Test.YtbhcpkmofnfjgaaWz
import Derived.Test.YtbhcpkmofnfjgaaWl
import Derived.Test.YtbhcpkmofnfjgaaWr
namespace Go.Proofs.Ytbhcpkmofnfjgaa
open Go.RowKit

theorem WR.drew {w : World} {A : Option Addr} {n : Nat} {ts : List Tm} (h : WR w A n ts) : WR w.drew A n ts := ⟨h.row, h.small⟩
theorem sameW_refl (a : Int) (l : List Tm) : sameW a l a l = true := by unfold sameW; simp
theorem withF_len (ts : List Tm) (id tm : Int) : ∀ k, (withF ts id tm k).length ≤ k
  | 0 => Nat.le_refl _
  | k + 1 => by
    unfold withF
    have := withF_len ts id tm k
    rw [List.length_append]
    split <;> simp <;> omega

set_option maxRecDepth 100000 in
set_option maxHeartbeats 8000000 in
theorem sets_walk (now : Int) (A : Option Addr) (n c : Nat) (ts : List Tm) (id tm : Int) (w : World) (hR : Reads w w.heap.size 2 A n (flat tv ts)) (hn : n ≤ maxLen) : Calls Try.prog 3 #[.agg #[.int .i64 now, .slice A n c], .int .i64 id, .int .i64 tm] w (Said (.bool true) w) := by
  obtain ⟨K0, GB⟩ := box1 w 24 #[.int .i64 now, .slice A n c]
  have HWk := Lib.hid (fun (u : World) => wakes_any u)
  unfold maxLen at hn
  by_cases h100 : 100 < n
  · have e1 : decide ((100 : Int) < (n : Int)) = true := decide_eq_true (by omega)
    have e2 : (100 : Int) < (n : Int) := by omega
    clear hR h100
    go_enter Try.func3, Try.ntmps3
    go_wp2_with fail
    refine (HWk.out _).mono ?_
    rintro e w1 ⟨rfl, h9⟩
    replace K0 := K0.below h9 K0.lt
    replace GB := GB.trans (h9.mono GB.size)
    clear h9
    have z1 := K0.cell 1
    go_wp2
    go_ret
    exact ⟨rfl, GB⟩
  have e1 : decide ((100 : Int) < (n : Int)) = false := decide_eq_false (by omega)
  have e2 : ¬ (100 : Int) < (n : Int) := by omega
  have hG : WR w A n ts := ⟨hR, by omega⟩
  have hn9 : n ≤ 1000 := by omega
  have HCo := Lib.hid (fun (u : World) (h : Below w.heap.size w u) => copied_any now A n c ts u (hG.below h))
  have HSe := Lib.hid (fun (u : World) (A' : Option Addr) (c' : Nat) (h : WR u A' n ts) => set_any now A' n c' ts id tm u h)
  have HCa := Lib.hid (fun (u : World) (A' : Option Addr) (c' : Nat) (h : WR u A' n ts) => cancel_any now A' n c' ts id u h)
  have HAt := Lib.hid (fun (u : World) (A' : Option Addr) (c' : Nat) (h : WR u A' n ts) => at_any now A' n c' ts id u h)
  have HSm := Lib.hid (fun (u : World) (A' : Option Addr) (c' : Nat) (h : WR u A' n ts) (hb : Below w.heap.size w u) => rsame_any now now A' A n c' n c ts ts u h (hG.below hb))
  rw [sameW_refl] at HSm
  have HRi := Lib.hid (fun (u : World) (h : Below w.heap.size w u) => right_any now A n c ts u (hG.below h))
  have HAd := Lib.hid (fun (u : World) (h : Below w.heap.size w u) => rat_any now A n c ts id u (hG.below h))
  have HWi := Lib.hid (fun (u : World) (h : Below w.heap.size w u) => rwith_any now A n c ts id tm u (hG.below h))
  have HWn := Lib.hid (fun (u : World) (h : Below w.heap.size w u) => rwith_any now A n c ts id 0 u (hG.below h))
  have HL := Lib.hid hG.len
  have n9 : n ≤ 100 := by omega
  have hLn := hG.len
  clear hR h100
  cases hc : chkW now ts with
  | false =>
    rw [show setV now ts id tm = ((0, []), 250) from by unfold setV; rw [hc]; rfl] at HSe
    rw [show cancelV now ts id = ((0, []), 250) from by unfold cancelV amongV; rw [hc]; simp] at HCa
    rw [show atV now ts id = (0, false) from by unfold atV theTm; rw [hc]; simp] at HAt
    rw [hc] at HRi
    have HB2 : Hid (([] : List Tm).length ≤ 1000) := Lib.hid (by simp)
    have HB3 : Hid (([] : List Tm).length ≤ 1000) := Lib.hid (by simp)
    obtain ⟨nx, hnx⟩ : ∃ nx : Int, nx = 0 := ⟨0, rfl⟩
    obtain ⟨ny, hny⟩ : ∃ ny : Int, ny = 0 := ⟨0, rfl⟩
    rw [← hnx] at HSe
    rw [← hny] at HCa
    clear hc hG HWi HWn HAd hnx hny hLn
    go_enter Try.func3, Try.ntmps3
    go_wp2_with fail
    refine (HWk.out _).mono ?_
    rintro e u1 ⟨rfl, h9⟩
    replace K0 := K0.below h9 K0.lt
    replace GB := GB.trans (h9.mono GB.size)
    clear h9 
    have zK00 := K0.cell 0
    have zK01 := K0.cell 1
    go_wp2_with fail
    refine (HCo.out _ GB).mono ?_
    rintro e u2 ⟨A1, n1, c1, rfl, hl1, O1, h9⟩
    obtain rfl : n1 = n := hl1.symm.trans HL.out
    have W1 := WR.of_own O1 hn9
    replace K0 := K0.below h9 K0.lt
    replace GB := GB.trans (h9.mono GB.size)
    clear zK00 zK01
    clear h9 O1 hl1
    have K7 := Blk.new u2 24 #[.int .i64 now, .slice A1 n1 c1]
    have g7l : w.heap.size < u2.heap.size := K0.lt
    replace K0 := K0.alloc (.cells #[.int .i64 now, .slice A1 n1 c1] 24)
    replace W1 := W1.below ((Below.refl _ _).alloc (Nat.le_refl _) (.cells #[.int .i64 now, .slice A1 n1 c1] 24))
    replace GB := GB.alloc GB.size (.cells #[.int .i64 now, .slice A1 n1 c1] 24)
    have zK70 := K7.cell 0
    have zK71 := K7.cell 1
    go_wp2_with fail
    refine (HSe.out _ A1 c1 W1).mono ?_
    rintro e u3 ⟨A2, n2, c2, rfl, hl2, O2, h9⟩
    replace K0 := K0.below h9 K0.lt
    replace K7 := K7.below h9 K7.lt
    replace W1 := W1.below h9
    have W2 := WR.of_own O2 (by dsimp only at hl2; have := HB2.out; omega)
    replace GB := GB.trans (h9.mono GB.size)
    clear h9 O2
    dsimp only at hl2
    clear zK70 zK71
    have K8 := Blk.new u3 24 #[.int .i64 nx, .slice A2 n2 c2]
    have g8l : w.heap.size < u3.heap.size := K0.lt
    replace K0 := K0.alloc (.cells #[.int .i64 nx, .slice A2 n2 c2] 24)
    replace K7 := K7.alloc (.cells #[.int .i64 nx, .slice A2 n2 c2] 24)
    replace W1 := W1.below ((Below.refl _ _).alloc (Nat.le_refl _) (.cells #[.int .i64 nx, .slice A2 n2 c2] 24))
    replace W2 := W2.below ((Below.refl _ _).alloc (Nat.le_refl _) (.cells #[.int .i64 nx, .slice A2 n2 c2] 24))
    replace GB := GB.alloc GB.size (.cells #[.int .i64 nx, .slice A2 n2 c2] 24)
    have zK70 := K7.cell 0
    have zK71 := K7.cell 1
    go_wp2_with fail
    refine (HCa.out _ A1 c1 W1).mono ?_
    rintro e u4 ⟨A3, n3, c3, rfl, hl3, O3, h9⟩
    replace K0 := K0.below h9 K0.lt
    replace K7 := K7.below h9 K7.lt
    replace K8 := K8.below h9 K8.lt
    replace W1 := W1.below h9
    replace W2 := W2.below h9
    have W3 := WR.of_own O3 (by dsimp only at hl3; have := HB3.out; omega)
    replace GB := GB.trans (h9.mono GB.size)
    clear h9 O3
    dsimp only at hl3
    clear zK70 zK71
    have K10 := Blk.new u4 24 #[.int .i64 ny, .slice A3 n3 c3]
    have g10l : w.heap.size < u4.heap.size := K0.lt
    replace K0 := K0.alloc (.cells #[.int .i64 ny, .slice A3 n3 c3] 24)
    replace K7 := K7.alloc (.cells #[.int .i64 ny, .slice A3 n3 c3] 24)
    replace K8 := K8.alloc (.cells #[.int .i64 ny, .slice A3 n3 c3] 24)
    replace W1 := W1.below ((Below.refl _ _).alloc (Nat.le_refl _) (.cells #[.int .i64 ny, .slice A3 n3 c3] 24))
    replace W2 := W2.below ((Below.refl _ _).alloc (Nat.le_refl _) (.cells #[.int .i64 ny, .slice A3 n3 c3] 24))
    replace W3 := W3.below ((Below.refl _ _).alloc (Nat.le_refl _) (.cells #[.int .i64 ny, .slice A3 n3 c3] 24))
    replace GB := GB.alloc GB.size (.cells #[.int .i64 ny, .slice A3 n3 c3] 24)
    have zK70 := K7.cell 0
    have zK71 := K7.cell 1
    go_wp2_with fail
    refine (HAt.out _ A1 c1 W1).mono ?_
    rintro e u5 ⟨rfl, h9⟩
    replace K0 := K0.below h9 K0.lt
    replace K7 := K7.below h9 K7.lt
    replace K8 := K8.below h9 K8.lt
    replace K10 := K10.below h9 K10.lt
    replace W1 := W1.below h9
    replace W2 := W2.below h9
    replace W3 := W3.below h9
    replace GB := GB.trans (h9.mono GB.size)
    clear h9 zK70 zK71
    have zK70 := K7.cell 0
    have zK71 := K7.cell 1
    have zK00 := K0.cell 0
    have zK01 := K0.cell 1
    go_wp2_with fail
    refine (HSm.out _ A1 c1 W1 GB).mono ?_
    rintro e u6 ⟨rfl, h9⟩
    replace K0 := K0.below h9 K0.lt
    replace K7 := K7.below h9 K7.lt
    replace K8 := K8.below h9 K8.lt
    replace K10 := K10.below h9 K10.lt
    replace W1 := W1.below h9
    replace W2 := W2.below h9
    replace W3 := W3.below h9
    replace GB := GB.trans (h9.mono GB.size)
    clear h9 zK70 zK71 zK00 zK01
    have zK00 := K0.cell 0
    have zK01 := K0.cell 1
    go_wp2_with fail
    refine (HRi.out _ GB).mono ?_
    rintro e u7 ⟨rfl, h9⟩
    replace K0 := K0.below h9 K0.lt
    replace K8 := K8.below h9 K8.lt
    replace K10 := K10.below h9 K10.lt
    replace W2 := W2.below h9
    replace W3 := W3.below h9
    replace GB := GB.trans (h9.mono GB.size)
    clear h9 zK00 zK01 W1 K7

    obtain rfl : n2 = 0 := by simpa using hl2.symm
    obtain rfl : n3 = 0 := by simpa using hl3.symm
    have zK81 := K8.cell 1
    have zK101 := K10.cell 1
    go_wp2_with fail
    go_ret
    exact ⟨rfl, GB⟩
  | true =>
    obtain ⟨h0, h1, hRt⟩ := chkW_iff.1 hc
    rw [hc] at HRi
    obtain ⟨Lw, hLw⟩ : ∃ Lw, withF ts id tm 32 = Lw := ⟨_, rfl⟩
    obtain ⟨L0, hL0⟩ : ∃ L0, withF ts id 0 32 = L0 := ⟨_, rfl⟩
    have hlw : Lw.length ≤ 32 := by rw [← hLw]; exact withF_len ts id tm 32
    rw [hLw] at HWi
    rw [hL0] at HWn
    cases ha : tmB now (id, tm) with
    | true =>
      have hab := tmB_iff.1 ha
      dsimp only at hab
      have HACC : Hid (decide (id < 0) = false ∧ decide (31 < id) = false ∧ decide (tm ≤ now) = false ∧ decide (1125899906842624 < tm) = false) := Lib.hid ⟨decide_eq_false (by omega), decide_eq_false (by omega), decide_eq_false (by omega), decide_eq_false (by omega)⟩
      rw [show setV now ts id tm = ((now, Lw), 0) from by unfold setV; rw [if_pos hc, if_pos ha, with_set h0 hRt ⟨hab.1, hab.2.1⟩ (by omega), hLw]] at HSe
      have HB2 : Hid (Lw.length ≤ 1000) := Lib.hid (by omega)
      have HBw1 : Hid (Lw.length ≤ 1000) := HB2
      have HSw1 := Lib.hid (fun (u : World) (A' : Option Addr) (n' c' : Nat) (B' : Option Addr) (m' d' : Nat) (h : WR u A' n' Lw) (h' : WR u B' m' Lw) => rsame_any now now A' B' n' c' m' d' _ _ u h h')
      rw [sameW_refl] at HSw1
      clear ha hab
      rcases at_both (id := id) hc with ⟨hm, hp, hv⟩ | ⟨hm, hp, hv⟩
      · obtain ⟨v, hvv⟩ : ∃ v, atD id ts = v := ⟨_, rfl⟩
        rw [hv, hvv] at HAt
        rw [hvv] at HAd hp
        have HLe : (ts.eraseIdx (lowK (·.1) ts id)).length ≤ 1000 := by have := List.length_eraseIdx_le ts (lowK (·.1) ts id); omega
        rw [show cancelV now ts id = ((now, ts.eraseIdx (lowK (·.1) ts id)), 0) from by unfold cancelV amongV; rw [if_pos hc, if_pos hm]; rfl, with_none h0 hRt hm, hL0] at HCa
        rw [with_none h0 hRt hm, hL0] at HLe
        have HB3 : Hid (L0.length ≤ 1000) := Lib.hid HLe
        have HBw : Hid (L0.length ≤ 1000) := Lib.hid HLe
        have HSw := Lib.hid (fun (u : World) (A' : Option Addr) (n' c' : Nat) (B' : Option Addr) (m' d' : Nat) (h : WR u A' n' L0) (h' : WR u B' m' L0) => rsame_any now now A' B' n' c' m' d' _ _ u h h')
        rw [sameW_refl] at HSw
        have p1 : decide (0 < v) = true := decide_eq_true hp
        have p2 : (v == 0) = false := by simp; omega
        have p3 : (v != v) = false := by simp
        clear hc hm hv hvv HLe hG hLn hlw hRt h0 h1 hp hLw hL0
        go_enter Try.func3, Try.ntmps3
        go_wp2_with fail
        refine (HWk.out _).mono ?_
        rintro e u1 ⟨rfl, h9⟩
        replace K0 := K0.below h9 K0.lt
        replace GB := GB.trans (h9.mono GB.size)
        clear h9 
        have zK00 := K0.cell 0
        have zK01 := K0.cell 1
        go_wp2_with fail
        refine (HCo.out _ GB).mono ?_
        rintro e u2 ⟨A1, n1, c1, rfl, hl1, O1, h9⟩
        obtain rfl : n1 = n := hl1.symm.trans HL.out
        have W1 := WR.of_own O1 hn9
        replace K0 := K0.below h9 K0.lt
        replace GB := GB.trans (h9.mono GB.size)
        clear zK00 zK01
        clear h9 O1 hl1
        have K7 := Blk.new u2 24 #[.int .i64 now, .slice A1 n1 c1]
        have g7l : w.heap.size < u2.heap.size := K0.lt
        replace K0 := K0.alloc (.cells #[.int .i64 now, .slice A1 n1 c1] 24)
        replace W1 := W1.below ((Below.refl _ _).alloc (Nat.le_refl _) (.cells #[.int .i64 now, .slice A1 n1 c1] 24))
        replace GB := GB.alloc GB.size (.cells #[.int .i64 now, .slice A1 n1 c1] 24)
        have zK70 := K7.cell 0
        have zK71 := K7.cell 1
        go_wp2_with fail
        refine (HSe.out _ A1 c1 W1).mono ?_
        rintro e u3 ⟨A2, n2, c2, rfl, hl2, O2, h9⟩
        replace K0 := K0.below h9 K0.lt
        replace K7 := K7.below h9 K7.lt
        replace W1 := W1.below h9
        have W2 := WR.of_own O2 (by dsimp only at hl2; have := HB2.out; omega)
        replace GB := GB.trans (h9.mono GB.size)
        clear h9 O2
        dsimp only at hl2
        clear zK70 zK71
        have K8 := Blk.new u3 24 #[.int .i64 now, .slice A2 n2 c2]
        have g8l : w.heap.size < u3.heap.size := K0.lt
        replace K0 := K0.alloc (.cells #[.int .i64 now, .slice A2 n2 c2] 24)
        replace K7 := K7.alloc (.cells #[.int .i64 now, .slice A2 n2 c2] 24)
        replace W1 := W1.below ((Below.refl _ _).alloc (Nat.le_refl _) (.cells #[.int .i64 now, .slice A2 n2 c2] 24))
        replace W2 := W2.below ((Below.refl _ _).alloc (Nat.le_refl _) (.cells #[.int .i64 now, .slice A2 n2 c2] 24))
        replace GB := GB.alloc GB.size (.cells #[.int .i64 now, .slice A2 n2 c2] 24)
        have zK70 := K7.cell 0
        have zK71 := K7.cell 1
        go_wp2_with fail
        refine (HCa.out _ A1 c1 W1).mono ?_
        rintro e u4 ⟨A3, n3, c3, rfl, hl3, O3, h9⟩
        replace K0 := K0.below h9 K0.lt
        replace K7 := K7.below h9 K7.lt
        replace K8 := K8.below h9 K8.lt
        replace W1 := W1.below h9
        replace W2 := W2.below h9
        have W3 := WR.of_own O3 (by dsimp only at hl3; have := HB3.out; omega)
        replace GB := GB.trans (h9.mono GB.size)
        clear h9 O3
        dsimp only at hl3
        clear zK70 zK71
        have K10 := Blk.new u4 24 #[.int .i64 now, .slice A3 n3 c3]
        have g10l : w.heap.size < u4.heap.size := K0.lt
        replace K0 := K0.alloc (.cells #[.int .i64 now, .slice A3 n3 c3] 24)
        replace K7 := K7.alloc (.cells #[.int .i64 now, .slice A3 n3 c3] 24)
        replace K8 := K8.alloc (.cells #[.int .i64 now, .slice A3 n3 c3] 24)
        replace W1 := W1.below ((Below.refl _ _).alloc (Nat.le_refl _) (.cells #[.int .i64 now, .slice A3 n3 c3] 24))
        replace W2 := W2.below ((Below.refl _ _).alloc (Nat.le_refl _) (.cells #[.int .i64 now, .slice A3 n3 c3] 24))
        replace W3 := W3.below ((Below.refl _ _).alloc (Nat.le_refl _) (.cells #[.int .i64 now, .slice A3 n3 c3] 24))
        replace GB := GB.alloc GB.size (.cells #[.int .i64 now, .slice A3 n3 c3] 24)
        have zK70 := K7.cell 0
        have zK71 := K7.cell 1
        go_wp2_with fail
        refine (HAt.out _ A1 c1 W1).mono ?_
        rintro e u5 ⟨rfl, h9⟩
        replace K0 := K0.below h9 K0.lt
        replace K7 := K7.below h9 K7.lt
        replace K8 := K8.below h9 K8.lt
        replace K10 := K10.below h9 K10.lt
        replace W1 := W1.below h9
        replace W2 := W2.below h9
        replace W3 := W3.below h9
        replace GB := GB.trans (h9.mono GB.size)
        clear h9 zK70 zK71
        have zK70 := K7.cell 0
        have zK71 := K7.cell 1
        have zK00 := K0.cell 0
        have zK01 := K0.cell 1
        go_wp2_with fail
        refine (HSm.out _ A1 c1 W1 GB).mono ?_
        rintro e u6 ⟨rfl, h9⟩
        replace K0 := K0.below h9 K0.lt
        replace K7 := K7.below h9 K7.lt
        replace K8 := K8.below h9 K8.lt
        replace K10 := K10.below h9 K10.lt
        replace W1 := W1.below h9
        replace W2 := W2.below h9
        replace W3 := W3.below h9
        replace GB := GB.trans (h9.mono GB.size)
        clear h9 zK70 zK71 zK00 zK01
        have zK00 := K0.cell 0
        have zK01 := K0.cell 1
        go_wp2_with fail
        refine (HRi.out _ GB).mono ?_
        rintro e u7 ⟨rfl, h9⟩
        replace K0 := K0.below h9 K0.lt
        replace K8 := K8.below h9 K8.lt
        replace K10 := K10.below h9 K10.lt
        replace W2 := W2.below h9
        replace W3 := W3.below h9
        replace GB := GB.trans (h9.mono GB.size)
        clear h9 zK00 zK01 W1 K7
        have zK100 := K10.cell 0
        have zK101 := K10.cell 1
        clear zK100 zK101
        have zK00 := K0.cell 0
        have zK01 := K0.cell 1
        go_wp2_with fail
        refine (HAd.out _ GB).mono ?_
        rintro e u8 ⟨rfl, h9⟩
        replace K0 := K0.below h9 K0.lt
        replace K8 := K8.below h9 K8.lt
        replace K10 := K10.below h9 K10.lt
        replace W2 := W2.below h9
        replace W3 := W3.below h9
        replace GB := GB.trans (h9.mono GB.size)
        clear h9 zK00 zK01
        go_upto_region 19 with fail
        replace K0 : Blk u8.drew _ _ _ := K0
        replace K8 : Blk u8.drew _ _ _ := K8
        replace K10 : Blk u8.drew _ _ _ := K10
        replace W2 := W2.drew
        replace W3 := W3.drew
        replace GB := GB.drew
        refine wp_region_held_drew (S := fun u => Below w.heap.size w u ∧ Blk u w.heap.size 24 #[.int .i64 now, .slice A n1 c] ∧ Blk u u4.heap.size 24 #[.int .i64 now, .slice A3 n3 c3]) (by kernel_rfl) ⟨GB, K0, K10⟩ (fun hS => ?_)
        generalize u8.drew = V at GB K0 K8 K10 W2 W3 hS ⊢
        refine wpAnyH_take (i := 0) (v := .int .i64 0) rfl (by kernel_rfl) (by kernel_rfl) (by kernel_rfl) (fun _ _ _ h => h) (Or.inl ⟨by kernel_rfl, fun u hSw => (by go_simp)⟩) hS ?_
        change wpAnyH _ _ _ _ _ _ _ (Act.put _ (some 97) _) _
        simp only [Act.put]
        try simp only [List.setIfInBounds_toArray, List.set_cons_zero, List.set_cons_succ]
        refine wpAnyH_take (i := 1) (v := .bool false) rfl (by kernel_rfl) (by kernel_rfl) (by kernel_rfl) (fun _ _ _ h => h) (Or.inl ⟨by kernel_rfl, fun u hSw => (by go_simp)⟩) hS ?_
        change wpAnyH _ _ _ _ _ _ _ (Act.put _ (some 98) _) _
        simp only [Act.put]
        try simp only [List.setIfInBounds_toArray, List.set_cons_zero, List.set_cons_succ]
        refine wpAnyH_take (i := 2) (v := .bool false) rfl (by kernel_rfl) (by kernel_rfl) (by kernel_rfl) (fun _ _ _ h => h) (Or.inl ⟨by kernel_rfl, fun u hSw => (by go_simp)⟩) hS ?_
        change wpAnyH _ _ _ _ _ _ _ (Act.put _ (some 99) _) _
        simp only [Act.put]
        try simp only [List.setIfInBounds_toArray, List.set_cons_zero, List.set_cons_succ]
        refine wpAnyH_take (i := 3) (v := .agg #[.int .i64 now, .slice A3 n3 c3]) rfl (by kernel_rfl) (by kernel_rfl) (by kernel_rfl) (fun _ _ _ h => h) (Or.inl ⟨by kernel_rfl, fun u hSw => (by have q0 := hSw.2.2.cell 0; have q1 := hSw.2.2.cell 1; go_simp)⟩) hS ?_
        change wpAnyH _ _ _ _ _ _ _ (Act.put _ (some 100) _) _
        simp only [Act.put]
        try simp only [List.setIfInBounds_toArray, List.set_cons_zero, List.set_cons_succ]
        refine wpAnyH_take (i := 4) (v := .agg #[.int .i64 now, .slice A n1 c]) rfl (by kernel_rfl) (by kernel_rfl) (by kernel_rfl) (fun _ _ _ h => h) (Or.inl ⟨by kernel_rfl, fun u hSw => (by have q0 := hSw.2.1.cell 0; have q1 := hSw.2.1.cell 1; go_simp)⟩) hS ?_
        change wpAnyH _ _ _ _ _ _ _ (Act.put _ (some 101) _) _
        simp only [Act.put]
        try simp only [List.setIfInBounds_toArray, List.set_cons_zero, List.set_cons_succ]
        refine wpAnyH_take (i := 5) (v := .int .i64 id) rfl (by kernel_rfl) (by kernel_rfl) (by kernel_rfl) (fun _ _ _ h => h) (Or.inl ⟨by kernel_rfl, fun u hSw => (by go_simp)⟩) hS ?_
        change wpAnyH _ _ _ _ _ _ _ (Act.put _ (some 102) _) _
        simp only [Act.put]
        try simp only [List.setIfInBounds_toArray, List.set_cons_zero, List.set_cons_succ]
        refine wpAnyH_ready (rs := [6]) (by kernel_rfl) (by simp) ?_
        refine AllReadyH.cons rfl (fun K hK => ?_) AllReadyH.nil
        go_simp
        refine (HWn.out _ GB).mono ?_
        rintro e1 w1 ⟨A4, n4, c4, rfl, hl4, O4, h9⟩
        replace K0 := K0.below h9 K0.lt
        replace K10 := K10.below h9 K10.lt
        replace K8 := K8.below h9 K8.lt
        replace W2 := W2.below h9
        replace W3 := W3.below h9
        have W4 := WR.of_own O4 (by have := HBw.out; omega)
        replace GB := GB.trans (h9.mono GB.size)
        clear h9 O4
        refine hK.out _ _ ⟨GB, K0, K10⟩ (fun hS => ?_)
        clear hK K
        refine wpAnyH_ready (rs := [7]) (by kernel_rfl) (by simp) ?_
        refine AllReadyH.cons rfl (fun K hK => ?_) AllReadyH.nil
        go_simp
        refine (HSw.out _ A3 n3 c3 A4 n4 c4 W3 W4).mono ?_
        rintro e2 w2 ⟨rfl, h9⟩
        replace K0 := K0.below h9 K0.lt
        replace K10 := K10.below h9 K10.lt
        replace K8 := K8.below h9 K8.lt
        replace W2 := W2.below h9
        replace W3 := W3.below h9
        replace GB := GB.trans (h9.mono GB.size)
        clear h9 W4
        refine hK.out _ _ ⟨GB, K0, K10⟩ (fun hS => ?_)
        clear hK K
        refine wpAnyH_take (i := 8) (v := .bool false) rfl (by kernel_rfl) (by kernel_rfl) (by kernel_rfl) (fun _ _ _ h => h) (Or.inl ⟨by kernel_rfl, fun u hSw => (by go_simp)⟩) hS ?_
        change wpAnyH _ _ _ _ _ _ _ (Act.put _ (some 105) _) _
        simp only [Act.put]
        try simp only [List.setIfInBounds_toArray, List.set_cons_zero, List.set_cons_succ]
        refine wpAnyH_take (i := 9) (v := .bool false) rfl (by kernel_rfl) (by kernel_rfl) (by kernel_rfl) (fun _ _ _ h => h) (Or.inl ⟨by kernel_rfl, fun u hSw => (by go_simp)⟩) hS ?_
        change wpAnyH _ _ _ _ _ _ _ (Act.put _ (some 106) _) _
        simp only [Act.put]
        try simp only [List.setIfInBounds_toArray, List.set_cons_zero, List.set_cons_succ]
        refine wpAnyH_done (by kernel_rfl) ?_ _
        clear hS
        go_upto_region 21 with fail
        clear K10
        have zK00 := K0.cell 0
        have zK01 := K0.cell 1
        have q1 : decide (id < 0) = false := HACC.out.1
        have q2 : decide (31 < id) = false := HACC.out.2.1
        have q3 : decide (tm ≤ now) = false := HACC.out.2.2.1
        have q4 : decide (1125899906842624 < tm) = false := HACC.out.2.2.2
        go_upto_region 23 with fail
        replace K0 : Blk w2.drew _ _ _ := K0
        replace K8 : Blk w2.drew _ _ _ := K8
        skip
        replace W2 := W2.drew
        replace W3 := W3.drew
        replace GB := GB.drew
        refine wp_region_held_drew (S := fun u => Below w.heap.size w u ∧ Blk u w.heap.size 24 #[.int .i64 now, .slice A n1 c] ∧ Blk u u3.heap.size 24 #[.int .i64 now, .slice A2 n2 c2]) (by kernel_rfl) ⟨GB, K0, K8⟩ (fun hS => ?_)
        generalize w2.drew = V at GB K0 K8  W2 W3 hS ⊢
        refine wpAnyH_take (i := 0) (v := .int .i64 0) rfl (by kernel_rfl) (by kernel_rfl) (by kernel_rfl) (fun _ _ _ h => h) (Or.inl ⟨by kernel_rfl, fun u hSw => (by go_simp)⟩) hS ?_
        change wpAnyH _ _ _ _ _ _ _ (Act.put _ (some 131) _) _
        simp only [Act.put]
        try simp only [List.setIfInBounds_toArray, List.set_cons_zero, List.set_cons_succ]
        refine wpAnyH_take (i := 1) (v := .bool true) rfl (by kernel_rfl) (by kernel_rfl) (by kernel_rfl) (fun _ _ _ h => h) (Or.inl ⟨by kernel_rfl, fun u hSw => (by go_simp)⟩) hS ?_
        change wpAnyH _ _ _ _ _ _ _ (Act.put _ (some 132) _) _
        simp only [Act.put]
        try simp only [List.setIfInBounds_toArray, List.set_cons_zero, List.set_cons_succ]
        refine wpAnyH_take (i := 2) (v := .bool true) rfl (by kernel_rfl) (by kernel_rfl) (by kernel_rfl) (fun _ _ _ h => h) (Or.inl ⟨by kernel_rfl, fun u hSw => (by go_simp)⟩) hS ?_
        change wpAnyH _ _ _ _ _ _ _ (Act.put _ (some 133) _) _
        simp only [Act.put]
        try simp only [List.setIfInBounds_toArray, List.set_cons_zero, List.set_cons_succ]
        refine wpAnyH_take (i := 3) (v := .agg #[.int .i64 now, .slice A2 n2 c2]) rfl (by kernel_rfl) (by kernel_rfl) (by kernel_rfl) (fun _ _ _ h => h) (Or.inl ⟨by kernel_rfl, fun u hSw => (by have q0 := hSw.2.2.cell 0; have q1 := hSw.2.2.cell 1; go_simp)⟩) hS ?_
        change wpAnyH _ _ _ _ _ _ _ (Act.put _ (some 134) _) _
        simp only [Act.put]
        try simp only [List.setIfInBounds_toArray, List.set_cons_zero, List.set_cons_succ]
        refine wpAnyH_take (i := 4) (v := .agg #[.int .i64 now, .slice A n1 c]) rfl (by kernel_rfl) (by kernel_rfl) (by kernel_rfl) (fun _ _ _ h => h) (Or.inl ⟨by kernel_rfl, fun u hSw => (by have q0 := hSw.2.1.cell 0; have q1 := hSw.2.1.cell 1; go_simp)⟩) hS ?_
        change wpAnyH _ _ _ _ _ _ _ (Act.put _ (some 135) _) _
        simp only [Act.put]
        try simp only [List.setIfInBounds_toArray, List.set_cons_zero, List.set_cons_succ]
        refine wpAnyH_take (i := 5) (v := .int .i64 id) rfl (by kernel_rfl) (by kernel_rfl) (by kernel_rfl) (fun _ _ _ h => h) (Or.inl ⟨by kernel_rfl, fun u hSw => (by go_simp)⟩) hS ?_
        change wpAnyH _ _ _ _ _ _ _ (Act.put _ (some 136) _) _
        simp only [Act.put]
        try simp only [List.setIfInBounds_toArray, List.set_cons_zero, List.set_cons_succ]
        refine wpAnyH_take (i := 6) (v := .int .i64 tm) rfl (by kernel_rfl) (by kernel_rfl) (by kernel_rfl) (fun _ _ _ h => h) (Or.inl ⟨by kernel_rfl, fun u hSw => (by go_simp)⟩) hS ?_
        change wpAnyH _ _ _ _ _ _ _ (Act.put _ (some 137) _) _
        simp only [Act.put]
        try simp only [List.setIfInBounds_toArray, List.set_cons_zero, List.set_cons_succ]
        refine wpAnyH_ready (rs := [7]) (by kernel_rfl) (by simp) ?_
        refine AllReadyH.cons rfl (fun K hK => ?_) AllReadyH.nil
        go_simp
        refine (HWi.out _ GB).mono ?_
        rintro e1 w1 ⟨A4, n4, c4, rfl, hl4, O4, h9⟩
        replace K0 := K0.below h9 K0.lt
        replace K8 := K8.below h9 K8.lt
        replace W2 := W2.below h9
        replace W3 := W3.below h9
        have W4 := WR.of_own O4 (by have := HBw1.out; omega)
        replace GB := GB.trans (h9.mono GB.size)
        clear h9 O4
        refine hK.out _ _ ⟨GB, K0, K8⟩ (fun hS => ?_)
        clear hK K
        refine wpAnyH_ready (rs := [8]) (by kernel_rfl) (by simp) ?_
        refine AllReadyH.cons rfl (fun K hK => ?_) AllReadyH.nil
        go_simp
        refine (HSw1.out _ A2 n2 c2 A4 n4 c4 W2 W4).mono ?_
        rintro e2 w2 ⟨rfl, h9⟩
        replace K0 := K0.below h9 K0.lt
        replace K8 := K8.below h9 K8.lt
        replace W2 := W2.below h9
        replace W3 := W3.below h9
        replace GB := GB.trans (h9.mono GB.size)
        clear h9 W4
        refine hK.out _ _ ⟨GB, K0, K8⟩ (fun hS => ?_)
        clear hK K
        refine wpAnyH_take (i := 9) (v := .bool true) rfl (by kernel_rfl) (by kernel_rfl) (by kernel_rfl) (fun _ _ _ h => h) (Or.inl ⟨by kernel_rfl, fun u hSw => (by go_simp)⟩) hS ?_
        change wpAnyH _ _ _ _ _ _ _ (Act.put _ (some 140) _) _
        simp only [Act.put]
        try simp only [List.setIfInBounds_toArray, List.set_cons_zero, List.set_cons_succ]
        refine wpAnyH_take (i := 10) (v := .bool true) rfl (by kernel_rfl) (by kernel_rfl) (by kernel_rfl) (fun _ _ _ h => h) (Or.inl ⟨by kernel_rfl, fun u hSw => (by go_simp)⟩) hS ?_
        change wpAnyH _ _ _ _ _ _ _ (Act.put _ (some 6) _) _
        simp only [Act.put]
        try simp only [List.setIfInBounds_toArray, List.set_cons_zero, List.set_cons_succ]
        refine wpAnyH_done (by kernel_rfl) ?_ _
        clear hS
        go_wp2_with fail
        go_ret
        exact ⟨rfl, GB⟩
      · rw [hv] at HAt
        rw [hp] at HAd
        rw [show cancelV now ts id = ((0, []), 4) from by unfold cancelV amongV; rw [if_pos hc, hm]; simp] at HCa
        obtain ⟨ny2, hny2⟩ : ∃ ny2 : Int, ny2 = 0 := ⟨0, rfl⟩
        rw [← hny2] at HCa
        have HB3 : Hid (([] : List Tm).length ≤ 1000) := Lib.hid (by simp)
        clear hc hm hv hG hLn hlw hRt h0 h1 hp hny2 hLw hL0
        go_enter Try.func3, Try.ntmps3
        go_wp2_with fail
        refine (HWk.out _).mono ?_
        rintro e u1 ⟨rfl, h9⟩
        replace K0 := K0.below h9 K0.lt
        replace GB := GB.trans (h9.mono GB.size)
        clear h9 
        have zK00 := K0.cell 0
        have zK01 := K0.cell 1
        go_wp2_with fail
        refine (HCo.out _ GB).mono ?_
        rintro e u2 ⟨A1, n1, c1, rfl, hl1, O1, h9⟩
        obtain rfl : n1 = n := hl1.symm.trans HL.out
        have W1 := WR.of_own O1 hn9
        replace K0 := K0.below h9 K0.lt
        replace GB := GB.trans (h9.mono GB.size)
        clear zK00 zK01
        clear h9 O1 hl1
        have K7 := Blk.new u2 24 #[.int .i64 now, .slice A1 n1 c1]
        have g7l : w.heap.size < u2.heap.size := K0.lt
        replace K0 := K0.alloc (.cells #[.int .i64 now, .slice A1 n1 c1] 24)
        replace W1 := W1.below ((Below.refl _ _).alloc (Nat.le_refl _) (.cells #[.int .i64 now, .slice A1 n1 c1] 24))
        replace GB := GB.alloc GB.size (.cells #[.int .i64 now, .slice A1 n1 c1] 24)
        have zK70 := K7.cell 0
        have zK71 := K7.cell 1
        go_wp2_with fail
        refine (HSe.out _ A1 c1 W1).mono ?_
        rintro e u3 ⟨A2, n2, c2, rfl, hl2, O2, h9⟩
        replace K0 := K0.below h9 K0.lt
        replace K7 := K7.below h9 K7.lt
        replace W1 := W1.below h9
        have W2 := WR.of_own O2 (by dsimp only at hl2; have := HB2.out; omega)
        replace GB := GB.trans (h9.mono GB.size)
        clear h9 O2
        dsimp only at hl2
        clear zK70 zK71
        have K8 := Blk.new u3 24 #[.int .i64 now, .slice A2 n2 c2]
        have g8l : w.heap.size < u3.heap.size := K0.lt
        replace K0 := K0.alloc (.cells #[.int .i64 now, .slice A2 n2 c2] 24)
        replace K7 := K7.alloc (.cells #[.int .i64 now, .slice A2 n2 c2] 24)
        replace W1 := W1.below ((Below.refl _ _).alloc (Nat.le_refl _) (.cells #[.int .i64 now, .slice A2 n2 c2] 24))
        replace W2 := W2.below ((Below.refl _ _).alloc (Nat.le_refl _) (.cells #[.int .i64 now, .slice A2 n2 c2] 24))
        replace GB := GB.alloc GB.size (.cells #[.int .i64 now, .slice A2 n2 c2] 24)
        have zK70 := K7.cell 0
        have zK71 := K7.cell 1
        go_wp2_with fail
        refine (HCa.out _ A1 c1 W1).mono ?_
        rintro e u4 ⟨A3, n3, c3, rfl, hl3, O3, h9⟩
        replace K0 := K0.below h9 K0.lt
        replace K7 := K7.below h9 K7.lt
        replace K8 := K8.below h9 K8.lt
        replace W1 := W1.below h9
        replace W2 := W2.below h9
        have W3 := WR.of_own O3 (by dsimp only at hl3; have := HB3.out; omega)
        replace GB := GB.trans (h9.mono GB.size)
        clear h9 O3
        dsimp only at hl3
        clear zK70 zK71
        have K10 := Blk.new u4 24 #[.int .i64 ny2, .slice A3 n3 c3]
        have g10l : w.heap.size < u4.heap.size := K0.lt
        replace K0 := K0.alloc (.cells #[.int .i64 ny2, .slice A3 n3 c3] 24)
        replace K7 := K7.alloc (.cells #[.int .i64 ny2, .slice A3 n3 c3] 24)
        replace K8 := K8.alloc (.cells #[.int .i64 ny2, .slice A3 n3 c3] 24)
        replace W1 := W1.below ((Below.refl _ _).alloc (Nat.le_refl _) (.cells #[.int .i64 ny2, .slice A3 n3 c3] 24))
        replace W2 := W2.below ((Below.refl _ _).alloc (Nat.le_refl _) (.cells #[.int .i64 ny2, .slice A3 n3 c3] 24))
        replace W3 := W3.below ((Below.refl _ _).alloc (Nat.le_refl _) (.cells #[.int .i64 ny2, .slice A3 n3 c3] 24))
        replace GB := GB.alloc GB.size (.cells #[.int .i64 ny2, .slice A3 n3 c3] 24)
        have zK70 := K7.cell 0
        have zK71 := K7.cell 1
        go_wp2_with fail
        refine (HAt.out _ A1 c1 W1).mono ?_
        rintro e u5 ⟨rfl, h9⟩
        replace K0 := K0.below h9 K0.lt
        replace K7 := K7.below h9 K7.lt
        replace K8 := K8.below h9 K8.lt
        replace K10 := K10.below h9 K10.lt
        replace W1 := W1.below h9
        replace W2 := W2.below h9
        replace W3 := W3.below h9
        replace GB := GB.trans (h9.mono GB.size)
        clear h9 zK70 zK71
        have zK70 := K7.cell 0
        have zK71 := K7.cell 1
        have zK00 := K0.cell 0
        have zK01 := K0.cell 1
        go_wp2_with fail
        refine (HSm.out _ A1 c1 W1 GB).mono ?_
        rintro e u6 ⟨rfl, h9⟩
        replace K0 := K0.below h9 K0.lt
        replace K7 := K7.below h9 K7.lt
        replace K8 := K8.below h9 K8.lt
        replace K10 := K10.below h9 K10.lt
        replace W1 := W1.below h9
        replace W2 := W2.below h9
        replace W3 := W3.below h9
        replace GB := GB.trans (h9.mono GB.size)
        clear h9 zK70 zK71 zK00 zK01
        have zK00 := K0.cell 0
        have zK01 := K0.cell 1
        go_wp2_with fail
        refine (HRi.out _ GB).mono ?_
        rintro e u7 ⟨rfl, h9⟩
        replace K0 := K0.below h9 K0.lt
        replace K8 := K8.below h9 K8.lt
        replace K10 := K10.below h9 K10.lt
        replace W2 := W2.below h9
        replace W3 := W3.below h9
        replace GB := GB.trans (h9.mono GB.size)
        clear h9 zK00 zK01 W1 K7
        obtain rfl : n3 = 0 := by simpa using hl3.symm
        have zK00 := K0.cell 0
        have zK01 := K0.cell 1
        go_wp2_with fail
        refine (HAd.out _ GB).mono ?_
        rintro e u8 ⟨rfl, h9⟩
        replace K0 := K0.below h9 K0.lt
        replace K8 := K8.below h9 K8.lt
        replace K10 := K10.below h9 K10.lt
        replace W2 := W2.below h9
        replace W3 := W3.below h9
        replace GB := GB.trans (h9.mono GB.size)
        clear h9 zK00 zK01
        have zK100 := K10.cell 0
        have zK101 := K10.cell 1
        go_upto_region 21 with fail
        clear zK100 zK101 K10
        have zK00 := K0.cell 0
        have zK01 := K0.cell 1
        have q1 : decide (id < 0) = false := HACC.out.1
        have q2 : decide (31 < id) = false := HACC.out.2.1
        have q3 : decide (tm ≤ now) = false := HACC.out.2.2.1
        have q4 : decide (1125899906842624 < tm) = false := HACC.out.2.2.2
        go_upto_region 23 with fail
        replace K0 : Blk u8.drew _ _ _ := K0
        replace K8 : Blk u8.drew _ _ _ := K8
        skip
        replace W2 := W2.drew
        replace W3 := W3.drew
        replace GB := GB.drew
        refine wp_region_held_drew (S := fun u => Below w.heap.size w u ∧ Blk u w.heap.size 24 #[.int .i64 now, .slice A n1 c] ∧ Blk u u3.heap.size 24 #[.int .i64 now, .slice A2 n2 c2]) (by kernel_rfl) ⟨GB, K0, K8⟩ (fun hS => ?_)
        generalize u8.drew = V at GB K0 K8  W2 W3 hS ⊢
        refine wpAnyH_take (i := 0) (v := .int .i64 0) rfl (by kernel_rfl) (by kernel_rfl) (by kernel_rfl) (fun _ _ _ h => h) (Or.inl ⟨by kernel_rfl, fun u hSw => (by go_simp)⟩) hS ?_
        change wpAnyH _ _ _ _ _ _ _ (Act.put _ (some 131) _) _
        simp only [Act.put]
        try simp only [List.setIfInBounds_toArray, List.set_cons_zero, List.set_cons_succ]
        refine wpAnyH_take (i := 1) (v := .bool true) rfl (by kernel_rfl) (by kernel_rfl) (by kernel_rfl) (fun _ _ _ h => h) (Or.inl ⟨by kernel_rfl, fun u hSw => (by go_simp)⟩) hS ?_
        change wpAnyH _ _ _ _ _ _ _ (Act.put _ (some 132) _) _
        simp only [Act.put]
        try simp only [List.setIfInBounds_toArray, List.set_cons_zero, List.set_cons_succ]
        refine wpAnyH_take (i := 2) (v := .bool true) rfl (by kernel_rfl) (by kernel_rfl) (by kernel_rfl) (fun _ _ _ h => h) (Or.inl ⟨by kernel_rfl, fun u hSw => (by go_simp)⟩) hS ?_
        change wpAnyH _ _ _ _ _ _ _ (Act.put _ (some 133) _) _
        simp only [Act.put]
        try simp only [List.setIfInBounds_toArray, List.set_cons_zero, List.set_cons_succ]
        refine wpAnyH_take (i := 3) (v := .agg #[.int .i64 now, .slice A2 n2 c2]) rfl (by kernel_rfl) (by kernel_rfl) (by kernel_rfl) (fun _ _ _ h => h) (Or.inl ⟨by kernel_rfl, fun u hSw => (by have q0 := hSw.2.2.cell 0; have q1 := hSw.2.2.cell 1; go_simp)⟩) hS ?_
        change wpAnyH _ _ _ _ _ _ _ (Act.put _ (some 134) _) _
        simp only [Act.put]
        try simp only [List.setIfInBounds_toArray, List.set_cons_zero, List.set_cons_succ]
        refine wpAnyH_take (i := 4) (v := .agg #[.int .i64 now, .slice A n1 c]) rfl (by kernel_rfl) (by kernel_rfl) (by kernel_rfl) (fun _ _ _ h => h) (Or.inl ⟨by kernel_rfl, fun u hSw => (by have q0 := hSw.2.1.cell 0; have q1 := hSw.2.1.cell 1; go_simp)⟩) hS ?_
        change wpAnyH _ _ _ _ _ _ _ (Act.put _ (some 135) _) _
        simp only [Act.put]
        try simp only [List.setIfInBounds_toArray, List.set_cons_zero, List.set_cons_succ]
        refine wpAnyH_take (i := 5) (v := .int .i64 id) rfl (by kernel_rfl) (by kernel_rfl) (by kernel_rfl) (fun _ _ _ h => h) (Or.inl ⟨by kernel_rfl, fun u hSw => (by go_simp)⟩) hS ?_
        change wpAnyH _ _ _ _ _ _ _ (Act.put _ (some 136) _) _
        simp only [Act.put]
        try simp only [List.setIfInBounds_toArray, List.set_cons_zero, List.set_cons_succ]
        refine wpAnyH_take (i := 6) (v := .int .i64 tm) rfl (by kernel_rfl) (by kernel_rfl) (by kernel_rfl) (fun _ _ _ h => h) (Or.inl ⟨by kernel_rfl, fun u hSw => (by go_simp)⟩) hS ?_
        change wpAnyH _ _ _ _ _ _ _ (Act.put _ (some 137) _) _
        simp only [Act.put]
        try simp only [List.setIfInBounds_toArray, List.set_cons_zero, List.set_cons_succ]
        refine wpAnyH_ready (rs := [7]) (by kernel_rfl) (by simp) ?_
        refine AllReadyH.cons rfl (fun K hK => ?_) AllReadyH.nil
        go_simp
        refine (HWi.out _ GB).mono ?_
        rintro e1 w1 ⟨A4, n4, c4, rfl, hl4, O4, h9⟩
        replace K0 := K0.below h9 K0.lt
        replace K8 := K8.below h9 K8.lt
        replace W2 := W2.below h9
        replace W3 := W3.below h9
        have W4 := WR.of_own O4 (by have := HBw1.out; omega)
        replace GB := GB.trans (h9.mono GB.size)
        clear h9 O4
        refine hK.out _ _ ⟨GB, K0, K8⟩ (fun hS => ?_)
        clear hK K
        refine wpAnyH_ready (rs := [8]) (by kernel_rfl) (by simp) ?_
        refine AllReadyH.cons rfl (fun K hK => ?_) AllReadyH.nil
        go_simp
        refine (HSw1.out _ A2 n2 c2 A4 n4 c4 W2 W4).mono ?_
        rintro e2 w2 ⟨rfl, h9⟩
        replace K0 := K0.below h9 K0.lt
        replace K8 := K8.below h9 K8.lt
        replace W2 := W2.below h9
        replace W3 := W3.below h9
        replace GB := GB.trans (h9.mono GB.size)
        clear h9 W4
        refine hK.out _ _ ⟨GB, K0, K8⟩ (fun hS => ?_)
        clear hK K
        refine wpAnyH_take (i := 9) (v := .bool true) rfl (by kernel_rfl) (by kernel_rfl) (by kernel_rfl) (fun _ _ _ h => h) (Or.inl ⟨by kernel_rfl, fun u hSw => (by go_simp)⟩) hS ?_
        change wpAnyH _ _ _ _ _ _ _ (Act.put _ (some 140) _) _
        simp only [Act.put]
        try simp only [List.setIfInBounds_toArray, List.set_cons_zero, List.set_cons_succ]
        refine wpAnyH_take (i := 10) (v := .bool true) rfl (by kernel_rfl) (by kernel_rfl) (by kernel_rfl) (fun _ _ _ h => h) (Or.inl ⟨by kernel_rfl, fun u hSw => (by go_simp)⟩) hS ?_
        change wpAnyH _ _ _ _ _ _ _ (Act.put _ (some 6) _) _
        simp only [Act.put]
        try simp only [List.setIfInBounds_toArray, List.set_cons_zero, List.set_cons_succ]
        refine wpAnyH_done (by kernel_rfl) ?_ _
        clear hS
        go_wp2_with fail
        go_ret
        exact ⟨rfl, GB⟩
    | false =>
      have HREF : Hid (id < 0 ∨ (¬ id < 0 ∧ 31 < id) ∨ (¬ id < 0 ∧ ¬ 31 < id ∧ tm ≤ now) ∨ (¬ id < 0 ∧ ¬ 31 < id ∧ ¬ tm ≤ now ∧ 1125899906842624 < tm)) := Lib.hid (by
        by_cases g1 : id < 0
        · exact .inl g1
        · by_cases g2 : 31 < id
          · exact .inr (.inl ⟨g1, g2⟩)
          · by_cases g3 : tm ≤ now
            · exact .inr (.inr (.inl ⟨g1, g2, g3⟩))
            · refine .inr (.inr (.inr ⟨g1, g2, g3, ?_⟩))
              apply Classical.byContradiction
              intro g4
              rw [show tmB now (id, tm) = true from tmB_iff.2 ⟨by dsimp only; omega, by dsimp only; omega, by dsimp only; omega, by dsimp only; omega⟩] at ha
              cases ha)
      rw [show setV now ts id tm = ((0, []), 2) from by unfold setV; rw [if_pos hc, ha]; rfl] at HSe
      obtain ⟨nz, hnz⟩ : ∃ nz : Int, nz = 0 := ⟨0, rfl⟩
      rw [← hnz] at HSe
      have HB2 : Hid (([] : List Tm).length ≤ 1000) := Lib.hid (by simp)
      clear ha hnz
      rcases at_both (id := id) hc with ⟨hm, hp, hv⟩ | ⟨hm, hp, hv⟩
      · obtain ⟨v, hvv⟩ : ∃ v, atD id ts = v := ⟨_, rfl⟩
        rw [hv, hvv] at HAt
        rw [hvv] at HAd hp
        have HLe : (ts.eraseIdx (lowK (·.1) ts id)).length ≤ 1000 := by have := List.length_eraseIdx_le ts (lowK (·.1) ts id); omega
        rw [show cancelV now ts id = ((now, ts.eraseIdx (lowK (·.1) ts id)), 0) from by unfold cancelV amongV; rw [if_pos hc, if_pos hm]; rfl, with_none h0 hRt hm, hL0] at HCa
        rw [with_none h0 hRt hm, hL0] at HLe
        have HB3 : Hid (L0.length ≤ 1000) := Lib.hid HLe
        have HBw : Hid (L0.length ≤ 1000) := Lib.hid HLe
        have HSw := Lib.hid (fun (u : World) (A' : Option Addr) (n' c' : Nat) (B' : Option Addr) (m' d' : Nat) (h : WR u A' n' L0) (h' : WR u B' m' L0) => rsame_any now now A' B' n' c' m' d' _ _ u h h')
        rw [sameW_refl] at HSw
        have p1 : decide (0 < v) = true := decide_eq_true hp
        have p2 : (v == 0) = false := by simp; omega
        have p3 : (v != v) = false := by simp
        clear hc hm hv hvv HLe hG hLn hlw hRt h0 h1 hp hLw hL0
        go_enter Try.func3, Try.ntmps3
        go_wp2_with fail
        refine (HWk.out _).mono ?_
        rintro e u1 ⟨rfl, h9⟩
        replace K0 := K0.below h9 K0.lt
        replace GB := GB.trans (h9.mono GB.size)
        clear h9 
        have zK00 := K0.cell 0
        have zK01 := K0.cell 1
        go_wp2_with fail
        refine (HCo.out _ GB).mono ?_
        rintro e u2 ⟨A1, n1, c1, rfl, hl1, O1, h9⟩
        obtain rfl : n1 = n := hl1.symm.trans HL.out
        have W1 := WR.of_own O1 hn9
        replace K0 := K0.below h9 K0.lt
        replace GB := GB.trans (h9.mono GB.size)
        clear zK00 zK01
        clear h9 O1 hl1
        have K7 := Blk.new u2 24 #[.int .i64 now, .slice A1 n1 c1]
        have g7l : w.heap.size < u2.heap.size := K0.lt
        replace K0 := K0.alloc (.cells #[.int .i64 now, .slice A1 n1 c1] 24)
        replace W1 := W1.below ((Below.refl _ _).alloc (Nat.le_refl _) (.cells #[.int .i64 now, .slice A1 n1 c1] 24))
        replace GB := GB.alloc GB.size (.cells #[.int .i64 now, .slice A1 n1 c1] 24)
        have zK70 := K7.cell 0
        have zK71 := K7.cell 1
        go_wp2_with fail
        refine (HSe.out _ A1 c1 W1).mono ?_
        rintro e u3 ⟨A2, n2, c2, rfl, hl2, O2, h9⟩
        replace K0 := K0.below h9 K0.lt
        replace K7 := K7.below h9 K7.lt
        replace W1 := W1.below h9
        have W2 := WR.of_own O2 (by dsimp only at hl2; have := HB2.out; omega)
        replace GB := GB.trans (h9.mono GB.size)
        clear h9 O2
        dsimp only at hl2
        clear zK70 zK71
        have K8 := Blk.new u3 24 #[.int .i64 nz, .slice A2 n2 c2]
        have g8l : w.heap.size < u3.heap.size := K0.lt
        replace K0 := K0.alloc (.cells #[.int .i64 nz, .slice A2 n2 c2] 24)
        replace K7 := K7.alloc (.cells #[.int .i64 nz, .slice A2 n2 c2] 24)
        replace W1 := W1.below ((Below.refl _ _).alloc (Nat.le_refl _) (.cells #[.int .i64 nz, .slice A2 n2 c2] 24))
        replace W2 := W2.below ((Below.refl _ _).alloc (Nat.le_refl _) (.cells #[.int .i64 nz, .slice A2 n2 c2] 24))
        replace GB := GB.alloc GB.size (.cells #[.int .i64 nz, .slice A2 n2 c2] 24)
        have zK70 := K7.cell 0
        have zK71 := K7.cell 1
        go_wp2_with fail
        refine (HCa.out _ A1 c1 W1).mono ?_
        rintro e u4 ⟨A3, n3, c3, rfl, hl3, O3, h9⟩
        replace K0 := K0.below h9 K0.lt
        replace K7 := K7.below h9 K7.lt
        replace K8 := K8.below h9 K8.lt
        replace W1 := W1.below h9
        replace W2 := W2.below h9
        have W3 := WR.of_own O3 (by dsimp only at hl3; have := HB3.out; omega)
        replace GB := GB.trans (h9.mono GB.size)
        clear h9 O3
        dsimp only at hl3
        clear zK70 zK71
        have K10 := Blk.new u4 24 #[.int .i64 now, .slice A3 n3 c3]
        have g10l : w.heap.size < u4.heap.size := K0.lt
        replace K0 := K0.alloc (.cells #[.int .i64 now, .slice A3 n3 c3] 24)
        replace K7 := K7.alloc (.cells #[.int .i64 now, .slice A3 n3 c3] 24)
        replace K8 := K8.alloc (.cells #[.int .i64 now, .slice A3 n3 c3] 24)
        replace W1 := W1.below ((Below.refl _ _).alloc (Nat.le_refl _) (.cells #[.int .i64 now, .slice A3 n3 c3] 24))
        replace W2 := W2.below ((Below.refl _ _).alloc (Nat.le_refl _) (.cells #[.int .i64 now, .slice A3 n3 c3] 24))
        replace W3 := W3.below ((Below.refl _ _).alloc (Nat.le_refl _) (.cells #[.int .i64 now, .slice A3 n3 c3] 24))
        replace GB := GB.alloc GB.size (.cells #[.int .i64 now, .slice A3 n3 c3] 24)
        have zK70 := K7.cell 0
        have zK71 := K7.cell 1
        go_wp2_with fail
        refine (HAt.out _ A1 c1 W1).mono ?_
        rintro e u5 ⟨rfl, h9⟩
        replace K0 := K0.below h9 K0.lt
        replace K7 := K7.below h9 K7.lt
        replace K8 := K8.below h9 K8.lt
        replace K10 := K10.below h9 K10.lt
        replace W1 := W1.below h9
        replace W2 := W2.below h9
        replace W3 := W3.below h9
        replace GB := GB.trans (h9.mono GB.size)
        clear h9 zK70 zK71
        have zK70 := K7.cell 0
        have zK71 := K7.cell 1
        have zK00 := K0.cell 0
        have zK01 := K0.cell 1
        go_wp2_with fail
        refine (HSm.out _ A1 c1 W1 GB).mono ?_
        rintro e u6 ⟨rfl, h9⟩
        replace K0 := K0.below h9 K0.lt
        replace K7 := K7.below h9 K7.lt
        replace K8 := K8.below h9 K8.lt
        replace K10 := K10.below h9 K10.lt
        replace W1 := W1.below h9
        replace W2 := W2.below h9
        replace W3 := W3.below h9
        replace GB := GB.trans (h9.mono GB.size)
        clear h9 zK70 zK71 zK00 zK01
        have zK00 := K0.cell 0
        have zK01 := K0.cell 1
        go_wp2_with fail
        refine (HRi.out _ GB).mono ?_
        rintro e u7 ⟨rfl, h9⟩
        replace K0 := K0.below h9 K0.lt
        replace K8 := K8.below h9 K8.lt
        replace K10 := K10.below h9 K10.lt
        replace W2 := W2.below h9
        replace W3 := W3.below h9
        replace GB := GB.trans (h9.mono GB.size)
        clear h9 zK00 zK01 W1 K7
        have zK100 := K10.cell 0
        have zK101 := K10.cell 1
        clear zK100 zK101
        obtain rfl : n2 = 0 := by simpa using hl2.symm
        have zK00 := K0.cell 0
        have zK01 := K0.cell 1
        go_wp2_with fail
        refine (HAd.out _ GB).mono ?_
        rintro e u8 ⟨rfl, h9⟩
        replace K0 := K0.below h9 K0.lt
        replace K8 := K8.below h9 K8.lt
        replace K10 := K10.below h9 K10.lt
        replace W2 := W2.below h9
        replace W3 := W3.below h9
        replace GB := GB.trans (h9.mono GB.size)
        clear h9 zK00 zK01
        go_upto_region 19 with fail
        replace K0 : Blk u8.drew _ _ _ := K0
        replace K8 : Blk u8.drew _ _ _ := K8
        replace K10 : Blk u8.drew _ _ _ := K10
        replace W2 := W2.drew
        replace W3 := W3.drew
        replace GB := GB.drew
        refine wp_region_held_drew (S := fun u => Below w.heap.size w u ∧ Blk u w.heap.size 24 #[.int .i64 now, .slice A n1 c] ∧ Blk u u4.heap.size 24 #[.int .i64 now, .slice A3 n3 c3]) (by kernel_rfl) ⟨GB, K0, K10⟩ (fun hS => ?_)
        generalize u8.drew = V at GB K0 K8 K10 W2 W3 hS ⊢
        refine wpAnyH_take (i := 0) (v := .int .i64 0) rfl (by kernel_rfl) (by kernel_rfl) (by kernel_rfl) (fun _ _ _ h => h) (Or.inl ⟨by kernel_rfl, fun u hSw => (by go_simp)⟩) hS ?_
        change wpAnyH _ _ _ _ _ _ _ (Act.put _ (some 97) _) _
        simp only [Act.put]
        try simp only [List.setIfInBounds_toArray, List.set_cons_zero, List.set_cons_succ]
        refine wpAnyH_take (i := 1) (v := .bool false) rfl (by kernel_rfl) (by kernel_rfl) (by kernel_rfl) (fun _ _ _ h => h) (Or.inl ⟨by kernel_rfl, fun u hSw => (by go_simp)⟩) hS ?_
        change wpAnyH _ _ _ _ _ _ _ (Act.put _ (some 98) _) _
        simp only [Act.put]
        try simp only [List.setIfInBounds_toArray, List.set_cons_zero, List.set_cons_succ]
        refine wpAnyH_take (i := 2) (v := .bool false) rfl (by kernel_rfl) (by kernel_rfl) (by kernel_rfl) (fun _ _ _ h => h) (Or.inl ⟨by kernel_rfl, fun u hSw => (by go_simp)⟩) hS ?_
        change wpAnyH _ _ _ _ _ _ _ (Act.put _ (some 99) _) _
        simp only [Act.put]
        try simp only [List.setIfInBounds_toArray, List.set_cons_zero, List.set_cons_succ]
        refine wpAnyH_take (i := 3) (v := .agg #[.int .i64 now, .slice A3 n3 c3]) rfl (by kernel_rfl) (by kernel_rfl) (by kernel_rfl) (fun _ _ _ h => h) (Or.inl ⟨by kernel_rfl, fun u hSw => (by have q0 := hSw.2.2.cell 0; have q1 := hSw.2.2.cell 1; go_simp)⟩) hS ?_
        change wpAnyH _ _ _ _ _ _ _ (Act.put _ (some 100) _) _
        simp only [Act.put]
        try simp only [List.setIfInBounds_toArray, List.set_cons_zero, List.set_cons_succ]
        refine wpAnyH_take (i := 4) (v := .agg #[.int .i64 now, .slice A n1 c]) rfl (by kernel_rfl) (by kernel_rfl) (by kernel_rfl) (fun _ _ _ h => h) (Or.inl ⟨by kernel_rfl, fun u hSw => (by have q0 := hSw.2.1.cell 0; have q1 := hSw.2.1.cell 1; go_simp)⟩) hS ?_
        change wpAnyH _ _ _ _ _ _ _ (Act.put _ (some 101) _) _
        simp only [Act.put]
        try simp only [List.setIfInBounds_toArray, List.set_cons_zero, List.set_cons_succ]
        refine wpAnyH_take (i := 5) (v := .int .i64 id) rfl (by kernel_rfl) (by kernel_rfl) (by kernel_rfl) (fun _ _ _ h => h) (Or.inl ⟨by kernel_rfl, fun u hSw => (by go_simp)⟩) hS ?_
        change wpAnyH _ _ _ _ _ _ _ (Act.put _ (some 102) _) _
        simp only [Act.put]
        try simp only [List.setIfInBounds_toArray, List.set_cons_zero, List.set_cons_succ]
        refine wpAnyH_ready (rs := [6]) (by kernel_rfl) (by simp) ?_
        refine AllReadyH.cons rfl (fun K hK => ?_) AllReadyH.nil
        go_simp
        refine (HWn.out _ GB).mono ?_
        rintro e1 w1 ⟨A4, n4, c4, rfl, hl4, O4, h9⟩
        replace K0 := K0.below h9 K0.lt
        replace K10 := K10.below h9 K10.lt
        replace K8 := K8.below h9 K8.lt
        replace W2 := W2.below h9
        replace W3 := W3.below h9
        have W4 := WR.of_own O4 (by have := HBw.out; omega)
        replace GB := GB.trans (h9.mono GB.size)
        clear h9 O4
        refine hK.out _ _ ⟨GB, K0, K10⟩ (fun hS => ?_)
        clear hK K
        refine wpAnyH_ready (rs := [7]) (by kernel_rfl) (by simp) ?_
        refine AllReadyH.cons rfl (fun K hK => ?_) AllReadyH.nil
        go_simp
        refine (HSw.out _ A3 n3 c3 A4 n4 c4 W3 W4).mono ?_
        rintro e2 w2 ⟨rfl, h9⟩
        replace K0 := K0.below h9 K0.lt
        replace K10 := K10.below h9 K10.lt
        replace K8 := K8.below h9 K8.lt
        replace W2 := W2.below h9
        replace W3 := W3.below h9
        replace GB := GB.trans (h9.mono GB.size)
        clear h9 W4
        refine hK.out _ _ ⟨GB, K0, K10⟩ (fun hS => ?_)
        clear hK K
        refine wpAnyH_take (i := 8) (v := .bool false) rfl (by kernel_rfl) (by kernel_rfl) (by kernel_rfl) (fun _ _ _ h => h) (Or.inl ⟨by kernel_rfl, fun u hSw => (by go_simp)⟩) hS ?_
        change wpAnyH _ _ _ _ _ _ _ (Act.put _ (some 105) _) _
        simp only [Act.put]
        try simp only [List.setIfInBounds_toArray, List.set_cons_zero, List.set_cons_succ]
        refine wpAnyH_take (i := 9) (v := .bool false) rfl (by kernel_rfl) (by kernel_rfl) (by kernel_rfl) (fun _ _ _ h => h) (Or.inl ⟨by kernel_rfl, fun u hSw => (by go_simp)⟩) hS ?_
        change wpAnyH _ _ _ _ _ _ _ (Act.put _ (some 106) _) _
        simp only [Act.put]
        try simp only [List.setIfInBounds_toArray, List.set_cons_zero, List.set_cons_succ]
        refine wpAnyH_done (by kernel_rfl) ?_ _
        clear hS
        go_upto_region 21 with fail
        clear K10
        have zK00 := K0.cell 0
        have zK01 := K0.cell 1
        have zK80 := K8.cell 0
        have zK81 := K8.cell 1
        rcases HREF.out with h | ⟨h1, h⟩ | ⟨h1, h2, h⟩ | ⟨h1, h2, h3, h⟩
        · have q1 : decide (id < 0) = true := decide_eq_true h
          clear h
          go_wp2_with fail
          go_ret
          exact ⟨rfl, GB⟩
        · have q1 : decide (id < 0) = false := decide_eq_false (by omega)
          have q2 : decide (31 < id) = true := decide_eq_true h
          clear h h1
          go_wp2_with fail
          go_ret
          exact ⟨rfl, GB⟩
        · have q1 : decide (id < 0) = false := decide_eq_false (by omega)
          have q2 : decide (31 < id) = false := decide_eq_false (by omega)
          have q3 : decide (tm ≤ now) = true := decide_eq_true h
          clear h h1 h2
          go_wp2_with fail
          go_ret
          exact ⟨rfl, GB⟩
        · have q1 : decide (id < 0) = false := decide_eq_false (by omega)
          have q2 : decide (31 < id) = false := decide_eq_false (by omega)
          have q3 : decide (tm ≤ now) = false := decide_eq_false (by omega)
          have q4 : decide (1125899906842624 < tm) = true := decide_eq_true h
          clear h h1 h2 h3
          go_wp2_with fail
          go_ret
          exact ⟨rfl, GB⟩

      · rw [hv] at HAt
        rw [hp] at HAd
        rw [show cancelV now ts id = ((0, []), 4) from by unfold cancelV amongV; rw [if_pos hc, hm]; simp] at HCa
        obtain ⟨ny2, hny2⟩ : ∃ ny2 : Int, ny2 = 0 := ⟨0, rfl⟩
        rw [← hny2] at HCa
        have HB3 : Hid (([] : List Tm).length ≤ 1000) := Lib.hid (by simp)
        clear hc hm hv hG hLn hlw hRt h0 h1 hp hny2 hLw hL0
        go_enter Try.func3, Try.ntmps3
        go_wp2_with fail
        refine (HWk.out _).mono ?_
        rintro e u1 ⟨rfl, h9⟩
        replace K0 := K0.below h9 K0.lt
        replace GB := GB.trans (h9.mono GB.size)
        clear h9 
        have zK00 := K0.cell 0
        have zK01 := K0.cell 1
        go_wp2_with fail
        refine (HCo.out _ GB).mono ?_
        rintro e u2 ⟨A1, n1, c1, rfl, hl1, O1, h9⟩
        obtain rfl : n1 = n := hl1.symm.trans HL.out
        have W1 := WR.of_own O1 hn9
        replace K0 := K0.below h9 K0.lt
        replace GB := GB.trans (h9.mono GB.size)
        clear zK00 zK01
        clear h9 O1 hl1
        have K7 := Blk.new u2 24 #[.int .i64 now, .slice A1 n1 c1]
        have g7l : w.heap.size < u2.heap.size := K0.lt
        replace K0 := K0.alloc (.cells #[.int .i64 now, .slice A1 n1 c1] 24)
        replace W1 := W1.below ((Below.refl _ _).alloc (Nat.le_refl _) (.cells #[.int .i64 now, .slice A1 n1 c1] 24))
        replace GB := GB.alloc GB.size (.cells #[.int .i64 now, .slice A1 n1 c1] 24)
        have zK70 := K7.cell 0
        have zK71 := K7.cell 1
        go_wp2_with fail
        refine (HSe.out _ A1 c1 W1).mono ?_
        rintro e u3 ⟨A2, n2, c2, rfl, hl2, O2, h9⟩
        replace K0 := K0.below h9 K0.lt
        replace K7 := K7.below h9 K7.lt
        replace W1 := W1.below h9
        have W2 := WR.of_own O2 (by dsimp only at hl2; have := HB2.out; omega)
        replace GB := GB.trans (h9.mono GB.size)
        clear h9 O2
        dsimp only at hl2
        clear zK70 zK71
        have K8 := Blk.new u3 24 #[.int .i64 nz, .slice A2 n2 c2]
        have g8l : w.heap.size < u3.heap.size := K0.lt
        replace K0 := K0.alloc (.cells #[.int .i64 nz, .slice A2 n2 c2] 24)
        replace K7 := K7.alloc (.cells #[.int .i64 nz, .slice A2 n2 c2] 24)
        replace W1 := W1.below ((Below.refl _ _).alloc (Nat.le_refl _) (.cells #[.int .i64 nz, .slice A2 n2 c2] 24))
        replace W2 := W2.below ((Below.refl _ _).alloc (Nat.le_refl _) (.cells #[.int .i64 nz, .slice A2 n2 c2] 24))
        replace GB := GB.alloc GB.size (.cells #[.int .i64 nz, .slice A2 n2 c2] 24)
        have zK70 := K7.cell 0
        have zK71 := K7.cell 1
        go_wp2_with fail
        refine (HCa.out _ A1 c1 W1).mono ?_
        rintro e u4 ⟨A3, n3, c3, rfl, hl3, O3, h9⟩
        replace K0 := K0.below h9 K0.lt
        replace K7 := K7.below h9 K7.lt
        replace K8 := K8.below h9 K8.lt
        replace W1 := W1.below h9
        replace W2 := W2.below h9
        have W3 := WR.of_own O3 (by dsimp only at hl3; have := HB3.out; omega)
        replace GB := GB.trans (h9.mono GB.size)
        clear h9 O3
        dsimp only at hl3
        clear zK70 zK71
        have K10 := Blk.new u4 24 #[.int .i64 ny2, .slice A3 n3 c3]
        have g10l : w.heap.size < u4.heap.size := K0.lt
        replace K0 := K0.alloc (.cells #[.int .i64 ny2, .slice A3 n3 c3] 24)
        replace K7 := K7.alloc (.cells #[.int .i64 ny2, .slice A3 n3 c3] 24)
        replace K8 := K8.alloc (.cells #[.int .i64 ny2, .slice A3 n3 c3] 24)
        replace W1 := W1.below ((Below.refl _ _).alloc (Nat.le_refl _) (.cells #[.int .i64 ny2, .slice A3 n3 c3] 24))
        replace W2 := W2.below ((Below.refl _ _).alloc (Nat.le_refl _) (.cells #[.int .i64 ny2, .slice A3 n3 c3] 24))
        replace W3 := W3.below ((Below.refl _ _).alloc (Nat.le_refl _) (.cells #[.int .i64 ny2, .slice A3 n3 c3] 24))
        replace GB := GB.alloc GB.size (.cells #[.int .i64 ny2, .slice A3 n3 c3] 24)
        have zK70 := K7.cell 0
        have zK71 := K7.cell 1
        go_wp2_with fail
        refine (HAt.out _ A1 c1 W1).mono ?_
        rintro e u5 ⟨rfl, h9⟩
        replace K0 := K0.below h9 K0.lt
        replace K7 := K7.below h9 K7.lt
        replace K8 := K8.below h9 K8.lt
        replace K10 := K10.below h9 K10.lt
        replace W1 := W1.below h9
        replace W2 := W2.below h9
        replace W3 := W3.below h9
        replace GB := GB.trans (h9.mono GB.size)
        clear h9 zK70 zK71
        have zK70 := K7.cell 0
        have zK71 := K7.cell 1
        have zK00 := K0.cell 0
        have zK01 := K0.cell 1
        go_wp2_with fail
        refine (HSm.out _ A1 c1 W1 GB).mono ?_
        rintro e u6 ⟨rfl, h9⟩
        replace K0 := K0.below h9 K0.lt
        replace K7 := K7.below h9 K7.lt
        replace K8 := K8.below h9 K8.lt
        replace K10 := K10.below h9 K10.lt
        replace W1 := W1.below h9
        replace W2 := W2.below h9
        replace W3 := W3.below h9
        replace GB := GB.trans (h9.mono GB.size)
        clear h9 zK70 zK71 zK00 zK01
        have zK00 := K0.cell 0
        have zK01 := K0.cell 1
        go_wp2_with fail
        refine (HRi.out _ GB).mono ?_
        rintro e u7 ⟨rfl, h9⟩
        replace K0 := K0.below h9 K0.lt
        replace K8 := K8.below h9 K8.lt
        replace K10 := K10.below h9 K10.lt
        replace W2 := W2.below h9
        replace W3 := W3.below h9
        replace GB := GB.trans (h9.mono GB.size)
        clear h9 zK00 zK01 W1 K7
        obtain rfl : n2 = 0 := by simpa using hl2.symm
        obtain rfl : n3 = 0 := by simpa using hl3.symm
        have zK00 := K0.cell 0
        have zK01 := K0.cell 1
        go_wp2_with fail
        refine (HAd.out _ GB).mono ?_
        rintro e u8 ⟨rfl, h9⟩
        replace K0 := K0.below h9 K0.lt
        replace K8 := K8.below h9 K8.lt
        replace K10 := K10.below h9 K10.lt
        replace W2 := W2.below h9
        replace W3 := W3.below h9
        replace GB := GB.trans (h9.mono GB.size)
        clear h9 zK00 zK01
        have zK100 := K10.cell 0
        have zK101 := K10.cell 1
        go_upto_region 21 with fail
        clear zK100 zK101 K10
        have zK00 := K0.cell 0
        have zK01 := K0.cell 1
        have zK80 := K8.cell 0
        have zK81 := K8.cell 1
        rcases HREF.out with h | ⟨h1, h⟩ | ⟨h1, h2, h⟩ | ⟨h1, h2, h3, h⟩
        · have q1 : decide (id < 0) = true := decide_eq_true h
          clear h
          go_wp2_with fail
          go_ret
          exact ⟨rfl, GB⟩
        · have q1 : decide (id < 0) = false := decide_eq_false (by omega)
          have q2 : decide (31 < id) = true := decide_eq_true h
          clear h h1
          go_wp2_with fail
          go_ret
          exact ⟨rfl, GB⟩
        · have q1 : decide (id < 0) = false := decide_eq_false (by omega)
          have q2 : decide (31 < id) = false := decide_eq_false (by omega)
          have q3 : decide (tm ≤ now) = true := decide_eq_true h
          clear h h1 h2
          go_wp2_with fail
          go_ret
          exact ⟨rfl, GB⟩
        · have q1 : decide (id < 0) = false := decide_eq_false (by omega)
          have q2 : decide (31 < id) = false := decide_eq_false (by omega)
          have q3 : decide (tm ≤ now) = false := decide_eq_false (by omega)
          have q4 : decide (1125899906842624 < tm) = true := decide_eq_true h
          clear h h1 h2 h3
          go_wp2_with fail
          go_ret
          exact ⟨rfl, GB⟩



end Go.Proofs.Ytbhcpkmofnfjgaa
