/-
  PoolParts' walk, whatever the number, the ops.
-/
import Derived.Test.YtnckfgnhlnichaaDoorWb
namespace Go.Proofs.YtnckfgnhlnichaaDoor
open Go.RowKit

set_option maxRecDepth 100000 in
set_option maxHeartbeats 8000000 in
theorem parts_walk {G : World → Prop} (hG : Steady G) (hNe : PNewOk G) (hSp : PSplitOk G) (hJo : PJoinOk G) (hMo : PMoveOk G) (hSe : PSetOk G) (hOf : POfOk G) (hCp : PCpusOk G) (hCk : PCheckOk G) (hLi : CListOk G) (hCt : CCountOk G)
    (hk : ∀ u, G u → Calls Tryd.prog 4 #[] u (Said (.bool true) u))
    (x : Int) (A : Option Addr) (n c : Nat) (l : List OpT) (w : World) (hg : G w) (hR : Reads w w.heap.size 5 A n (flat opv l)) (hs : ∀ (j : Nat) (o : OpT), l[j]? = some o → o.2.2.2.2 < 4294967296) :
    Calls Tryd.prog 3 #[.int .i64 x, .slice A n c] w (Said (.bool true) w) := by
  have HGs := Lib.hid (fun (u : World) (h : Below w.heap.size w u) => hG w u hg h)
  have HK := Lib.hid (hk w hg)
  have HR := Lib.hid hR
  have HL : Hid (l.length = n) := Lib.hid (by have := hR.1; rw [length_flat opv length_opv] at this; omega)
  have HS := Lib.hid hs
  have HPa := Lib.hid (fun (A : Option Addr) (n c : Nat) (l : List Nat) (u : World) (h : PAt G u A n c l) (hr : rightP l = true) => parted_any hG hSe hOf hCp hCk hLi hCt A n c l u h hr)
  have HRu := Lib.hid (fun (A : Option Addr) (n c : Nat) (L : List Nat) (k a b cpu : Int) (s : Nat) (u : World) (h : PAt G u A n c L) (hs : s < 4294967296) => run_any hG hSp hJo hMo A n c L k a b cpu s u h hs)
  have HCp := Lib.hid hCp
  have HNe := Lib.hid hNe
  have HG := Lib.hid hG
  obtain ⟨m, hm⟩ : ∃ m : Nat, (IntKind.u64.wrap x).tmod 8 = (m : Int) := by
    have h0 : 0 ≤ IntKind.u64.wrap x := by simp [IntKind.wrap, IntKind.bits, IntKind.signed]; omega
    exact ⟨((IntKind.u64.wrap x).tmod 8).toNat, by rw [Int.tmod_eq_emod_of_nonneg h0]; omega⟩
  have m8 : m < 8 := by
    have h0 : 0 ≤ IntKind.u64.wrap x := by simp [IntKind.wrap, IntKind.bits, IntKind.signed]; omega
    rw [Int.tmod_eq_emod_of_nonneg h0] at hm
    omega
  have hw1 : IntKind.i64.wrap (m : Int) = (m : Int) := by rw [IntKind.wrap_i64]; omega
  have hw2 : IntKind.i64.wrap (1 + (m : Int)) = 1 + (m : Int) := by rw [IntKind.wrap_i64]; omega
  have hnv : newR (1 + (m : Int)) = ([2 ^ (m + 1) - 1], 0) := by
    unfold newR
    rw [if_pos (by omega), show (1 + (m : Int)).toNat = m + 1 by omega]
  have HR1 := Lib.hid (one_right (k := m + 1) (by omega) (by omega))
  generalize 2 ^ (m + 1) - 1 = y at *
  have HNv := Lib.hid hnv
  clear hG hNe hSp hJo hMo hSe hOf hCp hCk hLi hCt hk hg hR hs hnv m8
  go_enter Tryd.func3, Tryd.ntmps3
  go_wp2_with fail
  refine HK.out.mono ?_
  rintro e w1 ⟨rfl, B1⟩
  have hne := HNe.out (1 + (m : Int)) w1 (HGs.out _ B1)
  rw [HNv.out] at hne
  have HN1 := Lib.hid hne
  clear hne
  go_wp2_with fail
  refine HN1.out.mono ?_
  rintro e w2 ⟨A5, c5, rfl, own5, h9⟩
  rw [show ([y], (0 : Int)).1.length = 1 from rfl] at own5 ⊢
  have B2 := B1.trans (h9.mono B1.size)
  have At0 := PAt.own own5 (by omega) (u32s_right HR1.out) (HGs.out _ B2)
  have K2 := Blk.new w2 26 #[.slice A5 1 c5]
  have At2 := Lib.hid (At0.below HG.out ((Below.refl _ w2).alloc (Nat.le_refl _) (.cells #[.slice A5 1 c5] 26)))
  have hg5 : w.heap.size ≤ w2.heap.size := B2.size
  have B3 := B2.alloc B2.size (.cells #[.slice A5 1 c5] 26)
  clear own5 h9 B1 B2 At0 hw1 hw2 hm HN1
  go_wp2_with fail
  refine (HCp.out _ _ _ _ _ At2.out).mono ?_
  rintro e w3 ⟨rfl, h9⟩
  have At3 := Lib.hid (At2.out.below HG.out h9)
  have K3 := K2.below h9 K2.lt
  have B4 := B3.trans (h9.mono B3.size)
  obtain ⟨all, hall⟩ : ∃ all, cpusR [y] = all := ⟨_, rfl⟩
  rw [hall]
  have HI : Hid (rightP [y] = true ∧ cpusR [y] = all) := Lib.hid ⟨HR1.out, hall⟩
  have HG5 := Lib.hid hg5
  clear h9 K2 B3 At2 hall hg5
  go_wp2_with fail
  go_loopw [30] (fun i wr => ∃ (j : Nat) (L : List Nat) (A5 : Option Addr) (n5 c5 : Nat), j ≤ n ∧ j ≤ 40 ∧ i = .int .i64 (j : Int) ∧ Hid (rightP L = true ∧ cpusR L = all) ∧ Hid (PAt G wr A5 n5 c5 L) ∧ Blk wr w2.heap.size 26 #[.slice A5 n5 c5] ∧ Below w.heap.size w wr) (fun i _ => n - (intOf i).toNat)
  case atStart => exact ⟨0, _, _, _, _, by omega, by omega, rfl, HI, At3, K3, B4⟩
  case round =>
    clear K3 B4 At3 HI
    obtain ⟨j, L, A5, n5, c5, hj, h40, rfl, HI, At, K5, Br⟩ := hrel
    by_cases hlt : j < n
    · obtain ⟨⟨k, a, b, cpu, s⟩, ho⟩ := elem_at (l := l) (k := j) (by rw [HL.out]; exact hlt)
      obtain ⟨ad, rfl, hb, c0, c1, c2, c3, c4⟩ := op_at (HR.out.below Br) ho
      have hss := HS.out j _ ho
      have Ba := Br.alloc Br.size (.cells #[.int .i64 k, .int .i64 a, .int .i64 b, .int .i64 cpu, .int .u32 (s : Int)] 35)
      by_cases hj40 : j = 40
      · have q : ((j : Int) == 40) = true := by simp; omega
        have BH := Lib.hid Ba
        clear hj40 h40 Br Ba hss
        go_wp2
        go_ret
        exact ⟨rfl, BH.out⟩
      · have q : ((j : Int) == 40) = false := by simp; omega
        have HJ : Hid (j + 1 ≤ n ∧ j + 1 ≤ 40) := Lib.hid (by omega)
        have j9 : j < 100 := by omega
        have Ata := Lib.hid (At.out.below HG.out ((Below.refl _ wr).alloc (Nat.le_refl _) (.cells #[.int .i64 k, .int .i64 a, .int .i64 b, .int .i64 cpu, .int .u32 (s : Int)] 35)))
        have Ka := K5.alloc (.cells #[.int .i64 k, .int .i64 a, .int .i64 b, .int .i64 cpu, .int .u32 (s : Int)] 35)
        have hru := HRu.out A5 n5 c5 L k a b cpu s _ Ata.out hss
        unfold OpV at hru
        obtain ⟨R, N1, E1, hrr⟩ : ∃ R N1 E1, runR L k a b cpu s = (R, N1, E1) := ⟨_, _, _, rfl⟩
        rw [hrr] at hru
        have HRR := Lib.hid hrr
        have HRun := Lib.hid hru
        have ka := Ka.cell 0
        clear hj40 h40 Br At K5 hss hrr hru ho
        go_wp2_with fail
        refine HRun.out.mono ?_
        rintro e w5 ⟨A6, c6, rfl, own6, h9⟩
        obtain ⟨n6, hn6⟩ : ∃ n6, R.length = n6 := ⟨_, rfl⟩
        rw [show (R, N1, E1).1.length = n6 from hn6] at own6 ⊢
        have B6 := Ba.trans (h9.mono Ba.size)
        have K6 := (Ka.below h9 Ka.lt).alloc (.cells #[.slice A6 n6 c6] 26)
        have At6 := Lib.hid ((Ata.out.below HG.out h9).below HG.out ((Below.refl _ w5).alloc (Nat.le_refl _) (.cells #[.slice A6 n6 c6] 26)))
        have B7 := B6.alloc B6.size (.cells #[.slice A6 n6 c6] 26)
        by_cases hE : E1 = 0
        · obtain ⟨hr6, hc6⟩ := runR_ok HI.out.1 (by rw [HRR.out, hE])
          rw [HI.out.2] at hc6
          have At8 := Lib.hid ((PAt.own own6 (by have := right_len hr6; omega) (u32s_right hr6) (HGs.out _ B6)).below HG.out ((Below.refl _ w5).alloc (Nat.le_refl _) (.cells #[.slice A6 n6 c6] 26)))
          have K8 := Blk.new w5 26 #[.slice A6 n6 c6]
          have HRi := Lib.hid (And.intro hr6 hc6)
          have g0 : (E1 == 0) = true := by simpa using hE
          have hlt25 : w2.heap.size < w5.heap.size := (Ka.below h9 Ka.lt).lt
          have HLT := Lib.hid hlt25
          have HO8 := Lib.hid (own_below own6 ((Below.refl _ w5).alloc (Nat.le_refl _) (.cells #[.slice A6 n6 c6] 26)))
          have HLB := Lib.hid Ka.lt
          have HN6 : Hid (n6 ≤ 1000) := Lib.hid (by have := right_len hr6; omega)
          clear hE own6 h9 B6 Ka Ba hr6 hc6 Ata ka c0 c1 c2 c3 c4 hlt25 At6 HRun
          go_wp2_with fail
          refine (HPa.out _ _ _ _ _ At8.out HRi.out.1).mono ?_
          rintro e w8 ⟨rfl, h9⟩
          have At9 := Lib.hid (At8.out.below HG.out h9)
          have K9 := K8.below h9 K8.lt
          have K7 := K6.below h9 K6.lt
          have B9 := B7.trans (h9.mono B7.size)
          have HO9 := Lib.hid (own_below HO8.out h9)
          have k9 := K9.cell 0
          have HCq := Lib.hid (HCp.out _ _ _ _ _ At9.out)
          rw [HRi.out.2] at HCq
          clear h9 K8 K6 B7 At8
          go_wp2_with fail
          refine HCq.out.mono ?_
          rintro e w10 ⟨rfl, h9⟩
          have At10 := Lib.hid (At9.out.below HG.out h9)
          have K10 := K9.below h9 K9.lt
          have K11 := K7.below h9 K7.lt
          have B10 := B9.trans (h9.mono B9.size)
          have HO10 := Lib.hid (own_below HO9.out h9)
          have k10 := K10.cell 0
          have k11 := K11.cell 0
          have f11 := K11.frozen 0
          obtain ⟨P1, P2⟩ := put1 (x := .slice A6 n6 c6) K11 B10 HG5.out
          have HP := Lib.hid (And.intro P1 P2)
          have HFin : Hid (PAt G (w10.setCell ⟨w2.heap.size, 0, none⟩ (.slice A6 n6 c6)) A6 n6 c6 R) := Lib.hid (PAt.own (own_set HO10.out HLB.out 0 (.slice A6 n6 c6)) HN6.out (u32s_right HRi.out.1) (HGs.out _ P2))
          clear h9 K7 K9 B9 k9 At9 K10 K11 B10 P1 P2
          go_wp2
          go_roundw
          case rel => exact ⟨j + 1, R, A6, n6, c6, HJ.out.1, HJ.out.2, by go_num, HRi, HFin, HP.out.1, HP.out.2⟩
          case measure => have := HJ.out.1; simp [intOf] <;> omega
        · have g0 : (E1 == 0) = false := by simpa using hE
          have g1 : (E1 != 0) = true := by simpa using hE
          have HP := Lib.hid (And.intro K6 B7)
          clear hE own6 h9 B6 Ka Ba Ata ka c0 c1 c2 c3 c4 K6 B7
          go_wp2
          go_roundw
          case rel => exact ⟨j + 1, L, A5, n5, c5, HJ.out.1, HJ.out.2, by go_num, HI, At6, HP.out.1, HP.out.2⟩
          case measure => have := HJ.out.1; simp [intOf] <;> omega
    · have BH := Lib.hid Br
      obtain rfl : n = j := by omega
      go_wp2
      go_ret
      exact ⟨rfl, BH.out⟩

end Go.Proofs.YtnckfgnhlnichaaDoor
