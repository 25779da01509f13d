/-
  The contracts of the document's own words on topologies: Cpu, Right, Dist, Same. No statement is proved here.
-/
import Derived.Test.YtfalkiinlkfanaaTa
namespace Go.Proofs.Ytfalkiinlkfanaa
open Go.RowKit

set_option maxRecDepth 100000 in
set_option maxHeartbeats 1000000 in
theorem rcpuT_any (A : Option Addr) (n c : Nat) (k : Int) (w : World) : Calls Try.prog 17 #[.agg #[.slice A n c], .int .i64 k] w (Said (.bool (cpuT n k)) w) := by
  by_cases h0 : 0 ≤ k
  · by_cases h1 : k < (n : Int)
    · have HV := Lib.hid (cpuT_yes h0 h1)
      go_enter Try.func17, Try.ntmps17
      go_wp2
      go_ret
      exact ⟨retB HV.out.symm, (Below.refl _ _).alloc (Nat.le_refl _) _⟩
    · have HV : Hid (cpuT n k = false) := Lib.hid (by unfold cpuT; simp [h0, h1])
      go_enter Try.func17, Try.ntmps17
      go_wp2
      go_ret
      exact ⟨retB HV.out.symm, (Below.refl _ _).alloc (Nat.le_refl _) _⟩
  · have HV : Hid (cpuT n k = false) := Lib.hid (by unfold cpuT; simp [h0])
    go_enter Try.func17, Try.ntmps17
    go_wp2
    go_ret
    exact ⟨retB HV.out.symm, (Below.refl _ _).alloc (Nat.le_refl _) _⟩

set_option maxRecDepth 100000 in
set_option maxHeartbeats 4000000 in
theorem rrightT_any (A : Option Addr) (n c : Nat) (l : List (Int × Int)) (w : World) (hR : Reads w w.heap.size 2 A n (svs l)) (hn : n ≤ maxLen) :
    Calls Try.prog 12 #[.agg #[.slice A n c]] w (Said (.bool (rightT l)) w) := by
  unfold maxLen at hn
  have HL := Lib.hid (reads_len hR)
  have HR := Lib.hid hR
  obtain ⟨K, B⟩ : Blk (w.alloc (.cells #[.slice A n c] 27)) w.heap.size 27 #[.slice A n c] ∧ Below w.heap.size w (w.alloc (.cells #[.slice A n c] 27)) := ⟨Blk.new _ _ _, (Below.refl _ _).alloc (Nat.le_refl _) _⟩
  have HB := Lib.hid (And.intro K B)
  clear hR K B
  go_enter Try.func12, Try.ntmps12
  go_wp2_with fail
  go_loopw [8] (fun i wr => ∃ k : Nat, k ≤ n ∧ i = .int .i64 (k : Int) ∧ Hid ((l.take k).all seatB = true) ∧ Blk wr w.heap.size 27 #[.slice A n c] ∧ Below w.heap.size w wr) (fun i _ => n - (intOf i).toNat)
  case atStart => exact ⟨0, by omega, rfl, Lib.hid (by rw [List.take_zero]; rfl), HB.out.1, HB.out.2⟩
  case round =>
    obtain ⟨k, hk, rfl, HA, hK, hB⟩ := hrel
    by_cases hlt : k < n
    · obtain ⟨⟨x, y⟩, hm⟩ := elem_at (l := l) (k := k) (by rw [HL.out]; exact hlt)
      obtain ⟨ad, rfl, hb, d0, d1⟩ := seat_at (HR.out.below hB) hm
      have HM := Lib.hid hm
      have hsz := hB.size
      clear hm
      cases hs : seatB (x, y) with
      | true =>
        obtain ⟨s1, s2, s3, s4⟩ := seat_yes hs
        have HS := Lib.hid (all_seat_step HM.out hs HA.out)
        have K2 := hK.alloc (.cells #[.int .i64 x, .int .i64 y] 37)
        have B2 := hB.alloc hsz (.cells #[.int .i64 x, .int .i64 y] 37)
        have e1 : decide (x < 0) = false := by simp; omega
        have e2 : decide ((4 : Int) ≤ x) = false := by simp; omega
        have e3 : decide (y < 0) = false := by simp; omega
        have e4 : decide ((8 : Int) ≤ y) = false := by simp; omega
        clear hs hK hB s1 s2 s3 s4
        go_wp2
        go_roundw
        case rel => exact ⟨k + 1, by omega, by go_num, HS, K2, B2⟩
        case measure => simp [intOf]; omega
      | false =>
        have HV := Lib.hid (all_seat_no HM.out hs)
        have B2 := hB.alloc hsz (.cells #[.int .i64 x, .int .i64 y] 37)
        rcases seat_no hs with s1 | ⟨s1, s2⟩ | ⟨s1, s2, s3⟩ | ⟨s1, s2, s3, s4⟩
        · have e1 : decide (x < 0) = true := by simp; omega
          clear hs hK hB s1
          go_wp2
          go_ret
          exact ⟨retB HV.out.symm, B2⟩
        · have e1 : decide (x < 0) = false := by simp; omega
          have e2 : decide ((4 : Int) ≤ x) = true := by simp; omega
          clear hs hK hB s1 s2
          go_wp2
          go_ret
          exact ⟨retB HV.out.symm, B2⟩
        · have e1 : decide (x < 0) = false := by simp; omega
          have e2 : decide ((4 : Int) ≤ x) = false := by simp; omega
          have e3 : decide (y < 0) = true := by simp; omega
          clear hs hK hB s1 s2 s3
          go_wp2
          go_ret
          exact ⟨retB HV.out.symm, B2⟩
        · have e1 : decide (x < 0) = false := by simp; omega
          have e2 : decide ((4 : Int) ≤ x) = false := by simp; omega
          have e3 : decide (y < 0) = false := by simp; omega
          have e4 : decide ((8 : Int) ≤ y) = true := by simp; omega
          clear hs hK hB s1 s2 s3 s4
          go_wp2
          go_ret
          exact ⟨retB HV.out.symm, B2⟩
    · obtain rfl : n = k := by omega
      have hall : l.all seatB = true := by
        have := HA.out
        rwa [show l.take n = l by rw [← HL.out]; exact List.take_length] at this
      have c0 : wr.cell? ⟨w.heap.size, 0, none⟩ = some (.slice A n c) := hK.cell 0
      by_cases h1 : 1 ≤ n
      · by_cases h8 : n ≤ 8
        · have HV : Hid (rightT l = true) := Lib.hid (by unfold rightT; rw [hall, HL.out]; simp [h1, h8])
          have f1 : (1 : Int) ≤ (n : Int) := by omega
          have f2 : (n : Int) ≤ 8 := by omega
          clear hall hK h1 h8
          go_wp2
          go_ret
          exact ⟨retB HV.out.symm, hB⟩
        · have HV : Hid (rightT l = false) := Lib.hid (by unfold rightT; rw [hall, HL.out]; simp [h8])
          have f1 : (1 : Int) ≤ (n : Int) := by omega
          have f2 : ¬ (n : Int) ≤ 8 := by omega
          clear hall hK h1 h8
          go_wp2
          go_ret
          exact ⟨retB HV.out.symm, hB⟩
      · have HV : Hid (rightT l = false) := Lib.hid (by unfold rightT; rw [hall, HL.out]; simp [h1])
        have f1 : ¬ (1 : Int) ≤ (n : Int) := by omega
        clear hall hK h1
        go_wp2
        go_ret
        exact ⟨retB HV.out.symm, hB⟩

end Go.Proofs.Ytfalkiinlkfanaa
