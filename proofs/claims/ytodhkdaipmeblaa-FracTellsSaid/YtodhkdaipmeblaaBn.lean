/-
  The contract of the document's number of bits. No statement is proved here.
-/
import Derived.Test.YtodhkdaipmeblaaBo
namespace Go.Proofs.Ytodhkdaipmeblaa
open Go.RowKit

theorem num_ret {a b c d : Int} {x y : Bool} (h1 : a = c) (h2 : b = d) (h3 : x = y) : Ending.returned (.tuple #[.agg #[.int .u64 a, .int .u64 b], .bool x]) = .returned (.tuple #[.agg #[.int .u64 c, .int .u64 d], .bool y]) := by rw [h1, h2, h3]
theorem nb_bit {M N m : Nat} (hM : N % 2 ^ 128 = M) (hm : m < 128) : M / 2 ^ m = 2 * (M / 2 ^ (m + 1)) + (if N.testBit m = true then 1 else 0) := by
  have h1 : M.testBit m = N.testBit m := by rw [← hM, Nat.testBit_mod_two_pow, decide_eq_true hm, Bool.true_and]
  have e : M / 2 ^ (m + 1) = M / 2 ^ m / 2 := by rw [Nat.div_div_eq_div_mul, ← Nat.pow_succ]
  rw [e, ← h1, Nat.testBit_eq_decide_div_mod_eq]
  generalize M / 2 ^ m = x
  by_cases h : x % 2 = 1
  · simp [h]; omega
  · simp [h]; omega
theorem nb_step0 {M N m hi lo hi' lo' : Nat} (hM : N % 2 ^ 128 = M) (hm : m < 128) (hV : hi * 2 ^ 64 + lo = M / 2 ^ (m + 1)) (hb : N.testBit m = false) (h : hi' * 2 ^ 64 + lo' = 2 * (hi * 2 ^ 64 + lo)) : hi' * 2 ^ 64 + lo' = M / 2 ^ m := by
  have := nb_bit hM hm
  rw [hb, if_neg (by simp)] at this
  exact (h.trans (by rw [hV])).trans (this.trans (Nat.add_zero _)).symm
theorem nb_step1 {M N m hi lo hi' lo' : Nat} (hM : N % 2 ^ 128 = M) (hm : m < 128) (hV : hi * 2 ^ 64 + lo = M / 2 ^ (m + 1)) (hb : N.testBit m = true) (h : hi' * 2 ^ 64 + lo' = 2 * (hi * 2 ^ 64 + lo) + 1) : hi' * 2 ^ 64 + lo' = M / 2 ^ m := by
  have := nb_bit hM hm
  rw [hb, if_pos rfl] at this
  exact (h.trans (by rw [hV])).trans this.symm

set_option maxHeartbeats 4000000 in
set_option maxRecDepth 100000 in
theorem number_any (N : Nat) (w : World) (hN : N < 2 ^ 256) : Calls Try.prog 19 #[.agg (bv N)] w fun e w' =>
    e = .returned (.tuple #[.agg #[.int .u64 ((N % 2 ^ 128 / 2 ^ 64 : Nat) : Int), .int .u64 ((N % 2 ^ 64 : Nat) : Int)], .bool (decide (N < 2 ^ 128))]) ∧ Below w.heap.size w w' := by
  have hz := zero_bits
  have HN := Lib.hid hN
  clear hN
  unfold bv
  obtain ⟨M, hM⟩ : ∃ M, N % 2 ^ 128 = M := ⟨_, rfl⟩
  have HM := Lib.hid hM
  rw [hM]
  clear hM
  go_enter Try.func19, Try.ntmps19
  go_wp2_with fail
  go_loopw [5] (fun i wr => ∃ (k : Nat) (i0 : Int) (hi lo : Nat), k ≤ 128 ∧ i = .int .i64 i0 ∧ i0 = (k : Int) - 1 ∧ Blk wr w.heap.size 38 (cellsOf N.testBit) ∧ Blk wr (w.heap.size + 1) 24 #[.int .u64 0, .int .u64 0] ∧
    Blk wr (w.heap.size + 1 + 1) 24 #[.int .u64 (hi : Int), .int .u64 (lo : Int)] ∧ lo < 2 ^ 64 ∧ hi * 2 ^ 64 + lo = M / 2 ^ k ∧ Below w.heap.size w wr) (fun i _ => (intOf i + 1).toNat)
  case atStart =>
    obtain ⟨b1, b2, b3, hb⟩ := blks3 w 38 24 24 (cellsOf N.testBit) #[.int .u64 0, .int .u64 0] #[.int .u64 0, .int .u64 0]
    refine ⟨128, 127, 0, 0, by omega, rfl, by omega, b1, b2, b3, by decide, ?_, hb⟩
    rw [Nat.div_eq_of_lt (by rw [← HM.out]; exact Nat.mod_lt _ (Nat.two_pow_pos _))]
  case round =>
    obtain ⟨k, i0, hi, lo, hk, rfl, hi0, B1, B2, B3, hlo, hV, hB⟩ := hrel
    have HV := Lib.hid hV
    have HLO := Lib.hid hlo
    clear hV hlo
    rcases k with _ | m
    · obtain rfl : i0 = -1 := by omega
      have HV2 : Hid (hi = M / 2 ^ 64 ∧ lo = N % 2 ^ 64) := Lib.hid (by
        have h1 := HV.out
        have h2 := HLO.out
        rw [Nat.pow_zero, Nat.div_one] at h1
        have h3 : N % 2 ^ 64 = M % 2 ^ 64 := by rw [← HM.out, Nat.mod_mod_of_dvd _ (Nat.pow_dvd_pow 2 (by omega))]
        omega)
      obtain ⟨r1, r2⟩ := HV2.out
      have HR := Lib.hid (show (hi : Int) = ((M / 2 ^ 64 : Nat) : Int) ∧ (lo : Int) = ((N % 2 ^ 64 : Nat) : Int) from ⟨by rw [r1], by rw [r2]⟩)
      clear r1 r2 HV2
      have hsz := B3.lt
      have HB1 := Lib.hid B1
      have x0 : wr.cell? ⟨w.heap.size + 1 + 1, 0, none⟩ = some (.int .u64 (hi : Int)) := B3.cell 0
      have x1 : wr.cell? ⟨w.heap.size + 1 + 1, 1, none⟩ = some (.int .u64 (lo : Int)) := B3.cell 1
      have y0 : wr.cell? ⟨w.heap.size + 1, 0, none⟩ = some (.int .u64 0) := B2.cell 0
      have y1 : wr.cell? ⟨w.heap.size + 1, 1, none⟩ = some (.int .u64 0) := B2.cell 1
      have f0 := B2.frozen 0
      have f1 := B2.frozen 1
      clear hi0 B1 B2 B3
      go_wp2_with fail
      go_loop [6] (fun j => ∃ q : Nat, 128 ≤ q ∧ q ≤ 256 ∧ j = .int .i64 q ∧ ∀ x, 128 ≤ x → x < q → N.testBit x = false) (fun j => 256 - (intOf j).toNat)
      case atStart => exact ⟨128, by omega, by omega, rfl, fun x h1 h2 => by omega⟩
      case round =>
        obtain ⟨q, hq1, hq2, rfl, hall⟩ := hrel
        have HA := Lib.hid hall
        clear hall
        by_cases hlt : q < 256
        · have c1 := (HB1.out.cell q).trans (cellsOf_at _ hlt)
          cases hb : N.testBit q
          · rw [hb] at c1
            have HA2 : Hid (∀ x, 128 ≤ x → x < q + 1 → N.testBit x = false) := Lib.hid (fun x h1 h2 => by
              rcases Nat.lt_or_ge x q with h | h
              · exact HA.out x h1 h
              · obtain rfl : x = q := by omega
                exact hb)
            clear hb
            go_wp2
            go_round
            case rel => exact ⟨q + 1, by omega, by omega, by go_num, HA2.out⟩
            case measure => simp [intOf]; omega
          · rw [hb] at c1
            have HBAD := Lib.hid (show decide (N < 2 ^ 128) = false from decide_eq_false fun h => by
              have := Nat.testBit_lt_two_pow (Nat.lt_of_lt_of_le h (Nat.pow_le_pow_right (by omega) hq1))
              rw [this] at hb
              cases hb)
            clear hb
            go_wp2
            exact bodyPost_ret (v := .tuple #[.agg #[.int .u64 (hi : Int), .int .u64 (lo : Int)], .bool false]) (by simp [results, Try.results19, go_sem, y0, y1]) rfl ⟨num_ret (by have := HR.out.1; omega) (by have := HR.out.2; omega) (by first | rfl | (rw [HBAD.out])), (hB.setCell (by simp <;> omega) _).setCell (by simp <;> omega) _⟩
        · obtain rfl : q = 256 := by omega
          have HGOOD := Lib.hid (show decide (N < 2 ^ 128) = true from decide_eq_true (Nat.lt_pow_two_of_testBit N fun x hx => by
            rcases Nat.lt_or_ge x 256 with h | h
            · exact HA.out x hx h
            · exact Nat.testBit_lt_two_pow (Nat.lt_of_lt_of_le HN.out (Nat.pow_le_pow_right (by omega) h))))
          go_wp2
          exact bodyPost_ret (v := .tuple #[.agg #[.int .u64 (hi : Int), .int .u64 (lo : Int)], .bool true]) (by simp [results, Try.results19, go_sem, y0, y1]) rfl ⟨num_ret (by have := HR.out.1; omega) (by have := HR.out.2; omega) (by first | rfl | (rw [HGOOD.out])), (hB.setCell (by simp <;> omega) _).setCell (by simp <;> omega) _⟩
    · obtain rfl : i0 = (m : Int) := by omega
      have c1 := (B1.cell m).trans (cellsOf_at _ (by omega))
      have c2 : wr.cell? ⟨w.heap.size + 1 + 1, 0, none⟩ = some (.int .u64 (hi : Int)) := B3.cell 0
      have c3 : wr.cell? ⟨w.heap.size + 1 + 1, 1, none⟩ = some (.int .u64 (lo : Int)) := B3.cell 1
      have f2 := B3.frozen 0
      have f3 := B3.frozen 1
      have hsz := B3.lt
      have hMl : M < 2 ^ 128 := by rw [← HM.out]; exact Nat.mod_lt _ (Nat.two_pow_pos _)
      have hhi : hi < 9223372036854775808 := by
        have h1 : M / 2 ^ (m + 1) ≤ M / 2 ^ 1 := Nat.div_le_div_left (Nat.pow_le_pow_right (by omega) (by omega)) (by omega)
        have h2 : M / 2 ^ 1 < 2 ^ 127 := by omega
        have h3 := HV.out
        omega
      have hhiI : (hi : Int) < 9223372036854775808 := by omega
      have hloI : (lo : Int) < 18446744073709551616 := by have := HLO.out; omega
      have HB1 := Lib.hid B1
      have HB2 := Lib.hid B2
      have HB3 := Lib.hid B3
      have HHI := Lib.hid hhi
      clear B1 B2 B3 hMl hi0 hhi
      by_cases hbig : (lo : Int) < 9223372036854775808
      · cases hb : N.testBit m
        · rw [hb] at c1
          have HS := Lib.hid (nb_step0 HM.out (show m < 128 by omega) HV.out hb (hi' := hi * 2 + lo / 9223372036854775808) (lo' := (lo * 2)) (by have := HLO.out; omega))
          have HL3 := Lib.hid (show (lo * 2) < 2 ^ 64 by have := HLO.out; omega)
          clear hb
          go_wp2
          go_roundw
          case rel =>
            refine ⟨m, _, hi * 2 + lo / 9223372036854775808, (lo * 2), by omega, rfl, by omega, (HB1.out.far (by simp <;> omega) _).far (by simp <;> omega) _, (HB2.out.far (by simp) _).far (by simp) _, ?_, HL3.out, HS.out, (hB.setCell (by simp <;> omega) _).setCell (by simp <;> omega) _⟩
            rw [show ((hi * 2 + lo / 9223372036854775808 : Nat) : Int) = (hi : Int) * 2 + (lo : Int) / 9223372036854775808 by omega, show (((lo * 2) : Nat) : Int) = (lo : Int) * 2 by omega]
            exact HB3.out.set2
          case measure => simp [intOf]
        · rw [hb] at c1
          have HS := Lib.hid (nb_step1 HM.out (show m < 128 by omega) HV.out hb (hi' := hi * 2 + lo / 9223372036854775808) (lo' := ((lo * 2) + 1)) (by have := HLO.out; omega))
          have HL3 := Lib.hid (show ((lo * 2) + 1) < 2 ^ 64 by have := HLO.out; omega)
          clear hb
          go_wp2
          go_roundw
          case rel =>
            refine ⟨m, _, hi * 2 + lo / 9223372036854775808, ((lo * 2) + 1), by omega, rfl, by omega, ((HB1.out.far (by simp <;> omega) _).far (by simp <;> omega) _).far (by simp <;> omega) _, ((HB2.out.far (by simp) _).far (by simp) _).far (by simp) _, ?_, HL3.out, HS.out, ((hB.setCell (by simp <;> omega) _).setCell (by simp <;> omega) _).setCell (by simp <;> omega) _⟩
            rw [show ((hi * 2 + lo / 9223372036854775808 : Nat) : Int) = (hi : Int) * 2 + (lo : Int) / 9223372036854775808 by omega, show ((((lo * 2) + 1) : Nat) : Int) = (lo : Int) * 2 + 1 by omega]
            exact HB3.out.set3
          case measure => simp [intOf]
      · obtain ⟨l2, hl2⟩ : ∃ l2, lo * 2 - 18446744073709551616 = l2 := ⟨_, rfl⟩
        have e1 : IntKind.u64.wrap ((lo : Int) * 2) = (l2 : Int) := by rw [IntKind.wrap_u64]; have := HLO.out; omega
        have hl2b : (l2 : Int) < 18446744073709551615 := by have := HLO.out; omega
        have HL2 := Lib.hid hl2
        clear hl2
        cases hb : N.testBit m
        · rw [hb] at c1
          have HS := Lib.hid (nb_step0 HM.out (show m < 128 by omega) HV.out hb (hi' := hi * 2 + lo / 9223372036854775808) (lo' := l2) (by have := HLO.out; have := HL2.out; omega))
          have HL3 := Lib.hid (show l2 < 2 ^ 64 by have := HLO.out; have := HL2.out; omega)
          clear hb
          go_wp2
          go_roundw
          case rel =>
            refine ⟨m, _, hi * 2 + lo / 9223372036854775808, l2, by omega, rfl, by omega, (HB1.out.far (by simp <;> omega) _).far (by simp <;> omega) _, (HB2.out.far (by simp) _).far (by simp) _, ?_, HL3.out, HS.out, (hB.setCell (by simp <;> omega) _).setCell (by simp <;> omega) _⟩
            rw [show ((hi * 2 + lo / 9223372036854775808 : Nat) : Int) = (hi : Int) * 2 + (lo : Int) / 9223372036854775808 by omega]
            exact HB3.out.set2
          case measure => simp [intOf]
        · rw [hb] at c1
          have HS := Lib.hid (nb_step1 HM.out (show m < 128 by omega) HV.out hb (hi' := hi * 2 + lo / 9223372036854775808) (lo' := (l2 + 1)) (by have := HLO.out; have := HL2.out; omega))
          have HL3 := Lib.hid (show (l2 + 1) < 2 ^ 64 by have := HLO.out; have := HL2.out; omega)
          clear hb
          go_wp2
          go_roundw
          case rel =>
            refine ⟨m, _, hi * 2 + lo / 9223372036854775808, (l2 + 1), by omega, rfl, by omega, ((HB1.out.far (by simp <;> omega) _).far (by simp <;> omega) _).far (by simp <;> omega) _, ((HB2.out.far (by simp) _).far (by simp) _).far (by simp) _, ?_, HL3.out, HS.out, ((hB.setCell (by simp <;> omega) _).setCell (by simp <;> omega) _).setCell (by simp <;> omega) _⟩
            rw [show ((hi * 2 + lo / 9223372036854775808 : Nat) : Int) = (hi : Int) * 2 + (lo : Int) / 9223372036854775808 by omega, show (((l2 + 1) : Nat) : Int) = (l2 : Int) + 1 by omega]
            exact HB3.out.set3
          case measure => simp [intOf]

end Go.Proofs.Ytodhkdaipmeblaa
