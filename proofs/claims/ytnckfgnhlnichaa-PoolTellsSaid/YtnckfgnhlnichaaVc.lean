/-
  The contracts of the document's Of and Right. No statement is proved here.
-/
import Derived.Test.YtnckfgnhlnichaaVb
namespace Go.Proofs.Ytnckfgnhlnichaa
open Go.RowKit

set_option maxRecDepth 100000 in
set_option maxHeartbeats 4000000 in
theorem rof_any (A : Option Addr) (n c : Nat) (l : List Nat) (x : Int) (w : World) (hR : Reads w w.heap.size 1 A n (us l)) (hn : n ≤ 1000) :
    Calls Try.prog 20 #[.agg #[.slice A n c], .int .i64 x] w (Said (.tuple #[.int .i64 (ofV l x).1, .bool (ofV l x).2]) w) := by
  have HL := Lib.hid (usets_len hR)
  have HR := Lib.hid hR
  have HH := Lib.hid (fun (s : Nat) u => rhas_any (s : Int) x u (by omega))
  obtain ⟨K, B⟩ : Blk (w.alloc (.cells #[.slice A n c] 24)) w.heap.size 24 #[.slice A n c] ∧ Below w.heap.size w (w.alloc (.cells #[.slice A n c] 24)) := ⟨Blk.new _ _ _, (Below.refl _ _).alloc (Nat.le_refl _) _⟩
  have HK := Lib.hid K
  have hB := B
  clear hR K B
  go_enter Try.func20, Try.ntmps20
  go_wp2_with fail
  go_loop [6, 7, 13] (fun o m i => ∃ k : Nat, k ≤ n ∧ i = .int .i64 (k : Int) ∧ o = .int .i64 ((outK l x k : Nat) : Int) ∧ m = .int .i64 ((inK l x k : Nat) : Int)) (fun _ _ i => n - (intOf i).toNat)
  case atStart => exact ⟨0, by omega, rfl, rfl, rfl⟩
  case round =>
    obtain ⟨k, hk, rfl, rfl, rfl⟩ := hrel
    by_cases hlt : k < n
    · obtain ⟨ad, s, rfl, hb, hx, hc⟩ := uset_at (HR.out.below hB) hlt
      have HHs := Lib.hid (HH.out s)
      have hik := inK_le l x k
      cases hh : hasB (s : Int) x with
      | true =>
        obtain ⟨e1, e2⟩ := inK_yes hx hh
        have HN := Lib.hid (And.intro e1 e2)
        rw [hh] at HHs
        generalize inK l x k = m at *
        clear e1 e2 hh hx
        go_wp2_with fail
        refine (HHs.out _).mono ?_
        rintro e w2 ⟨rfl, rfl⟩
        go_wp2
        go_round
        case rel => exact ⟨k + 1, by omega, by go_num, by rw [HN.out.2], by rw [HN.out.1]; go_num⟩
        case measure => simp [intOf] <;> omega
      | false =>
        obtain ⟨e1, e2⟩ := inK_no hx hh
        have HN := Lib.hid (And.intro e1 e2)
        rw [hh] at HHs
        clear e1 e2 hh hx
        go_wp2_with fail
        refine (HHs.out _).mono ?_
        rintro e w2 ⟨rfl, rfl⟩
        go_wp2
        go_round
        case rel => exact ⟨k + 1, by omega, by go_num, by rw [HN.out.2], by rw [HN.out.1]⟩
        case measure => simp [intOf] <;> omega
    · obtain rfl : n = k := by omega
      have hl := HL.out
      by_cases h1 : inK l x n = 1
      · have HV : Hid (ofV l x = (((outK l x n : Nat) : Int), true)) := Lib.hid (by unfold ofV; rw [hl, if_pos h1])
        rw [h1]
        clear h1 hl
        go_wp2
        go_ret2
        rw [HV.out]
        exact ⟨rfl, hB⟩
      · have HV : Hid (ofV l x = (0, false)) := Lib.hid (by unfold ofV; rw [hl, if_neg h1])
        have hq : (((inK l x n : Nat) : Int) == 1) = false := by simp; omega
        clear h1 hl
        go_wp2
        go_ret2
        rw [HV.out]
        exact ⟨rfl, hB⟩

set_option maxRecDepth 100000 in
set_option maxHeartbeats 4000000 in
theorem rrightP_any (A : Option Addr) (n c : Nat) (l : List Nat) (w : World) (hR : Reads w w.heap.size 1 A n (us l)) (hn : n ≤ 1000) :
    Calls Try.prog 15 #[.agg #[.slice A n c]] w (Said (.bool (rightP l)) w) := by
  have HL := Lib.hid (usets_len hR)
  have HR := Lib.hid hR
  have HS := Lib.hid (fun (s : Nat) u => rright_any (s : Int) u)
  have HLi := Lib.hid (fun (s : Nat) u => rlist_any (s : Int) u (by omega))
  obtain ⟨K, B⟩ : Blk (w.alloc (.cells #[.slice A n c] 24)) w.heap.size 24 #[.slice A n c] ∧ Below w.heap.size w (w.alloc (.cells #[.slice A n c] 24)) := ⟨Blk.new _ _ _, (Below.refl _ _).alloc (Nat.le_refl _) _⟩
  have HOf := Lib.hid (fun (x : Int) (u : World) (h : Below w.heap.size w u) => rof_any A n c l x u ((hR.below h).more h.size) hn)
  have HB := Lib.hid (And.intro K B)
  clear hR K B
  by_cases hl : 1 ≤ n ∧ n ≤ 4
  · obtain ⟨l1, l4⟩ := hl
    have z1 : (1 : Int) ≤ (n : Int) := by omega
    have z4 : (n : Int) ≤ 4 := by omega
    go_enter Try.func15, Try.ntmps15
    go_wp2_with fail
    go_loopw [3, 22] (fun a i wr => ∃ k : Nat, k ≤ n ∧ i = .int .i64 (k : Int) ∧ a = .int .i64 ((sumK l k : Nat) : Int) ∧ Hid (setsB (l.take k) = true) ∧ Blk wr w.heap.size 24 #[.slice A n c] ∧ Below w.heap.size w wr) (fun _ i _ => n - (intOf i).toNat)
    case atStart => exact ⟨0, by omega, rfl, rfl, Lib.hid (by rw [List.take_zero]; rfl), HB.out.1, HB.out.2⟩
    case round =>
      obtain ⟨k, hk, rfl, rfl, HA, hK, hB⟩ := hrel
      by_cases hlt : k < n
      · obtain ⟨ad, s, rfl, hb, hx, hc⟩ := uset_at (HR.out.below hB) hlt
        have HX := Lib.hid hx
        have HSs := Lib.hid (HS.out s)
        have HLs := Lib.hid (HLi.out s)
        have hsk := sumK_le l k
        have hsz := hB.size
        by_cases h8 : s < 256
        · rw [decide_eq_true (show (s : Int) < 256 by omega)] at HSs
          by_cases h0 : s = 0
          · have hz : ((s : Int) == 0) = true := by simp; omega
            have HN := Lib.hid (sets_no hx (by unfold setB; simp; omega))
            clear h0 h8 hx
            go_wp2_with fail
            refine (HSs.out _).mono ?_
            rintro e w2 ⟨rfl, rfl⟩
            go_wp2
            go_ret
            exact ⟨retB (by unfold rightP; rw [HN.out]; simp), hB⟩
          · have hz : ((s : Int) == 0) = false := by simp; omega
            have HN := Lib.hid (sets_step hx (by unfold setB; simp; omega) HA.out)
            have HC := Lib.hid (sumK_step hx)
            have hcd := card_le s
            have hcr : (mem (s : Int)).length = cardN s := rfl
            clear h0 h8 hx
            generalize sumK l k = t at *
            go_wp2_with fail
            refine (HSs.out _).mono ?_
            rintro e w2 ⟨rfl, rfl⟩
            go_wp2_with fail
            refine (HLs.out _).mono ?_
            rintro e w2 ⟨A2, c2, rfl, own2, h2⟩
            rw [hcr]
            have K2 := hK.below h2 hK.lt
            have B2 := hB.trans (h2.mono hB.size)
            clear own2 h2 hK hB hcr
            generalize cardN s = d at *
            go_wp2
            go_roundw
            case rel => exact ⟨k + 1, by omega, by go_num, by rw [HC.out]; go_num, HN, K2, B2⟩
            case measure => simp [intOf] <;> omega
        · rw [decide_eq_false (show ¬ (s : Int) < 256 by omega)] at HSs
          have HN := Lib.hid (sets_no hx (by unfold setB; simp; omega))
          clear h8 hx
          go_wp2_with fail
          refine (HSs.out _).mono ?_
          rintro e w2 ⟨rfl, rfl⟩
          go_wp2
          go_ret
          exact ⟨retB (by unfold rightP; rw [HN.out]; simp), hB⟩
      · obtain rfl : n = k := by omega
        have HSets : Hid (setsB l = true) := Lib.hid (by
          have := HA.out
          rwa [show l.take n = l by rw [← HL.out]; exact List.take_length] at this)
        have HV : Hid (rightP l = eachB l (sumK l n)) := Lib.hid (by
          unfold rightP
          rw [HSets.out, HL.out, decide_eq_true l1, decide_eq_true l4]; rfl)
        have hm32 := sumK_le l n
        generalize sumK l n = M at *
        go_wp2_with fail
        go_loopw [40] (fun i wr => ∃ j : Nat, j ≤ M ∧ i = .int .i64 (j : Int) ∧ Hid (eachB l j = true) ∧ Blk wr w.heap.size 24 #[.slice A n c] ∧ Below w.heap.size w wr) (fun i _ => M - (intOf i).toNat)
        case atStart => exact ⟨0, by omega, rfl, Lib.hid rfl, hK, hB⟩
        case round =>
          clear hK hB
          obtain ⟨j, hj, rfl, HE, hK, hB⟩ := hrel
          by_cases hjt : j < M
          · have HO := Lib.hid (HOf.out (j : Int))
            have d0 := hK.cell 0
            obtain ⟨q1, q2⟩ : ∃ q1, ofV l (j : Int) = q1 := ⟨_, rfl⟩
            obtain ⟨o1, o2⟩ := q1
            have HQ := Lib.hid q2
            rw [q2] at HO
            clear q2
            go_wp2_with fail
            refine (HO.out _ hB).mono ?_
            rintro e w2 ⟨rfl, h2⟩
            have K2 := hK.below h2 hK.lt
            have B2 := hB.trans (h2.mono hB.size)
            clear h2 hK hB d0
            cases o2 with
            | true =>
              have HN : Hid (eachB l (j + 1) = true) := Lib.hid (by show (eachB l j && (ofV l (j : Int)).2) = true; rw [HE.out, HQ.out]; rfl)
              go_wp2
              go_roundw
              case rel => exact ⟨j + 1, by omega, by go_num, HN, K2, B2⟩
              case measure => simp [intOf] <;> omega
            | false =>
              have HN := Lib.hid (each_no hjt (by rw [HQ.out]))
              go_wp2
              go_ret
              exact ⟨retB (by rw [HV.out, HN.out]), B2⟩
          · obtain rfl : M = j := by omega
            go_wp2
            go_ret
            exact ⟨retB (by rw [HV.out, HE.out]), hB⟩
  · have HV : Hid (rightP l = false) := Lib.hid (by
      unfold rightP
      rw [HL.out]
      by_cases h1 : 1 ≤ n
      · rw [decide_eq_false (show ¬ n ≤ 4 by omega)]; simp
      · rw [decide_eq_false h1]; simp)
    by_cases h1 : n < 1
    · have q : decide ((n : Int) < 1) = true := decide_eq_true (by omega)
      clear hl
      go_enter Try.func15, Try.ntmps15
      go_wp2
      go_ret
      exact ⟨retB HV.out.symm, HB.out.2⟩
    · have q : decide ((n : Int) < 1) = false := decide_eq_false (by omega)
      have q2 : decide ((4 : Int) < (n : Int)) = true := decide_eq_true (by omega)
      clear hl
      go_enter Try.func15, Try.ntmps15
      go_wp2
      go_ret
      exact ⟨retB HV.out.symm, HB.out.2⟩

end Go.Proofs.Ytnckfgnhlnichaa
