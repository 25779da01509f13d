/-
  ClockTimes' walk: so many times a span.
-/
import Derived.Test.YtdoplpgmnoefeaaDoorCs
namespace Go.Proofs.YtdoplpgmnoefeaaDoor
open Go.RowKit

theorem times_bad {d n : Int} (h : rt d = false) : timesE d n = 120 ∧ timesV d n = 0 := ⟨if_neg (by simp [h]), if_neg (by simp [h])⟩
theorem times_neg {d n : Int} (h : rt d = true) (hn : n < 0) : timesE d n = 2 ∧ timesV d n = 0 := ⟨(if_pos h).trans (if_pos hn), (if_pos h).trans (if_pos hn)⟩
theorem times_pos {d n : Int} (h : rt d = true) (hn : ¬ n < 0) : timesE d n = 0 := (if_pos h).trans (if_neg hn)

set_option maxHeartbeats 8000000 in
set_option maxRecDepth 100000 in
theorem times_walk (A0 : Option Addr) (n c : Nat) (ps : List (Int × Int)) (w : World) (hl : ps.length = n) (hr : Prow w A0 ps)
    (hk : Calls Tryd.prog 10 #[] w fun e w' => e = .returned (.bool true) ∧ Below w.heap.size w w') (hn : n ≤ maxLen) :
    Calls Tryd.prog 5 #[.slice A0 n c] w fun e w' => e = .returned (.bool true) ∧ Below w.heap.size w w' := by
  unfold maxLen at hn
  have HK := Lib.hid hk
  have HR := Lib.hid hr
  have HL := Lib.hid hl
  clear hk hr hl
  go_enter Tryd.func5, Tryd.ntmps5
  go_wp2_with fail
  refine HK.out.mono ?_
  rintro e w1 ⟨rfl, hB1⟩
  go_wp2_with fail
  go_loopw [13] (fun i wr => ∃ k : Nat, k ≤ n ∧ k ≤ 40 ∧ i = .int .i64 k ∧ Below w.heap.size w wr) (fun i _ => n - (intOf i).toNat)
  case atStart => exact ⟨0, by omega, by omega, rfl, hB1⟩
  case round =>
    obtain ⟨k, hk, hk40, rfl, hB⟩ := hrel
    by_cases hlt : k < n
    · obtain ⟨⟨t, d⟩, hm⟩ : ∃ m, ps[k]? = some m := ⟨_, List.getElem?_eq_getElem (by have := HL.out; omega)⟩
      obtain ⟨ad, rfl, hb, c0, c1⟩ := HR.out k t d hm
      have d0 := (hB.cell (p := ad.add (k * 2)) (by rw [block_of_add]; exact hb)).trans c0
      have d1 := (hB.cell (p := ad.add (k * 2 + 1)) (by rw [block_of_add]; exact hb)).trans c1
      rw [add_next] at d1
      have hsz := hB.size
      clear c0 c1 hm
      by_cases h40 : k = 40
      · have h40' : ((k : Int) == 40) = true := by simp; omega
        clear h40
        go_wp2
        go_ret
        exact ⟨rfl, hB.alloc hB.size _⟩
      · have h40' : ((k : Int) == 40) = false := by simp; omega
        have hk1 : k + 1 ≤ 40 := by omega
        clear h40
        have HT := Lib.hid (fun u => times_any t d u)
        have HRt := Lib.hid (fun u => right_any t u)
        by_cases hn0 : d < 0
        · cases ht : rt t with
          | false =>
            obtain ⟨a1, a2⟩ := times_bad (n := d) ht
            rw [a1, a2] at HT
            rw [ht] at HRt
            have HN := Lib.hid (fun u => answers_any 0 120 false 0 2 u (.inl ⟨rfl, rfl, rfl⟩))
            clear a1 a2 ht
            go_wp2_with fail
            refine (HT.out _).mono ?_
            rintro e w2 ⟨rfl, hw2⟩
            have g0 : w2.cell? ⟨wr.heap.size, 0, none⟩ = some (.int .i64 t) := (hw2.cell (p := ⟨wr.heap.size, 0, none⟩) (by simp)).trans (by rw [World.cell?_alloc_at _ _ _ _ rfl]; rfl)
            have g1 : w2.cell? ⟨wr.heap.size, 1, none⟩ = some (.int .i64 d) := (hw2.cell (p := ⟨wr.heap.size, 1, none⟩) (by simp)).trans (by rw [World.cell?_alloc_at _ _ _ _ rfl]; rfl)
            have hb2 : Below w.heap.size w w2 := (hB.alloc hB.size _).trans (hw2.mono (by simp; omega))
            clear hw2
            go_wp2_with fail
            refine (HRt.out _).mono ?_
            rintro e w' ⟨rfl, rfl⟩
            go_wp2_with fail
            refine (HN.out _).mono ?_
            rintro e w' ⟨rfl, rfl⟩
            go_wp2
            go_roundw
            case rel => exact ⟨k + 1, by omega, by omega, by go_num, hb2⟩
            case measure => simp [intOf]; omega
          | true =>
            obtain ⟨a1, a2⟩ := times_neg ht hn0
            rw [a1, a2] at HT
            rw [ht] at HRt
            have HN := Lib.hid (fun u => answers_any 0 2 true 0 2 u (.inr (.inl ⟨rfl, by omega, rfl, rfl⟩)))
            clear a1 a2 ht
            go_wp2_with fail
            refine (HT.out _).mono ?_
            rintro e w2 ⟨rfl, hw2⟩
            have g0 : w2.cell? ⟨wr.heap.size, 0, none⟩ = some (.int .i64 t) := (hw2.cell (p := ⟨wr.heap.size, 0, none⟩) (by simp)).trans (by rw [World.cell?_alloc_at _ _ _ _ rfl]; rfl)
            have g1 : w2.cell? ⟨wr.heap.size, 1, none⟩ = some (.int .i64 d) := (hw2.cell (p := ⟨wr.heap.size, 1, none⟩) (by simp)).trans (by rw [World.cell?_alloc_at _ _ _ _ rfl]; rfl)
            have hb2 : Below w.heap.size w w2 := (hB.alloc hB.size _).trans (hw2.mono (by simp; omega))
            clear hw2
            go_wp2_with fail
            refine (HRt.out _).mono ?_
            rintro e w' ⟨rfl, rfl⟩
            go_wp2_with fail
            refine (HN.out _).mono ?_
            rintro e w' ⟨rfl, rfl⟩
            go_wp2
            go_roundw
            case rel => exact ⟨k + 1, by omega, by omega, by go_num, hb2⟩
            case measure => simp [intOf]; omega
        · cases ht : rt t with
          | false =>
            obtain ⟨a1, a2⟩ := times_bad (n := d) ht
            rw [a1, a2] at HT
            rw [ht] at HRt
            have HN := Lib.hid (fun u => answers_any 0 120 false 0 0 u (.inl ⟨rfl, rfl, rfl⟩))
            clear a1 a2 ht
            go_wp2_with fail
            refine (HT.out _).mono ?_
            rintro e w2 ⟨rfl, hw2⟩
            have g0 : w2.cell? ⟨wr.heap.size, 0, none⟩ = some (.int .i64 t) := (hw2.cell (p := ⟨wr.heap.size, 0, none⟩) (by simp)).trans (by rw [World.cell?_alloc_at _ _ _ _ rfl]; rfl)
            have g1 : w2.cell? ⟨wr.heap.size, 1, none⟩ = some (.int .i64 d) := (hw2.cell (p := ⟨wr.heap.size, 1, none⟩) (by simp)).trans (by rw [World.cell?_alloc_at _ _ _ _ rfl]; rfl)
            have hb2 : Below w.heap.size w w2 := (hB.alloc hB.size _).trans (hw2.mono (by simp; omega))
            clear hw2
            go_wp2_with fail
            refine (HRt.out _).mono ?_
            rintro e w' ⟨rfl, rfl⟩
            go_wp2_with fail
            refine (HRt.out _).mono ?_
            rintro e w' ⟨rfl, rfl⟩
            go_wp2_with fail
            refine (HN.out _).mono ?_
            rintro e w' ⟨rfl, rfl⟩
            go_wp2
            go_roundw
            case rel => exact ⟨k + 1, by omega, by omega, by go_num, hb2⟩
            case measure => simp [intOf]; omega
          | true =>
            have a1 := times_pos ht hn0
            rw [a1] at HT
            have HRT := Lib.hid (fun u => rtimes_any t d u ht (by omega))
            rw [ht] at HRt
            have HN := Lib.hid (fun u => answers_any (timesV t d) 0 true (timesV t d) 0 u (.inr (.inr ⟨rfl, rfl, rfl, rfl⟩)))
            clear a1 ht
            go_wp2_with fail
            refine (HT.out _).mono ?_
            rintro e w2 ⟨rfl, hw2⟩
            have g0 : w2.cell? ⟨wr.heap.size, 0, none⟩ = some (.int .i64 t) := (hw2.cell (p := ⟨wr.heap.size, 0, none⟩) (by simp)).trans (by rw [World.cell?_alloc_at _ _ _ _ rfl]; rfl)
            have g1 : w2.cell? ⟨wr.heap.size, 1, none⟩ = some (.int .i64 d) := (hw2.cell (p := ⟨wr.heap.size, 1, none⟩) (by simp)).trans (by rw [World.cell?_alloc_at _ _ _ _ rfl]; rfl)
            have hb2 : Below w.heap.size w w2 := (hB.alloc hB.size _).trans (hw2.mono (by simp; omega))
            clear hw2
            go_wp2_with fail
            refine (HRt.out _).mono ?_
            rintro e w' ⟨rfl, rfl⟩
            go_wp2_with fail
            refine (HRT.out _).mono ?_
            rintro e w' ⟨rfl, rfl⟩
            go_wp2_with fail
            refine (HRt.out _).mono ?_
            rintro e w' ⟨rfl, rfl⟩
            go_wp2_with fail
            refine (HN.out _).mono ?_
            rintro e w' ⟨rfl, rfl⟩
            go_wp2
            go_roundw
            case rel => exact ⟨k + 1, by omega, by omega, by go_num, hb2⟩
            case measure => simp [intOf]; omega
    · obtain rfl : n = k := by omega
      go_wp2
      go_ret
      exact ⟨rfl, hB⟩

end Go.Proofs.YtdoplpgmnoefeaaDoor
