/-
  May: the landed one and the document's. No statement is proved here.
-/
import Derived.Test.YtkbgpmgnkegipaaDoorDe
import Derived.Test.YtkbgpmgnkegipaaDoorMl
import Derived.Test.YtkbgpmgnkegipaaDoorGd
import Derived.Test.YtkbgpmgnkegipaaDoorGq
import Derived.Test.YtkbgpmgnkegipaaDoorGr
namespace Go.Proofs.YtkbgpmgnkegipaaDoor
open Go.RowKit Go.Maps

def mayB (l : List Int) : Bool := setsB l && fitsB (l.map mem)
theorem mem_in {s c : Int} (h : c ∈ mem s) : 0 ≤ c ∧ c < 8 := by
  unfold mem memb at h
  obtain ⟨k, hk, rfl⟩ := List.mem_map.1 (List.mem_filter.1 h).1
  have := List.mem_range.1 hk
  omega
theorem rows_mem (l : List Int) : RowsG (l.map mem) := fun row hr c hc => by
  obtain ⟨s, _, rfl⟩ := List.mem_map.1 hr
  exact mem_in hc

set_option maxRecDepth 100000 in
set_option maxHeartbeats 8000000 in
theorem may_any (A : Option Addr) (n c : Nat) (l : List Int) (w : World) (hG : SW w A n l) (hD : Db w) : Calls Tryd.prog 6 #[.slice A n c] w (Said (.bool (mayB l)) w) := by
  obtain ⟨ji, hi1, hy0, hy1, hy2⟩ := info_parts9 slice_info
  have HM := Lib.hid (areSets_any A n c l w hG)
  have HG := Lib.hid hG
  have HL := Lib.hid hG.len
  have HDB := Lib.hid hD
  have HDL := Lib.hid hD.lt
  clear hD
  cases hs : setsB l with
  | false =>
    have HV : Hid (mayB l = false) := Lib.hid (by unfold mayB; rw [hs]; rfl)
    rw [hs] at HM
    clear hs hG
    go_enter Tryd.func6, Tryd.ntmps6
    go_wp2_with fail
    refine HM.out.mono ?_
    rintro e w1 ⟨rfl, rfl⟩
    go_wp2_with fail
    go_ret
    exact ⟨by rw [HV.out]; rfl, Below.refl _ _⟩
  | true =>
    have HV : Hid (mayB l = fitsB (l.map mem)) := Lib.hid (by unfold mayB; rw [hs]; rfl)
    have hn8 : n ≤ 8 := by unfold setsB at hs; rw [Bool.and_eq_true, decide_eq_true_eq] at hs; have := hs.1; have := HL.out; omega
    rw [hs] at HM
    have HN8 := Lib.hid hn8
    clear hs hG
    go_enter Tryd.func6, Tryd.ntmps6
    go_wp2_with fail
    refine HM.out.mono ?_
    rintro e w1 ⟨rfl, rfl⟩
    go_wp2_with fail
    go_loopw [3, 11] (fun sv iv wr => ∃ (k : Nat) (A5 : Option Addr) (c5 : Nat) (G : List Gg), k ≤ n ∧ sv = .slice A5 k c5 ∧ iv = .int .i64 (k : Int) ∧ Hid (GO wr w.heap.size A5 k c5 G ∧ gsI G = (l.take k).map mem ∧ ∀ g ∈ G, g.2.1 ≤ 8) ∧ Hid (Below w.heap.size w wr)) (fun _ iv _ => n - (intOf iv).toNat)
    case atStart => exact ⟨0, none, 0, [], Nat.zero_le _, rfl, rfl, Lib.hid ⟨⟨World.ownsRow_nil _ _ _ _, fun g hg => (by cases hg), fun g hg => (by cases hg)⟩, rfl, fun g hg => (by cases hg)⟩, Lib.hid (Below.refl _ _)⟩
    case round =>
      obtain ⟨k, A5, c5, G, hk, rfl, rfl, HS, HB⟩ := hrel
      by_cases hlt : k < n
      · obtain ⟨s, hx⟩ := elem_at (l := l) (k := k) (by rw [HL.out]; exact hlt)
        obtain ⟨ad, rfl, _, d0⟩ := (HG.out.below HB.out).at_ hx
        have hr := HG.out.rng s (List.mem_of_getElem? hx)
        have HT : Hid ((l.take (k + 1)).map mem = (l.take k).map mem ++ [mem s]) := Lib.hid (by rw [List.take_add_one, hx, List.map_append]; rfl)
        have HLi := Lib.hid (list_any s wr hr.1 hr.2 (HDB.out.below HB.out HDL.out))
        obtain ⟨ms, hms⟩ : ∃ m, mem s = m := ⟨_, rfl⟩
        have HM8 : Hid (ms.length ≤ 8) := Lib.hid (by rw [← hms]; exact length_memb s 8)
        rw [hms] at HLi HT
        have i1 : (0 : Int) ≤ (k : Int) := by omega
        have i2 : (k : Int) < (n : Int) := by omega
        have l1 : decide ((k : Int) < (n : Int)) = true := decide_eq_true i2
        have l1n : decide (k < n) = true := decide_eq_true hlt
        have HJ : Hid (k + 1 ≤ n) := Lib.hid hlt
        clear hx hms hr hlt
        go_wp2_with fail
        refine HLi.out.mono ?_
        rintro e w4 ⟨A4, c4, rfl, own4, h9⟩
        have HX : Hid (GO w4 w.heap.size A5 k c5 G ∧ w4.ownsRow w.heap.size 3 1 (.slice A4 ms.length c4) ms.length (vs ms) ∧ Below w.heap.size w w4 ∧ ∀ j j', (Value.slice A4 ms.length c4).ownBlock = some j → (Value.slice A5 k c5).ownBlock = some j' → j ≠ j') := Lib.hid ⟨HS.out.1.below h9, own_down own4 HB.out.size, HB.out.trans (h9.mono HB.out.size), fun j j' hj hj' => by
          have h1 := (own4.lt j hj).1
          have h2 := (HS.out.1.row.lt j' hj').2
          omega⟩
        obtain ⟨q, hq⟩ : ∃ q, ms.length = q := ⟨_, rfl⟩
        rw [hq] at HX HM8 ⊢
        clear own4 h9 d0 l1 l1n
        go_wp2_with (
          at_builtin
          refine wpList_append_any _ rfl (.tmp 15) (.tmp 18) 42 rfl w.heap.size 27 ji (.slice none 0 0) 1 24 Tryd.underlying42 hi1 hy0 hy1 hy2 rfl (by decide) (.slice A5 k c5) k (flat gv G) rfl (HX.out.1.row.alloc _) _ (some ⟨w4.heap.size, 0, none⟩) 1 1 (flat gv [(A4, q, c4, ms)]) rfl (reads_new _ _ _ rfl (by simp)) (gv_ones _) (by have := HN8.out; have := HJ.out; simp only [maxLen]; omega) (by have := HN8.out; have := HJ.out; omega) (by have := HX.out.2.2.1.size; simp; omega) ?_
          intro v9 w9 own9 grow9 ne9
          rw [← flat_append] at own9
          obtain ⟨A9, c9, rfl, _, _⟩ := own_reads own9
          have HF : Hid (GO w9 w.heap.size A9 (k + 1) c9 (G ++ [(A4, q, c4, ms)])) := Lib.hid (HX.out.1.more HX.out.2.1 HX.out.2.2.2 grow9 own9 ne9)
          have HB9 : Hid (Below w.heap.size w w9) := Lib.hid ((HX.out.2.2.1.alloc HX.out.2.2.1.size _).grown grow9 (HX.out.2.2.1.alloc HX.out.2.2.1.size _).size (fun j hj => (HX.out.1.row.lt j hj).1))
          clear own9 grow9 ne9)
        have HSN : Hid (GO w9 w.heap.size A9 (k + 1) c9 (G ++ [(A4, q, c4, ms)]) ∧ gsI (G ++ [(A4, q, c4, ms)]) = (l.take (k + 1)).map mem ∧ ∀ g ∈ G ++ [(A4, q, c4, ms)], g.2.1 ≤ 8) := Lib.hid ⟨HF.out, by rw [HT.out, ← HS.out.2.1]; unfold gsI; rw [List.map_append]; rfl, fun g hg => by
          rcases List.mem_append.1 hg with hg | hg
          · exact HS.out.2.2 g hg
          · rw [List.mem_singleton] at hg
            rw [hg]
            exact HM8.out⟩
        go_roundw
        case rel => exact ⟨k + 1, A9, c9, _, HJ.out, rfl, by go_num, HSN, HB9⟩
        case measure => have := HJ.out; simp [intOf] <;> omega
      · obtain rfl : n = k := by omega
        have l1 : decide ((n : Int) < (n : Int)) = false := decide_eq_false (by omega)
        have l1n : decide (n < n) = false := decide_eq_false (by omega)
        have hg : gsI G = l.map mem := by rw [HS.out.2.1, ← HL.out, List.take_length]
        have hgw : GW wr A5 n G := ⟨Reads.of_own HS.out.1.row, by have := HN8.out; omega, fun g hx => ⟨⟨Reads.of_own (HS.out.1.mem g hx), by have := HS.out.2.2 g hx; omega⟩, by have := HS.out.2.2 g hx; omega⟩⟩
        have HFi := Lib.hid (fits_any A5 n c5 G wr hgw (by rw [hg]; exact rows_mem l))
        rw [hg] at HFi
        obtain ⟨b, hb⟩ : ∃ b, fitsB (l.map mem) = b := ⟨_, rfl⟩
        rw [hb] at HFi HV
        clear hg hgw hb hlt hk
        go_wp2_with fail
        refine HFi.out.mono ?_
        rintro e w2 ⟨rfl, h9⟩
        have HB9 := Lib.hid (HB.out.trans (h9.mono HB.out.size))
        clear h9
        go_wp2_with fail
        go_ret
        exact ⟨by rw [HV.out]; rfl, HB9.out⟩

set_option maxRecDepth 100000 in
set_option maxHeartbeats 8000000 in
theorem rmay_any (A : Option Addr) (n c : Nat) (l : List Int) (w : World) (hG : SW w A n l) : Calls Tryd.prog 7 #[.slice A n c] w (Said (.bool (mayB l)) w) := by
  obtain ⟨ji, hi1, hy0, hy1, hy2⟩ := info_parts9 slice_info
  have HM := Lib.hid (rmasks_any A n c l w hG)
  have HG := Lib.hid hG
  have HL := Lib.hid hG.len

  cases hs : setsB l with
  | false =>
    have HV : Hid (mayB l = false) := Lib.hid (by unfold mayB; rw [hs]; rfl)
    rw [hs] at HM
    clear hs hG
    go_enter Tryd.func7, Tryd.ntmps7
    go_wp2_with fail
    refine HM.out.mono ?_
    rintro e w1 ⟨rfl, rfl⟩
    go_wp2_with fail
    go_ret
    exact ⟨by rw [HV.out]; rfl, Below.refl _ _⟩
  | true =>
    have HV : Hid (mayB l = fitsB (l.map mem)) := Lib.hid (by unfold mayB; rw [hs]; rfl)
    have hn8 : n ≤ 8 := by unfold setsB at hs; rw [Bool.and_eq_true, decide_eq_true_eq] at hs; have := hs.1; have := HL.out; omega
    rw [hs] at HM
    have HN8 := Lib.hid hn8
    clear hs hG
    go_enter Tryd.func7, Tryd.ntmps7
    go_wp2_with fail
    refine HM.out.mono ?_
    rintro e w1 ⟨rfl, rfl⟩
    go_wp2_with fail
    go_loopw [3, 13] (fun sv iv wr => ∃ (k : Nat) (A5 : Option Addr) (c5 : Nat) (G : List Gg), k ≤ n ∧ sv = .slice A5 k c5 ∧ iv = .int .i64 (k : Int) ∧ Hid (GO wr w.heap.size A5 k c5 G ∧ gsI G = (l.take k).map mem ∧ ∀ g ∈ G, g.2.1 ≤ 8) ∧ Hid (Below w.heap.size w wr)) (fun _ iv _ => n - (intOf iv).toNat)
    case atStart => exact ⟨0, none, 0, [], Nat.zero_le _, rfl, rfl, Lib.hid ⟨⟨World.ownsRow_nil _ _ _ _, fun g hg => (by cases hg), fun g hg => (by cases hg)⟩, rfl, fun g hg => (by cases hg)⟩, Lib.hid (Below.refl _ _)⟩
    case round =>
      obtain ⟨k, A5, c5, G, hk, rfl, rfl, HS, HB⟩ := hrel
      by_cases hlt : k < n
      · obtain ⟨s, hx⟩ := elem_at (l := l) (k := k) (by rw [HL.out]; exact hlt)
        obtain ⟨ad, rfl, _, d0⟩ := (HG.out.below HB.out).at_ hx
        have hr := HG.out.rng s (List.mem_of_getElem? hx)
        have HT : Hid ((l.take (k + 1)).map mem = (l.take k).map mem ++ [mem s]) := Lib.hid (by rw [List.take_add_one, hx, List.map_append]; rfl)
        have HLi := Lib.hid (rlist_any s wr hr.1)
        obtain ⟨ms, hms⟩ : ∃ m, mem s = m := ⟨_, rfl⟩
        have HM8 : Hid (ms.length ≤ 8) := Lib.hid (by rw [← hms]; exact length_memb s 8)
        rw [hms] at HLi HT
        have i1 : (0 : Int) ≤ (k : Int) := by omega
        have i2 : (k : Int) < (n : Int) := by omega
        have l1 : decide ((k : Int) < (n : Int)) = true := decide_eq_true i2
        have l1n : decide (k < n) = true := decide_eq_true hlt
        have HJ : Hid (k + 1 ≤ n) := Lib.hid hlt
        clear hx hms hr hlt
        go_wp2_with fail
        refine HLi.out.mono ?_
        rintro e w4 ⟨A4, c4, rfl, own4, h9⟩
        have HX : Hid (GO w4 w.heap.size A5 k c5 G ∧ w4.ownsRow w.heap.size 3 1 (.slice A4 ms.length c4) ms.length (vs ms) ∧ Below w.heap.size w w4 ∧ ∀ j j', (Value.slice A4 ms.length c4).ownBlock = some j → (Value.slice A5 k c5).ownBlock = some j' → j ≠ j') := Lib.hid ⟨HS.out.1.below h9, own_down own4 HB.out.size, HB.out.trans (h9.mono HB.out.size), fun j j' hj hj' => by
          have h1 := (own4.lt j hj).1
          have h2 := (HS.out.1.row.lt j' hj').2
          omega⟩
        obtain ⟨q, hq⟩ : ∃ q, ms.length = q := ⟨_, rfl⟩
        rw [hq] at HX HM8 ⊢
        clear own4 h9 d0 l1 l1n
        go_wp2_with (
          at_builtin
          refine wpList_append_any _ rfl (.tmp 17) (.tmp 20) 42 rfl w.heap.size 27 ji (.slice none 0 0) 1 24 Tryd.underlying42 hi1 hy0 hy1 hy2 rfl (by decide) (.slice A5 k c5) k (flat gv G) rfl (HX.out.1.row.alloc _) _ (some ⟨w4.heap.size, 0, none⟩) 1 1 (flat gv [(A4, q, c4, ms)]) rfl (reads_new _ _ _ rfl (by simp)) (gv_ones _) (by have := HN8.out; have := HJ.out; simp only [maxLen]; omega) (by have := HN8.out; have := HJ.out; omega) (by have := HX.out.2.2.1.size; simp; omega) ?_
          intro v9 w9 own9 grow9 ne9
          rw [← flat_append] at own9
          obtain ⟨A9, c9, rfl, _, _⟩ := own_reads own9
          have HF : Hid (GO w9 w.heap.size A9 (k + 1) c9 (G ++ [(A4, q, c4, ms)])) := Lib.hid (HX.out.1.more HX.out.2.1 HX.out.2.2.2 grow9 own9 ne9)
          have HB9 : Hid (Below w.heap.size w w9) := Lib.hid ((HX.out.2.2.1.alloc HX.out.2.2.1.size _).grown grow9 (HX.out.2.2.1.alloc HX.out.2.2.1.size _).size (fun j hj => (HX.out.1.row.lt j hj).1))
          clear own9 grow9 ne9)
        have HSN : Hid (GO w9 w.heap.size A9 (k + 1) c9 (G ++ [(A4, q, c4, ms)]) ∧ gsI (G ++ [(A4, q, c4, ms)]) = (l.take (k + 1)).map mem ∧ ∀ g ∈ G ++ [(A4, q, c4, ms)], g.2.1 ≤ 8) := Lib.hid ⟨HF.out, by rw [HT.out, ← HS.out.2.1]; unfold gsI; rw [List.map_append]; rfl, fun g hg => by
          rcases List.mem_append.1 hg with hg | hg
          · exact HS.out.2.2 g hg
          · rw [List.mem_singleton] at hg
            rw [hg]
            exact HM8.out⟩
        go_roundw
        case rel => exact ⟨k + 1, A9, c9, _, HJ.out, rfl, by go_num, HSN, HB9⟩
        case measure => have := HJ.out; simp [intOf] <;> omega
      · obtain rfl : n = k := by omega
        have l1 : decide ((n : Int) < (n : Int)) = false := decide_eq_false (by omega)
        have l1n : decide (n < n) = false := decide_eq_false (by omega)
        have hg : gsI G = l.map mem := by rw [HS.out.2.1, ← HL.out, List.take_length]
        have hgw : GW wr A5 n G := ⟨Reads.of_own HS.out.1.row, by have := HN8.out; omega, fun g hx => ⟨⟨Reads.of_own (HS.out.1.mem g hx), by have := HS.out.2.2 g hx; omega⟩, by have := HS.out.2.2 g hx; omega⟩⟩
        have HMa := Lib.hid (rmatch_any A5 n c5 G n wr [] none 0 0 hgw ⟨Reads.none_, by omega⟩ (by omega))
        rw [List.drop_zero, hg] at HMa
        clear hg hgw hlt hk
        unfold fitsB at HV
        cases hr : matchR (l.map mem) [] with
        | none =>
          rw [hr] at HMa HV
          clear hr
          go_wp2_with fail
          refine HMa.out.mono ?_
          rintro e w2 ⟨h9, hres⟩
          obtain rfl := hres
          have HB9 := Lib.hid (HB.out.trans (h9.mono HB.out.size))
          clear h9
          go_wp2_with fail
          go_ret
          exact ⟨by rw [HV.out]; rfl, HB9.out⟩
        | some M =>
          rw [hr] at HMa HV
          clear hr
          go_wp2_with fail
          refine HMa.out.mono ?_
          rintro e w2 ⟨h9, hres⟩
          obtain ⟨A6, n6, c6, rfl, _⟩ := hres
          have HB9 := Lib.hid (HB.out.trans (h9.mono HB.out.size))
          clear h9
          go_wp2_with fail
          go_ret
          exact ⟨by rw [HV.out]; rfl, HB9.out⟩

end Go.Proofs.YtkbgpmgnkegipaaDoor
