/-
  The document's gangs: Same. No statement is proved here.
-/
import Derived.Test.YtglphgfaknofcaaKk
namespace Go.Proofs.Ytglphgfaknofcaa
open Go.RowKit Go.Maps

set_option maxRecDepth 100000 in
set_option maxHeartbeats 8000000 in
theorem dsame_any (A : Option Addr) (n c : Nat) (gs : List Gn) (B : Option Addr) (m d : Nat) (hs : List Gn) (w : World) (hG : NW w A n gs) (hH : NW w B m hs) :
    Calls Try.prog 13 #[.agg #[.slice A n c], .agg #[.slice B m d]] w (Said (.bool (decide (gsM gs = gsM hs))) w) := by
  obtain ⟨Q0, Q1, QB⟩ := blks2 w 24 24 #[.slice A n c] #[.slice B m d]
  have HG := Lib.hid hG
  have HH := Lib.hid hH
  have n9 : n ≤ 100 := hG.small
  have hl1 := hG.len
  have hl2 := hH.len
  have HQB := Lib.hid QB
  have q0 := Q0.cell 0
  have q1 := Q1.cell 0
  have HQ1 := Lib.hid Q1
  clear hG hH Q0 Q1 QB
  by_cases hnm : n = m
  · subst hnm
    have q : ((n : Int) == (n : Int)) = true := by simp
    have HL := Lib.hid (And.intro hl1 hl2)
    clear hl1 hl2
    go_enter Try.func13, Try.ntmps13
    go_wp2_with fail
    clear q0 q1
    generalize (w.alloc (.cells #[.slice A n c] 24)).alloc (.cells #[.slice B n d] 24) = w0 at *
    go_loopw [18] (fun iv wr => ∃ k : Nat, k ≤ n ∧ iv = .int .i64 (k : Int) ∧ Hid ((gsM gs).take k = (gsM hs).take k) ∧ Below w0.heap.size w0 wr) (fun iv _ => n - (intOf iv).toNat)
    case atStart => exact ⟨0, by omega, rfl, Lib.hid (by simp), Below.refl _ _⟩
    case round =>
      obtain ⟨k, hk, rfl, HT, hB0⟩ := hrel
      have hB := HQB.out.trans (hB0.mono HQB.out.size)
      have Q1r := HQ1.out.below hB0 HQ1.out.lt
      by_cases hlt : k < n
      · obtain ⟨⟨id, A2, m2, c2, is⟩, hx⟩ := elem_at (l := gs) (k := k) (by rw [HL.out.1]; exact hlt)
        obtain ⟨⟨id', B2, m3, c3, js⟩, hy⟩ := elem_at (l := hs) (k := k) (by rw [HL.out.2]; exact hlt)
        obtain ⟨ad, rfl, l1, d0, d1⟩ := (HG.out.below hB).at_ hx
        obtain ⟨ad', rfl, l2, e0, e1⟩ := (HH.out.below hB).at_ hy
        have hw1 := ((HG.out.below hB).each _ (List.mem_of_getElem? hx)).1
        have hw2 := ((HH.out.below hB).each _ (List.mem_of_getElem? hy)).1
        obtain ⟨K1, G1⟩ := box1 wr 36 #[.int .i64 id, .slice A2 m2 c2]
        have hz : (wr.alloc (.cells #[.int .i64 id, .slice A2 m2 c2] 36)).heap.size = wr.heap.size + 1 := by simp
        obtain ⟨K2, G2⟩ := box1 (wr.alloc (.cells #[.int .i64 id, .slice A2 m2 c2] 36)) 36 #[.int .i64 id', .slice B2 m3 c3]
        rw [hz] at K2
        have K1' := K1.alloc (.cells #[.int .i64 id', .slice B2 m3 c3] 36)
        have a0 := K1'.cell 0
        have a1 := K1'.cell 1
        have b0 := K2.cell 0
        have b1 := K2.cell 1
        have G12 := G1.trans (G2.mono G1.size)
        have q2 := (Q1r.alloc (.cells #[.int .i64 id, .slice A2 m2 c2] 36)).cell 0
        have f0 : (wr.alloc (.cells #[.int .i64 id, .slice A2 m2 c2] 36)).cell? (ad'.add (k * 2)) = some (.int .i64 id') := (G1.cell (by rw [block_of_add]; exact l2)).trans e0
        have f1 : (wr.alloc (.cells #[.int .i64 id, .slice A2 m2 c2] 36)).cell? ⟨(ad'.add (k * 2)).block, (ad'.add (k * 2)).off + 1, none⟩ = some (.slice B2 m3 c3) := (G1.cell (p := ⟨(ad'.add (k * 2)).block, (ad'.add (k * 2)).off + 1, none⟩) (by rw [block_of_add]; exact l2)).trans e1
        have HSm := Lib.hid (sames_any A2 m2 c2 is B2 m3 c3 js _ (hw1.below G12) (hw2.below G12))
        have HB := Lib.hid hB0
        have HBw := Lib.hid hB
        have HGG := Lib.hid G12
        have HXY := Lib.hid (And.intro (gsM_at hx) (gsM_at hy))
        have i1 : (0 : Int) ≤ (k : Int) := by omega
        have i2 : (k : Int) < (n : Int) := by omega
        clear hx hy hw1 hw2 K1 K2 K1' G1 G2 G12 hB hB0 hz Q1r
        have HNo : Hid ((id, is) ≠ (id', js) → decide (gsM gs = gsM hs) = false) := Lib.hid (fun hne => decide_eq_false (fun e => hne (by
          have h1 := HXY.out.1
          rw [e, HXY.out.2] at h1
          exact (Option.some.inj h1).symm)))
        by_cases hid : id = id'
        · subst hid
          by_cases hij : is = js
          · subst hij
            rw [decide_eq_true rfl] at HSm
            have HT2 : Hid ((gsM gs).take (k + 1) = (gsM hs).take (k + 1)) := Lib.hid (by rw [List.take_add_one, List.take_add_one, HXY.out.1, HXY.out.2, HT.out]; rfl)
            go_wp2_with fail
            refine HSm.out.mono ?_
            rintro e w5 ⟨rfl, h9⟩
            have HB5 := Lib.hid (HB.out.trans ((HGG.out.trans (h9.mono HGG.out.size)).mono HB.out.size))
            clear d0 d1 e0 e1 a0 a1 b0 b1 f0 f1 h9 q2
            go_wp2
            go_roundw
            case rel => exact ⟨k + 1, by omega, by go_num, HT2, HB5.out⟩
            case measure => simp [intOf]; omega
          · rw [decide_eq_false hij] at HSm
            have HV := Lib.hid (HNo.out (fun e => hij (by injection e)))
            clear hij
            go_wp2_with fail
            refine HSm.out.mono ?_
            rintro e w5 ⟨rfl, h9⟩
            have HB5 := Lib.hid (HBw.out.trans ((HGG.out.trans (h9.mono HGG.out.size)).mono HBw.out.size))
            clear d0 d1 e0 e1 a0 a1 b0 b1 f0 f1 h9 q2
            go_wp2
            go_ret
            exact ⟨retB HV.out.symm, HB5.out⟩
        · have HV := Lib.hid (HNo.out (fun e => hid (by injection e)))
          have qi : (id == id') = false := by simpa using hid
          go_wp2_with fail
          go_ret
          exact ⟨retB HV.out.symm, HBw.out.trans (HGG.out.mono HBw.out.size)⟩
      · obtain rfl : k = n := by omega
        have HV : Hid (decide (gsM gs = gsM hs) = true) := Lib.hid (decide_eq_true (by
          have h := HT.out
          rwa [List.take_of_length_le (by rw [gsM_len, HL.out.1]; exact Nat.le_refl _), List.take_of_length_le (by rw [gsM_len, HL.out.2]; exact Nat.le_refl _)] at h))
        have HBw := Lib.hid hB
        go_wp2
        go_ret
        exact ⟨retB HV.out.symm, HBw.out⟩
  · have q : ((n : Int) == (m : Int)) = false := by simp; omega
    have HV : Hid (decide (gsM gs = gsM hs) = false) := Lib.hid (decide_eq_false (fun e => hnm (by have := congrArg List.length e; rw [gsM_len, gsM_len, hl1, hl2] at this; exact this)))
    clear hnm hl1 hl2
    go_enter Try.func13, Try.ntmps13
    go_wp2_with fail
    go_ret
    exact ⟨retB HV.out.symm, HQB.out⟩

end Go.Proofs.Ytglphgfaknofcaa
