/-
  The document's Pass. No statement is proved here.
-/
import Derived.Test.YtbhcpkmofnfjgaaWn
namespace Go.Proofs.Ytbhcpkmofnfjgaa
open Go.RowKit

/-- what is due so far, with one more, as the document puts it: the row behind, and whether it is in -/
def stepD (t : Tm) (s : List Tm × Bool) (x : Tm) : List Tm × Bool := if s.2 = false ∧ t.2 < x.2 then (s.1 ++ [t] ++ [x], true) else (s.1 ++ [x], s.2)
def stD (t : Tm) (L : List Tm) : List Tm × Bool := L.foldl (stepD t) ([], false)
theorem stD_step {t : Tm} {L : List Tm} {k : Nat} {x : Tm} (h : L[k]? = some x) : stD t (L.take (k + 1)) = stepD t (stD t (L.take k)) x := by
  unfold stD
  rw [List.take_add_one, h, List.foldl_append]
  rfl
theorem stD_in (t : Tm) : ∀ (L acc : List Tm), L.foldl (stepD t) (acc, true) = (acc ++ L, true)
  | [], acc => by simp
  | x :: L, acc => by
    rw [List.foldl_cons, show stepD t (acc, true) x = (acc ++ [x], true) from by unfold stepD; simp, stD_in t L]
    simp
theorem insT_skip {t x : Tm} {L : List Tm} (h : x.2 ≤ t.2) : insT (x :: L) t = x :: insT L t := by
  unfold insT lowK
  rw [List.countP_cons_of_pos (by simpa using by omega)]
  simp
theorem insT_here {t x : Tm} {L : List Tm} (hs : SortK (·.2) (x :: L)) (h : t.2 < x.2) : insT (x :: L) t = t :: x :: L := by
  have e : lowK (·.2) (x :: L) (t.2 + 1) = 0 := low_is (Nat.zero_le _) (fun k y hk _ => by omega) (fun k y _ hy => by
    have h2 : x.2 ≤ y.2 := hs.at_ (i := 0) (j := k) (Nat.zero_le _) rfl hy
    show t.2 + 1 ≤ y.2
    omega)
  unfold insT
  rw [e]
  rfl
theorem stD_out (t : Tm) : ∀ (L acc : List Tm), SortK (·.2) L → (let s := L.foldl (stepD t) (acc, false); (if s.2 = true then s.1 else s.1 ++ [t]) = acc ++ insT L t)
  | [], acc, _ => by simp [insT]
  | x :: L, acc, hs => by
    rw [List.foldl_cons]
    by_cases h : t.2 < x.2
    · rw [show stepD t (acc, false) x = (acc ++ [t] ++ [x], true) from by unfold stepD; simp [h], stD_in, insT_here hs h]
      simp
    · rw [show stepD t (acc, false) x = (acc ++ [x], false) from by unfold stepD; simp [h], insT_skip (by omega)]
      have := stD_out t L (acc ++ [x]) (List.pairwise_cons.1 hs).2
      dsimp only at this ⊢
      rw [this]
      simp
theorem stD_ins {t : Tm} {L : List Tm} (hs : SortK (·.2) L) : (if (stD t L).2 = true then (stD t L).1 else (stD t L).1 ++ [t]) = insT L t := stD_out t L [] hs
theorem stD_len (t : Tm) : ∀ (L : List Tm) (s : List Tm × Bool), (L.foldl (stepD t) s).1.length ≤ s.1.length + L.length + 1 ∧ (s.2 = true → (L.foldl (stepD t) s).1.length = s.1.length + L.length)
  | [], s => ⟨by simp, fun _ => by simp⟩
  | x :: L, s => by
    rw [List.foldl_cons]
    have ih := stD_len t L (stepD t s x)
    unfold stepD at ih ⊢
    by_cases h : s.2 = false ∧ t.2 < x.2
    · rw [if_pos h] at ih ⊢
      have := ih.2 rfl
      simp only [List.length_append, List.length_cons, List.length_nil] at this ⊢
      refine ⟨by omega, fun e => ?_⟩
      rw [h.1] at e
      cases e
    · rw [if_neg h] at ih ⊢
      simp only [List.length_append, List.length_cons, List.length_nil] at ih ⊢
      exact ⟨by omega, fun e => by have := ih.2 e; omega⟩
/-- what fires of the first, in order -/
theorem fired_step {tm : Int} {l : List Tm} {k : Nat} {x : Tm} (h : l[k]? = some x) (hx : x.2 ≤ tm) : laidL ((l.take (k + 1)).filter fun t => decide (t.2 ≤ tm)) = insT (laidL ((l.take k).filter fun t => decide (t.2 ≤ tm))) x := by
  rw [filter_step h, if_pos (decide_eq_true hx)]
  exact laidF_snoc [] _ _
theorem fired_stay {tm : Int} {l : List Tm} {k : Nat} {x : Tm} (h : l[k]? = some x) (hx : ¬ x.2 ≤ tm) : laidL ((l.take (k + 1)).filter fun t => decide (t.2 ≤ tm)) = laidL ((l.take k).filter fun t => decide (t.2 ≤ tm)) := by
  rw [filter_step h, if_neg (by simpa using hx), List.append_nil]
/-- a wheel and a row in memory of their own -/
def WTwo (now : Int) (ts ds : List Tm) (w : World) (e : Ending) (w' : World) : Prop :=
  ∃ A n c B m d, e = .returned (.tuple #[.agg #[.int .i64 now, .slice A n c], .slice B m d]) ∧ ts.length = n ∧ ds.length = m ∧ w'.ownsRow w.heap.size 44 2 (.slice A n c) n (flat tv ts) ∧ w'.ownsRow w.heap.size 44 2 (.slice B m d) m (flat tv ds) ∧ Below w.heap.size w w'

set_option maxRecDepth 100000 in
set_option maxHeartbeats 8000000 in
theorem rpass_any (now : Int) (A : Option Addr) (n c : Nat) (ts : List Tm) (tm : Int) (w : World) (hG : WR w A n ts) : Calls Try.prog 20 #[.agg #[.int .i64 now, .slice A n c], .int .i64 tm] w (WTwo tm (ts.filter fun t => !decide (t.2 ≤ tm)) (laidL (ts.filter fun t => decide (t.2 ≤ tm))) w) := by
  obtain ⟨i0, hi0, hz0, hz1, hz2⟩ := info_parts9 tm_info
  obtain ⟨K0, K1, K2, GB⟩ := blks3 w 24 24 24 #[.int .i64 now, .slice A n c] #[.int .i64 0, .slice none 0 0] #[.int .i64 tm, .slice none 0 0]
  have hz : w.heap.size + 1 + 1 + 1 ≤ (((w.alloc (.cells #[.int .i64 now, .slice A n c] 24)).alloc (.cells #[.int .i64 0, .slice none 0 0] 24)).alloc (.cells #[.int .i64 tm, .slice none 0 0] 24)).heap.size := by simp
  have HG := Lib.hid hG
  have HL := Lib.hid hG.len
  have n9 := hG.small
  clear hG
  go_enter Try.func20, Try.ntmps20
  go_wp2_with fail
  go_loopw [7, 8] (fun dv i wr => ∃ (k : Nat) (A1 : Option Addr) (n1 c1 : Nat) (A2 : Option Addr) (n2 c2 : Nat), k ≤ n ∧ n1 ≤ k ∧ n2 ≤ k ∧ i = .int .i64 (k : Int) ∧ dv = .slice A2 n2 c2 ∧ Blk wr (w.heap.size) 24 #[.int .i64 now, .slice A n c] ∧ Blk wr (w.heap.size + 1) 24 #[.int .i64 0, .slice none 0 0] ∧ Blk wr (w.heap.size + 1 + 1) 24 #[.int .i64 tm, .slice A1 n1 c1] ∧ Hid (wr.ownsRow (w.heap.size + 1 + 1 + 1) 44 2 (.slice A1 n1 c1) n1 (flat tv ((ts.take k).filter fun t => !decide (t.2 ≤ tm))) ∧ wr.ownsRow (w.heap.size + 1 + 1 + 1) 44 2 (.slice A2 n2 c2) n2 (flat tv (laidL ((ts.take k).filter fun t => decide (t.2 ≤ tm)))) ∧ ∀ j j', (Value.slice A1 n1 c1).ownBlock = some j → (Value.slice A2 n2 c2).ownBlock = some j' → j ≠ j') ∧ w.heap.size + 1 + 1 + 1 ≤ wr.heap.size ∧ Below w.heap.size w wr) (fun _ i _ => n - (intOf i).toNat)
  case atStart => exact ⟨0, none, 0, 0, none, 0, 0, Nat.zero_le _, Nat.le_refl _, Nat.le_refl _, rfl, rfl, K0, K1, K2, Lib.hid ⟨World.ownsRow_nil _ _ _ _, World.ownsRow_nil _ _ _ _, fun j j' h _ => by simp [Value.ownBlock] at h⟩, hz, GB⟩
  case round =>
    clear K0 K1 K2 GB hz
    obtain ⟨k, A1, n1, c1, A2, n2, c2, hk, hn1, hn2, rfl, rfl, K0, K1, K2, HO, hz, GB⟩ := hrel
    have z1 := K0.cell 1
    by_cases hlt : k < n
    · obtain ⟨⟨a, b⟩, hx⟩ := elem_at (l := ts) (k := k) (by rw [HL.out]; exact hlt)
      obtain ⟨ad, rfl, hb, q0, q1⟩ := tm_at (HG.out.below GB).row hx
      have HX := Lib.hid hx
      have j0 : (0 : Int) ≤ (k : Int) := by omega
      have j1 : (k : Int) < (n : Int) := by omega
      have l1 : decide ((k : Int) < (n : Int)) = true := decide_eq_true j1
      have KB := Blk.new wr 44 #[.int .i64 a, .int .i64 b]
      have K0a := K0.alloc (.cells #[.int .i64 a, .int .i64 b] 44)
      have K1a := K1.alloc (.cells #[.int .i64 a, .int .i64 b] 44)
      have K2a := K2.alloc (.cells #[.int .i64 a, .int .i64 b] 44)
      have O1 := HO.out.1.alloc (.cells #[.int .i64 a, .int .i64 b] 44)
      have O2 := HO.out.2.1.alloc (.cells #[.int .i64 a, .int .i64 b] 44)
      have HNE := Lib.hid HO.out.2.2
      have GBa := GB.alloc GB.size (.cells #[.int .i64 a, .int .i64 b] 44)
      have hza : w.heap.size + 1 + 1 + 1 ≤ (wr.alloc (.cells #[.int .i64 a, .int .i64 b] 44)).heap.size := Nat.le_trans hz (by simp)
      have hgb : w.heap.size + 1 + 1 + 1 ≤ wr.heap.size := hz
      obtain ⟨W1, hW1⟩ : ∃ W1, W1 = wr.alloc (.cells #[.int .i64 a, .int .i64 b] 44) := ⟨_, rfl⟩
      obtain ⟨gb, hgbe⟩ : ∃ gb, wr.heap.size = gb := ⟨_, rfl⟩
      have y0 := KB.cell 0
      have y1 := KB.cell 1
      have y2 := K2a.cell 1
      clear hx hb
      by_cases hd : b ≤ tm
      · have e1 : decide (tm < b) = false := decide_eq_false (by omega)
        have HF1 : Hid (((ts.take k).filter fun t => !decide (t.2 ≤ tm)) = ((ts.take (k + 1)).filter fun t => !decide (t.2 ≤ tm))) := Lib.hid (by rw [filter_step HX.out, if_neg (by simp [hd]), List.append_nil])
        have HF2 := Lib.hid (fired_step HX.out hd)
        have HSo := Lib.hid (laid_sort ((ts.take k).filter fun t => decide (t.2 ≤ tm)))
        clear hd HO K0 K1 K2 GB hz
        obtain ⟨L, hL⟩ : ∃ L, (laidL ((ts.take k).filter fun t => decide (t.2 ≤ tm))) = L := ⟨_, rfl⟩
        rw [hL] at O2 HF2 HSo
        have HLl := Lib.hid (own_len9 O2)
        have HIns := Lib.hid (stD_ins (t := (a, b)) HSo.out)
        clear hL
        go_wp2_with fail
        rw [← hW1] at KB K0a K1a K2a O1 O2 GBa hza y0 y1 y2 ⊢
        rw [hgbe] at KB hgb
        clear hW1 q0 q1 z1 y0 y1 y2 hgbe
        have HB0 := Lib.hid (And.intro K0a (And.intro K1a (And.intro K2a (And.intro O1 (And.intro O2 (And.intro GBa (And.intro hza KB)))))))
        have HR2 := Lib.hid (Reads.of_own O2)
        clear K0a K1a K2a O1 O2 GBa hza KB
        go_loopw [10, 11, 12] (fun nv dv jv wv => ∃ (j : Nat) (A3 : Option Addr) (n3 c3 : Nat) (bb : Bool), j ≤ n2 ∧ n3 ≤ j + 1 ∧ (bb = false → n3 ≤ j) ∧ nv = .slice A3 n3 c3 ∧ dv = .bool bb ∧ jv = .int .i64 (j : Int) ∧ Hid (wv.ownsRow W1.heap.size 44 2 (.slice A3 n3 c3) n3 (flat tv (stD (a, b) (L.take j)).1)) ∧ Hid (bb = (stD (a, b) (L.take j)).2) ∧ Below W1.heap.size W1 wv) (fun _ _ jv _ => n2 - (intOf jv).toNat)
        case atStart => exact ⟨0, none, 0, 0, false, Nat.zero_le _, by omega, fun _ => Nat.le_refl _, rfl, rfl, rfl, Lib.hid (World.ownsRow_nil _ _ _ _), Lib.hid rfl, Below.refl _ _⟩
        case round =>
          obtain ⟨j, A3, n3, c3, bb, hj, hn3, hn3b, rfl, rfl, rfl, HO3, HBB, HB⟩ := hrel
          have hNl := HB.size
          obtain ⟨S, hS⟩ : ∃ S, (stD (a, b) (L.take j)).1 = S := ⟨_, rfl⟩
          have HSS := Lib.hid hS
          have O3 := HO3.out
          rw [hS] at O3
          have HN3 := Lib.hid hn3b
          clear hS HO3 hn3b
          by_cases hjl : j < n2
          · obtain ⟨⟨p, q⟩, hm⟩ := elem_at (l := L) (k := j) (by rw [HLl.out]; exact hjl)
            have HM := Lib.hid hm
            obtain ⟨ad2, rfl, -, c0, c1⟩ := tm_at (HR2.out.below HB) HM.out
            have KBx := HB0.out.2.2.2.2.2.2.2.below HB HB0.out.2.2.2.2.2.2.2.lt
            have y0 := KBx.cell 0
            have y1 := KBx.cell 1
            have HST : Hid (stD (a, b) (L.take (j + 1)) = stepD (a, b) (stD (a, b) (L.take j)) (p, q)) := Lib.hid (stD_step hm)
            have HPair : Hid (stD (a, b) (L.take j) = (S, bb)) := Lib.hid (by rw [HBB.out, ← HSS.out])
            have i0' : (0 : Int) ≤ (j : Int) := by omega
            have i1 : (j : Int) < (n2 : Int) := by omega
            have l2 : decide ((j : Int) < (n2 : Int)) = true := decide_eq_true i1
            clear hm HSS HBB
            cases bb with
            | true =>
              have HN1 : Hid (stD (a, b) (L.take (j + 1)) = (S ++ [(p, q)], true)) := Lib.hid (by rw [HST.out, HPair.out]; unfold stepD; simp)
              clear HPair HST HN3
              go_wp2_with fail
              go_quiet (fail)
              replace O3 : (wr.drewN nq).ownsRow _ _ _ _ _ _ := O3
              replace HB := below_drewN HB nq
              generalize wr.drewN nq = V at O3 HB ⊢
              clear c0 c1 y0 y1
              obtain ⟨ad3, e3, -, c0, c1⟩ := tm_at (HR2.out.below HB) HM.out
              injection e3 with e3
              subst e3
              have KBx := HB0.out.2.2.2.2.2.2.2.below HB HB0.out.2.2.2.2.2.2.2.lt
              have y0 := KBx.cell 0
              have y1 := KBx.cell 1
              go_wp2_with (
                at_builtin
                refine wpList_append_any _ rfl (.tmp 59) (.tmp 64) 22 rfl (W1.heap.size) 44 i0 (.agg #[.int .i64 0, .int .i64 0]) 2 16 Try.underlying22 hi0 hz0 hz1 hz2 rfl (by decide) (.slice A3 n3 c3) n3 (flat tv S) rfl (O3.alloc (.cells #[.int .i64 p, .int .i64 q] 44)) _ (some ⟨V.heap.size, 0, none⟩) 1 1 (flat tv [(p, q)]) rfl (reads_tm V p q) (tv_ones _) (by simp only [maxLen]; omega) (by omega) (Nat.le_trans HB.size (by simp)) ?_
                intro v9 w9 own9 grow9 hw9
                rw [← flat_append] at own9
                have Oa := O3.alloc (.cells #[.int .i64 p, .int .i64 q] 44)
                have HBn := (HB.alloc HB.size (.cells #[.int .i64 p, .int .i64 q] 44)).grown grow9 (Nat.le_trans HB.size (by simp)) (fun g hg => (Oa.lt g hg).1)
                obtain ⟨A9, c9, rfl, _, _⟩ := own_reads own9
                have HTw9 := Lib.hid (And.intro own9 HBn)
                clear own9 grow9 hw9 HBn Oa)
              have HO9 : Hid (w9.ownsRow W1.heap.size 44 2 (.slice A9 (n3 + 1) c9) (n3 + 1) (flat tv (stD (a, b) (L.take (j + 1))).1)) := Lib.hid (by rw [HN1.out]; exact HTw9.out.1)
              have HB9 := HTw9.out.2
              have HE2 : Hid (true = (stD (a, b) (L.take (j + 1))).2) := Lib.hid (by rw [HN1.out])
              clear HTw9 O3 KBx HN1
              go_roundw
              case rel => exact ⟨j + 1, A9, n3 + 1, c9, true, by omega, by omega, (fun h => by cases h), rfl, rfl, by go_num, HO9, HE2, HB9⟩
              case measure => simp [intOf] <;> omega
            | false =>
              have hn3c := HN3.out rfl
              clear HN3
              by_cases hlt2 : b < q
              · have e2 : decide (b < q) = true := decide_eq_true hlt2
                have HN1 : Hid (stD (a, b) (L.take (j + 1)) = (S ++ [(a, b)] ++ [(p, q)], true)) := Lib.hid (by rw [HST.out, HPair.out]; unfold stepD; simp [hlt2])
                clear HPair HST
                go_wp2_with fail
                go_quiet (fail)
                replace O3 : (wr.drewN nq).ownsRow _ _ _ _ _ _ := O3
                replace HB := below_drewN HB nq
                generalize wr.drewN nq = V at O3 HB ⊢
                clear c0 c1 y0 y1
                obtain ⟨ad3, e3, -, c0, c1⟩ := tm_at (HR2.out.below HB) HM.out
                injection e3 with e3
                subst e3
                have KBx := HB0.out.2.2.2.2.2.2.2.below HB HB0.out.2.2.2.2.2.2.2.lt
                have y0 := KBx.cell 0
                have y1 := KBx.cell 1
                go_upto_region 17 with (
                  at_builtin
                  refine wpList_append_any _ rfl (.tmp 55) (.tmp 57) 22 rfl (W1.heap.size) 44 i0 (.agg #[.int .i64 0, .int .i64 0]) 2 16 Try.underlying22 hi0 hz0 hz1 hz2 rfl (by decide) (.slice A3 n3 c3) n3 (flat tv S) rfl (O3.alloc (.cells #[.int .i64 a, .int .i64 b] 44)) _ (some ⟨V.heap.size, 0, none⟩) 1 1 (flat tv [(a, b)]) rfl (reads_tm V a b) (tv_ones _) (by simp only [maxLen]; omega) (by omega) (Nat.le_trans HB.size (by simp)) ?_
                  intro v9 w8 own9 grow9 hw9
                  rw [← flat_append] at own9
                  have Oa := O3.alloc (.cells #[.int .i64 a, .int .i64 b] 44)
                  have HBn := (HB.alloc HB.size (.cells #[.int .i64 a, .int .i64 b] 44)).grown grow9 (Nat.le_trans HB.size (by simp)) (fun g hg => (Oa.lt g hg).1)
                  obtain ⟨A8, c8, rfl, _, _⟩ := own_reads own9
                  have HTw8 := Lib.hid (And.intro own9 HBn)
                  clear own9 grow9 hw9 HBn Oa)
                replace O3 := HTw8.out.1
                replace HB := HTw8.out.2
                clear HTw8
                clear c0 c1 y0 y1
                obtain ⟨ad3, e3, -, c0, c1⟩ := tm_at (HR2.out.below HB) HM.out
                injection e3 with e3
                subst e3
                have KBx := HB0.out.2.2.2.2.2.2.2.below HB HB0.out.2.2.2.2.2.2.2.lt
                have y0 := KBx.cell 0
                have y1 := KBx.cell 1
                go_wp2_with (
                  at_builtin
                  refine wpList_append_any _ rfl (.tmp 59) (.tmp 64) 22 rfl (W1.heap.size) 44 i0 (.agg #[.int .i64 0, .int .i64 0]) 2 16 Try.underlying22 hi0 hz0 hz1 hz2 rfl (by decide) (.slice A8 (n3 + 1) c8) (n3 + 1) (flat tv (S ++ [(a, b)])) rfl (O3.alloc (.cells #[.int .i64 p, .int .i64 q] 44)) _ (some ⟨w8.heap.size, 0, none⟩) 1 1 (flat tv [(p, q)]) rfl (reads_tm w8 p q) (tv_ones _) (by simp only [maxLen]; omega) (by omega) (Nat.le_trans HB.size (by simp)) ?_
                  intro v9 w9 own9 grow9 hw9
                  rw [← flat_append] at own9
                  have Oa := O3.alloc (.cells #[.int .i64 p, .int .i64 q] 44)
                  have HBn := (HB.alloc HB.size (.cells #[.int .i64 p, .int .i64 q] 44)).grown grow9 (Nat.le_trans HB.size (by simp)) (fun g hg => (Oa.lt g hg).1)
                  obtain ⟨A9, c9, rfl, _, _⟩ := own_reads own9
                  have HTw9 := Lib.hid (And.intro own9 HBn)
                  clear own9 grow9 hw9 HBn Oa)
                have HO9 : Hid (w9.ownsRow W1.heap.size 44 2 (.slice A9 (n3 + 1 + 1) c9) (n3 + 1 + 1) (flat tv (stD (a, b) (L.take (j + 1))).1)) := Lib.hid (by rw [HN1.out]; exact HTw9.out.1)
                have HB9 := HTw9.out.2
                have HE2 : Hid (true = (stD (a, b) (L.take (j + 1))).2) := Lib.hid (by rw [HN1.out])
                clear HTw9 O3 KBx HN1
                go_roundw
                case rel => exact ⟨j + 1, A9, n3 + 1 + 1, c9, true, by omega, by omega, (fun h => by cases h), rfl, rfl, by go_num, HO9, HE2, HB9⟩
                case measure => simp [intOf] <;> omega
              · have e2 : decide (b < q) = false := decide_eq_false hlt2
                have HN1 : Hid (stD (a, b) (L.take (j + 1)) = (S ++ [(p, q)], false)) := Lib.hid (by rw [HST.out, HPair.out]; unfold stepD; simp [hlt2])
                clear HPair HST
                go_wp2_with fail
                go_quiet (fail)
                replace O3 : (wr.drewN nq).ownsRow _ _ _ _ _ _ := O3
                replace HB := below_drewN HB nq
                generalize wr.drewN nq = V at O3 HB ⊢
                clear c0 c1 y0 y1
                obtain ⟨ad3, e3, -, c0, c1⟩ := tm_at (HR2.out.below HB) HM.out
                injection e3 with e3
                subst e3
                have KBx := HB0.out.2.2.2.2.2.2.2.below HB HB0.out.2.2.2.2.2.2.2.lt
                have y0 := KBx.cell 0
                have y1 := KBx.cell 1
                go_wp2_with (
                  at_builtin
                  refine wpList_append_any _ rfl (.tmp 59) (.tmp 64) 22 rfl (W1.heap.size) 44 i0 (.agg #[.int .i64 0, .int .i64 0]) 2 16 Try.underlying22 hi0 hz0 hz1 hz2 rfl (by decide) (.slice A3 n3 c3) n3 (flat tv S) rfl (O3.alloc (.cells #[.int .i64 p, .int .i64 q] 44)) _ (some ⟨V.heap.size, 0, none⟩) 1 1 (flat tv [(p, q)]) rfl (reads_tm V p q) (tv_ones _) (by simp only [maxLen]; omega) (by omega) (Nat.le_trans HB.size (by simp)) ?_
                  intro v9 w9 own9 grow9 hw9
                  rw [← flat_append] at own9
                  have Oa := O3.alloc (.cells #[.int .i64 p, .int .i64 q] 44)
                  have HBn := (HB.alloc HB.size (.cells #[.int .i64 p, .int .i64 q] 44)).grown grow9 (Nat.le_trans HB.size (by simp)) (fun g hg => (Oa.lt g hg).1)
                  obtain ⟨A9, c9, rfl, _, _⟩ := own_reads own9
                  have HTw9 := Lib.hid (And.intro own9 HBn)
                  clear own9 grow9 hw9 HBn Oa)
                have HO9 : Hid (w9.ownsRow W1.heap.size 44 2 (.slice A9 (n3 + 1) c9) (n3 + 1) (flat tv (stD (a, b) (L.take (j + 1))).1)) := Lib.hid (by rw [HN1.out]; exact HTw9.out.1)
                have HB9 := HTw9.out.2
                have HE2 : Hid (false = (stD (a, b) (L.take (j + 1))).2) := Lib.hid (by rw [HN1.out])
                clear HTw9 O3 KBx HN1
                go_roundw
                case rel => exact ⟨j + 1, A9, n3 + 1, c9, false, by omega, by omega, (fun _ => by omega), rfl, rfl, by go_num, HO9, HE2, HB9⟩
                case measure => simp [intOf] <;> omega
          · obtain rfl : j = n2 := by omega
            have l2 : decide ((j : Int) < (j : Int)) = false := decide_eq_false (by omega)
            have e1t : L.take j = L := by rw [← HLl.out]; exact List.take_length
            rw [e1t] at HSS HBB
            have K0b := HB0.out.1.below HB HB0.out.1.lt
            have K1b := HB0.out.2.1.below HB HB0.out.2.1.lt
            have K2b := HB0.out.2.2.1.below HB HB0.out.2.2.1.lt
            have O1b := own_below HB0.out.2.2.2.1 HB
            have GBb := HB0.out.2.2.2.2.2.1.trans (HB.mono HB0.out.2.2.2.2.2.1.size)
            have hzb := Nat.le_trans HB0.out.2.2.2.2.2.2.1 HB.size
            have KBx := HB0.out.2.2.2.2.2.2.2.below HB HB0.out.2.2.2.2.2.2.2.lt
            have y0 := KBx.cell 0
            have y1 := KBx.cell 1
            have HO1L := Lib.hid HB0.out.2.2.2.1
            have hzW := HB0.out.2.2.2.2.2.2.1
            have hj2 : j ≤ k := hn2
            clear e1t
            cases bb with
            | true =>
              have HI : Hid (S = insT L (a, b)) := Lib.hid (by rw [← HIns.out, if_pos HBB.out.symm, HSS.out])
              have hlen := own_len9 O3
              rw [HI.out, insT_len, HLl.out] at hlen
              have HO9 := O3
              rw [HI.out, ← HF2.out] at HO9
              rw [HF1.out] at O1b
              have HFin := Lib.hid (And.intro O1b (And.intro (own_down HO9 hzW) (fun j1 j2 (h1 : (Value.slice A1 n1 c1).ownBlock = some j1) (h2 : (Value.slice A3 n3 c3).ownBlock = some j2) => (show j1 ≠ j2 from fun e => by have := (HO1L.out.lt j1 h1).2; have := (O3.lt j2 h2).1; omega))))
              clear O3 O1b KBx HO9
              go_wp2_with fail
              go_roundw
              case rel => exact ⟨k + 1, A1, n1, c1, A3, n3, c3, by omega, by omega, by omega, by go_num, rfl, K0b, K1b, K2b, HFin, hzb, GBb⟩
              case measure => simp [intOf] <;> omega
            | false =>
              have HI : Hid (S ++ [(a, b)] = insT L (a, b)) := Lib.hid (by rw [← HIns.out, if_neg (by rw [← HBB.out]; simp), HSS.out])
              have hn3c := HN3.out rfl
              have hNb := HB.size
              go_wp2_with (
                at_builtin
                refine wpList_append_any _ rfl (.tmp 68) (.tmp 70) 22 rfl (W1.heap.size) 44 i0 (.agg #[.int .i64 0, .int .i64 0]) 2 16 Try.underlying22 hi0 hz0 hz1 hz2 rfl (by decide) (.slice A3 n3 c3) n3 (flat tv S) rfl (O3.alloc (.cells #[.int .i64 a, .int .i64 b] 44)) _ (some ⟨wr.heap.size, 0, none⟩) 1 1 (flat tv [(a, b)]) rfl (reads_tm wr a b) (tv_ones _) (by simp only [maxLen]; omega) (by omega) (Nat.le_trans HB.size (by simp)) ?_
                intro v9 w9 own9 grow9 hw9
                rw [← flat_append] at own9
                have Oa := O3.alloc (.cells #[.int .i64 a, .int .i64 b] 44)
                have Oa1 := O1b.alloc (.cells #[.int .i64 a, .int .i64 b] 44)
                have K0c := (K0b.alloc (.cells #[.int .i64 a, .int .i64 b] 44)).own Oa grow9 (by omega)
                have K1c := (K1b.alloc (.cells #[.int .i64 a, .int .i64 b] 44)).own Oa grow9 (by omega)
                have K2c := (K2b.alloc (.cells #[.int .i64 a, .int .i64 b] 44)).own Oa grow9 (by omega)
                have GBc := (GBb.alloc GBb.size (.cells #[.int .i64 a, .int .i64 b] 44)).grown grow9 (Nat.le_trans GBb.size (by simp)) (fun g hg => by have := (Oa.lt g hg).1; omega)
                have hzc : w.heap.size + 1 + 1 + 1 ≤ w9.heap.size := Nat.le_trans hzb (Nat.le_trans (by simp) grow9.size)
                have O1c := own_other Oa1 grow9 (fun j1 j2 h1 h2 e => by have := (HO1L.out.lt j1 h1).2; have := (Oa.lt j2 h2).1; omega)
                rw [HI.out, ← HF2.out] at own9
                rw [HF1.out] at O1c
                obtain ⟨A9, c9, rfl, _, _⟩ := own_reads own9
                have HFin := Lib.hid (And.intro O1c (And.intro (own_down own9 hzW) (fun j1 j2 (h1 : (Value.slice A1 n1 c1).ownBlock = some j1) (h2 : (Value.slice A9 (n3 + 1) c9).ownBlock = some j2) => (show j1 ≠ j2 from fun e => by have := (HO1L.out.lt j1 h1).2; have := (own9.lt j2 h2).1; omega))))
                have HT := Lib.hid (And.intro K0c (And.intro K1c (And.intro K2c (And.intro GBc hzc))))
                clear own9 grow9 hw9 Oa Oa1 K0c K1c K2c GBc hzc O1c K0b K1b K2b GBb hzb O1b O3 KBx y0 y1)
              have K0d := HT.out.1
              have K1d := HT.out.2.1
              have K2d := HT.out.2.2.1
              have GBd := HT.out.2.2.2.1
              have hzd := HT.out.2.2.2.2
              clear HT
              go_roundw
              case rel => exact ⟨k + 1, A1, n1, c1, A9, n3 + 1, c9, by omega, by omega, by omega, by go_num, rfl, K0d, K1d, K2d, HFin, hzd, GBd⟩
              case measure => simp [intOf] <;> omega
      · have e1 : decide (tm < b) = true := decide_eq_true (by omega)
        have HF1 : Hid (((ts.take k).filter fun t => !decide (t.2 ≤ tm)) ++ [(a, b)] = ((ts.take (k + 1)).filter fun t => !decide (t.2 ≤ tm))) := Lib.hid (by rw [filter_step HX.out, if_pos (by simp [hd])])
        have HF2 := Lib.hid (fired_stay HX.out hd)
        clear hd HO K0 K1 K2 GB hz
        go_upto_region 8 with fail
        rw [← hW1] at KB K0a K1a K2a O1 O2 GBa hza y0 y1 y2 ⊢
        rw [hgbe] at y0 y1
        clear hW1 hgbe q0 q1 z1
        go_wp2_with (
          at_builtin
          refine wpList_append_any _ rfl (.tmp 32) (.tmp 34) 22 rfl (w.heap.size + 1 + 1 + 1) 44 i0 (.agg #[.int .i64 0, .int .i64 0]) 2 16 Try.underlying22 hi0 hz0 hz1 hz2 rfl (by decide) (.slice A1 n1 c1) n1 (flat tv ((ts.take k).filter fun t => !decide (t.2 ≤ tm))) rfl (O1.alloc (.cells #[.int .i64 a, .int .i64 b] 44)) _ (some ⟨W1.heap.size, 0, none⟩) 1 1 (flat tv [(a, b)]) rfl (reads_tm W1 a b) (tv_ones _) (by simp only [maxLen]; omega) (by omega) (Nat.le_trans hza (by simp)) ?_
          intro v9 w9 own9 grow9 hw9
          rw [← flat_append] at own9
          have Oa := O1.alloc (.cells #[.int .i64 a, .int .i64 b] 44)
          have Oa2 := O2.alloc (.cells #[.int .i64 a, .int .i64 b] 44)
          have K0c := (K0a.alloc (.cells #[.int .i64 a, .int .i64 b] 44)).own Oa grow9 (by omega)
          have K1c := (K1a.alloc (.cells #[.int .i64 a, .int .i64 b] 44)).own Oa grow9 (by omega)
          have K2c := (K2a.alloc (.cells #[.int .i64 a, .int .i64 b] 44)).own Oa grow9 (by omega)
          have GBc := (GBa.alloc GBa.size (.cells #[.int .i64 a, .int .i64 b] 44)).grown grow9 (Nat.le_trans GBa.size (by simp)) (fun g hg => by have := (Oa.lt g hg).1; omega)
          have hzc : w.heap.size + 1 + 1 + 1 ≤ w9.heap.size := Nat.le_trans hza (Nat.le_trans (by simp) grow9.size)
          have O2c := own_other Oa2 grow9 (fun j1 j2 h1 h2 e => HNE.out j2 j1 h2 h1 e.symm)
          have hne9 := ne_other Oa2 (fun j1 j2 h1 h2 e => HNE.out j2 j1 h2 h1 e.symm) hw9
          rw [HF1.out] at own9
          rw [← HF2.out] at O2c
          obtain ⟨A9, c9, rfl, _, _⟩ := own_reads own9
          have HT := Lib.hid (And.intro K0c (And.intro K1c (And.intro K2c (And.intro GBc (And.intro hzc (And.intro own9 (And.intro O2c hne9)))))))
          have x1 := K2c.cell 1
          have x2 := K2c.frozen 1
          clear own9 grow9 hw9 Oa Oa2 K0c K1c K2c GBc hzc O2c hne9 K0a K1a K2a GBa hza O1 O2 KB y0 y1 y2)
        have HP := Lib.hid (set1 (y := .slice A9 (n1 + 1) c9) HT.out.2.2.1 HT.out.2.2.2.1 (by omega))
        have K0d := HT.out.1.far (p := ⟨w.heap.size + 1 + 1, 1, none⟩) (by dsimp only; omega) (.slice A9 (n1 + 1) c9)
        have K1d := HT.out.2.1.far (p := ⟨w.heap.size + 1 + 1, 1, none⟩) (by dsimp only; omega) (.slice A9 (n1 + 1) c9)
        have hzd : w.heap.size + 1 + 1 + 1 ≤ (w9.setCell ⟨w.heap.size + 1 + 1, 1, none⟩ (.slice A9 (n1 + 1) c9)).heap.size := by have := HT.out.2.2.2.2.1; simpa [World.setCell] using this
        have HFin := Lib.hid (And.intro (own_set HT.out.2.2.2.2.2.1 (g := w.heap.size + 1 + 1) (by omega) 1 (.slice A9 (n1 + 1) c9)) (And.intro (own_set HT.out.2.2.2.2.2.2.1 (g := w.heap.size + 1 + 1) (by omega) 1 (.slice A9 (n1 + 1) c9)) (fun j1 j2 (h1 : (Value.slice A9 (n1 + 1) c9).ownBlock = some j1) (h2 : (Value.slice A2 n2 c2).ownBlock = some j2) => (HT.out.2.2.2.2.2.2.2 j2 j1 h2 h1).symm)))
        clear x1 x2 HT
        go_roundw
        case rel => exact ⟨k + 1, A9, n1 + 1, c9, A2, n2, c2, by omega, by omega, by omega, by go_num, rfl, K0d, K1d, HP.out.1, HFin, hzd, HP.out.2⟩
        case measure => simp [intOf] <;> omega
    · obtain rfl : k = n := by omega
      have l1 : decide ((k : Int) < (k : Int)) = false := decide_eq_false (by omega)
      have e1 : ts.take k = ts := by rw [← HL.out]; exact List.take_length
      rw [e1] at HO
      have x0 := K2.cell 0
      have x1 := K2.cell 1
      have d0 := K1.cell 0
      have d1 := K1.cell 1
      have f0 := K1.frozen 0
      have f1 := K1.frozen 1
      have HP := Lib.hid (put2 (x := .int .i64 tm) (y := .slice A1 n1 c1) K1 GB (by omega))
      have HO1 := Lib.hid (own_set (own_set HO.out.1 (g := w.heap.size + 1) (by omega) 0 (.int .i64 tm)) (g := w.heap.size + 1) (by omega) 1 (.slice A1 n1 c1))
      have HO2 := Lib.hid (own_set (own_set HO.out.2.1 (g := w.heap.size + 1) (by omega) 0 (.int .i64 tm)) (g := w.heap.size + 1) (by omega) 1 (.slice A1 n1 c1))
      clear K0 K1 K2 GB
      go_wp2_with fail
      exact bodyPost_ret (v := .tuple #[.agg #[.int .i64 tm, .slice A1 n1 c1], .slice A2 n2 c2]) (results_cell_row_tmp Try.results20 _ _ _ _ _ _ rfl HP.out.1 Try.underlying24 rfl (by kernel_rfl)) rfl ⟨_, _, _, _, _, _, rfl, own_len9 HO1.out, own_len9 HO2.out, own_down HO1.out (by omega), own_down HO2.out (by omega), HP.out.2⟩

end Go.Proofs.Ytbhcpkmofnfjgaa
