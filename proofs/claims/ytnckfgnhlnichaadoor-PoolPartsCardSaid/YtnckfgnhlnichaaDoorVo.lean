/-
  What an op does with the layer, and as the document says. No statement is proved here.
-/
import Derived.Test.YtnckfgnhlnichaaDoorVs
namespace Go.Proofs.YtnckfgnhlnichaaDoor
open Go.RowKit

/-- what comes of an op -/
def runR (L : List Nat) (k a b cpu : Int) (s : Nat) : List Nat × Int × Int :=
  if (IntKind.u64.wrap k).tmod 6 = 0 ∨ (IntKind.u64.wrap k).tmod 6 = 1 then splitR L a s
  else if (IntKind.u64.wrap k).tmod 6 = 2 then ((joinR L a b).1, 0, (joinR L a b).2)
  else moveR L cpu b
theorem run_no {L : List Nat} {k a b cpu : Int} {s : Nat} (hr : rightP L = false) : runR L k a b cpu s = ([], 0, 180) := by
  have es : splitR L a s = ([], 0, 180) := if_neg (by rw [hr]; simp)
  have ej : joinR L a b = ([], 180) := if_neg (by rw [hr]; simp)
  have em : moveR L cpu b = ([], 0, 180) := if_neg (by rw [hr]; simp)
  unfold runR
  rw [es, ej, em]
  split
  · rfl
  · split <;> rfl

set_option maxRecDepth 100000 in
set_option maxHeartbeats 16000000 in
theorem run_any {G : World → Prop} (hG : Steady G) (hSp : PSplitOk G) (hJo : PJoinOk G) (hMo : PMoveOk G) (A : Option Addr) (n c : Nat) (L : List Nat) (k a b cpu : Int) (s : Nat) (w : World) (hAt : PAt G w A n c L) (hs : s < 4294967296) :
    Calls Tryd.prog 7 #[.agg (OpV k a b cpu s), .agg #[.slice A n c]] w (GivesP3 (runR L k a b cpu s) w) := by
  unfold OpV
  obtain ⟨K2, K3, K4, B⟩ := blks3 w 35 26 26 #[.int .i64 k, .int .i64 a, .int .i64 b, .int .i64 cpu, .int .u32 (s : Int)] #[.slice A n c] #[.slice none 0 0]
  have HG := Lib.hid hG
  have HS := Lib.hid hs
  have At := Lib.hid (((hAt.below hG ((Below.refl _ w).alloc (Nat.le_refl _) (.cells #[.int .i64 k, .int .i64 a, .int .i64 b, .int .i64 cpu, .int .u32 (s : Int)] 35))).below hG ((Below.refl _ _).alloc (Nat.le_refl _) (.cells #[.slice A n c] 26))).below hG ((Below.refl _ _).alloc (Nat.le_refl _) (.cells #[.slice none 0 0] 26)))
  have HSp := Lib.hid hSp
  have HJo := Lib.hid hJo
  have HMo := Lib.hid hMo
  have HB := Lib.hid B
  have HK2 := Lib.hid K2
  have HK3 := Lib.hid K3
  have HK4 := Lib.hid K4
  clear hs hAt hG hSp hJo hMo K2 K3 K4 B
  unfold runR
  by_cases h0 : (IntKind.u64.wrap k).tmod 6 = 0
  · skip
    have g0 : ((IntKind.u64.wrap k).tmod 6 == 0) = true := by simpa using h0
    obtain ⟨R, N1, E1, hq⟩ : ∃ R N1 E1, splitR L a s = (R, N1, E1) := ⟨_, _, _, rfl⟩
    have HQ := Lib.hid hq
    have HV : Hid ((if (IntKind.u64.wrap k).tmod 6 = 0 ∨ (IntKind.u64.wrap k).tmod 6 = 1 then splitR L a s else if (IntKind.u64.wrap k).tmod 6 = 2 then ((joinR L a b).1, 0, (joinR L a b).2) else moveR L cpu b) = (R, N1, E1)) := Lib.hid (by rw [if_pos (by first | exact .inl h0 | exact .inr h0)]; exact hq)
    rw [HV.out]
    clear hq h0
    go_enter Tryd.func7, Tryd.ntmps7
    have B := HB.out
    have K2 := HK2.out
    have K3 := HK3.out
    have K4 := HK4.out
    go_wp2_with fail
    refine (HSp.out _ _ _ _ a s _ At.out HS.out).mono ?_
    rintro e w4 ⟨A4, c4, rfl, own4, h9⟩
    rw [HQ.out] at own4 ⊢
    obtain ⟨n4, hn4⟩ : ∃ n4, R.length = n4 := ⟨_, rfl⟩
    rw [hn4] at own4 ⊢
    have hlo : w.heap.size + 1 + 1 < ((((w.alloc (.cells #[.int .i64 k, .int .i64 a, .int .i64 b, .int .i64 cpu, .int .u32 (s : Int)] 35)).alloc (.cells #[.slice A n c] 26)).alloc (.cells #[.slice none 0 0] 26))).heap.size := by simp
    replace K4 := K4.below h9 K4.lt
    have B4 := B.trans (h9.mono B.size)
    have k4 := K4.cell 0
    have f4 := K4.frozen 0
    obtain ⟨P1, P2⟩ := put1 (x := .slice A4 n4 c4) K4 B4 (by omega)
    have HKF := Lib.hid (And.intro (put1 (x := .slice A4 n4 c4) P1 P2 (by omega)) (own_set (own_set own4 (g := w.heap.size + 1 + 1) hlo 0 (.slice A4 n4 c4)) (g := w.heap.size + 1 + 1) hlo 0 (.slice A4 n4 c4)))
    have HN := Lib.hid hn4
    have HLO := Lib.hid hlo
    clear K4 B4 P1 P2 own4 h9 hn4 hlo B K2 K3
    go_wp2_with fail
    exact bodyPost_ret (v := .tuple #[.agg #[.slice A4 n4 c4], .int .i64 N1, .int .i64 E1]) (results_pools3 Tryd.results7 _ _ _ _ _ _ rfl HKF.out.1.1 Tryd.underlying26 rfl (by kernel_rfl)) rfl ⟨A4, c4, by simp only [HN.out], by simp only [HN.out]; exact own_down HKF.out.2 (by have := HLO.out; omega), HKF.out.1.2⟩
  · by_cases h1 : (IntKind.u64.wrap k).tmod 6 = 1
    · skip
      have g0 : ((IntKind.u64.wrap k).tmod 6 == 0) = false := by simpa using h0
      have g1 : ((IntKind.u64.wrap k).tmod 6 == 1) = true := by simpa using h1
      obtain ⟨R, N1, E1, hq⟩ : ∃ R N1 E1, splitR L a s = (R, N1, E1) := ⟨_, _, _, rfl⟩
      have HQ := Lib.hid hq
      have HV : Hid ((if (IntKind.u64.wrap k).tmod 6 = 0 ∨ (IntKind.u64.wrap k).tmod 6 = 1 then splitR L a s else if (IntKind.u64.wrap k).tmod 6 = 2 then ((joinR L a b).1, 0, (joinR L a b).2) else moveR L cpu b) = (R, N1, E1)) := Lib.hid (by rw [if_pos (by first | exact .inl h1 | exact .inr h1)]; exact hq)
      rw [HV.out]
      clear hq h0 h1
      go_enter Tryd.func7, Tryd.ntmps7
      have B := HB.out
      have K2 := HK2.out
      have K3 := HK3.out
      have K4 := HK4.out
      go_wp2_with fail
      refine (HSp.out _ _ _ _ a s _ At.out HS.out).mono ?_
      rintro e w4 ⟨A4, c4, rfl, own4, h9⟩
      rw [HQ.out] at own4 ⊢
      obtain ⟨n4, hn4⟩ : ∃ n4, R.length = n4 := ⟨_, rfl⟩
      rw [hn4] at own4 ⊢
      have hlo : w.heap.size + 1 + 1 < ((((w.alloc (.cells #[.int .i64 k, .int .i64 a, .int .i64 b, .int .i64 cpu, .int .u32 (s : Int)] 35)).alloc (.cells #[.slice A n c] 26)).alloc (.cells #[.slice none 0 0] 26))).heap.size := by simp
      replace K4 := K4.below h9 K4.lt
      have B4 := B.trans (h9.mono B.size)
      have k4 := K4.cell 0
      have f4 := K4.frozen 0
      obtain ⟨P1, P2⟩ := put1 (x := .slice A4 n4 c4) K4 B4 (by omega)
      have HKF := Lib.hid (And.intro (put1 (x := .slice A4 n4 c4) P1 P2 (by omega)) (own_set (own_set own4 (g := w.heap.size + 1 + 1) hlo 0 (.slice A4 n4 c4)) (g := w.heap.size + 1 + 1) hlo 0 (.slice A4 n4 c4)))
      have HN := Lib.hid hn4
      have HLO := Lib.hid hlo
      clear K4 B4 P1 P2 own4 h9 hn4 hlo B K2 K3
      go_wp2_with fail
      exact bodyPost_ret (v := .tuple #[.agg #[.slice A4 n4 c4], .int .i64 N1, .int .i64 E1]) (results_pools3 Tryd.results7 _ _ _ _ _ _ rfl HKF.out.1.1 Tryd.underlying26 rfl (by kernel_rfl)) rfl ⟨A4, c4, by simp only [HN.out], by simp only [HN.out]; exact own_down HKF.out.2 (by have := HLO.out; omega), HKF.out.1.2⟩
    · by_cases h2 : (IntKind.u64.wrap k).tmod 6 = 2
      · skip
        have g0 : ((IntKind.u64.wrap k).tmod 6 == 0) = false := by simpa using h0
        have g1 : ((IntKind.u64.wrap k).tmod 6 == 1) = false := by simpa using h1
        have g2 : ((IntKind.u64.wrap k).tmod 6 == 2) = true := by simpa using h2
        obtain ⟨R, E1, hq⟩ : ∃ R E1, joinR L a b = (R, E1) := ⟨_, _, rfl⟩
        have HQ := Lib.hid hq
        have HV : Hid ((if (IntKind.u64.wrap k).tmod 6 = 0 ∨ (IntKind.u64.wrap k).tmod 6 = 1 then splitR L a s else if (IntKind.u64.wrap k).tmod 6 = 2 then ((joinR L a b).1, 0, (joinR L a b).2) else moveR L cpu b) = (R, 0, E1)) := Lib.hid (by rw [if_neg (by rintro (h | h); exact h0 h; exact h1 h), if_pos h2, hq])
        rw [HV.out]
        clear hq h0 h1 h2
        go_enter Tryd.func7, Tryd.ntmps7
        have B := HB.out
        have K2 := HK2.out
        have K3 := HK3.out
        have K4 := HK4.out
        go_wp2_with fail
        refine (HJo.out _ _ _ _ a b _ At.out).mono ?_
        rintro e w4 ⟨A4, c4, rfl, own4, h9⟩
        rw [HQ.out] at own4 ⊢
        obtain ⟨n4, hn4⟩ : ∃ n4, R.length = n4 := ⟨_, rfl⟩
        rw [hn4] at own4 ⊢
        have hlo : w.heap.size + 1 + 1 < ((((w.alloc (.cells #[.int .i64 k, .int .i64 a, .int .i64 b, .int .i64 cpu, .int .u32 (s : Int)] 35)).alloc (.cells #[.slice A n c] 26)).alloc (.cells #[.slice none 0 0] 26))).heap.size := by simp
        replace K4 := K4.below h9 K4.lt
        have B4 := B.trans (h9.mono B.size)
        have k4 := K4.cell 0
        have f4 := K4.frozen 0
        obtain ⟨P1, P2⟩ := put1 (x := .slice A4 n4 c4) K4 B4 (by omega)
        have HKF := Lib.hid (And.intro (put1 (x := .slice A4 n4 c4) P1 P2 (by omega)) (own_set (own_set own4 (g := w.heap.size + 1 + 1) hlo 0 (.slice A4 n4 c4)) (g := w.heap.size + 1 + 1) hlo 0 (.slice A4 n4 c4)))
        have HN := Lib.hid hn4
        have HLO := Lib.hid hlo
        clear K4 B4 P1 P2 own4 h9 hn4 hlo B K2 K3
        go_wp2_with fail
        exact bodyPost_ret (v := .tuple #[.agg #[.slice A4 n4 c4], .int .i64 0, .int .i64 E1]) (results_pools3 Tryd.results7 _ _ _ _ _ _ rfl HKF.out.1.1 Tryd.underlying26 rfl (by kernel_rfl)) rfl ⟨A4, c4, by simp only [HN.out], by simp only [HN.out]; exact own_down HKF.out.2 (by have := HLO.out; omega), HKF.out.1.2⟩
      · skip
        have g0 : ((IntKind.u64.wrap k).tmod 6 == 0) = false := by simpa using h0
        have g1 : ((IntKind.u64.wrap k).tmod 6 == 1) = false := by simpa using h1
        have g2 : ((IntKind.u64.wrap k).tmod 6 == 2) = false := by simpa using h2
        obtain ⟨R, N1, E1, hq⟩ : ∃ R N1 E1, moveR L cpu b = (R, N1, E1) := ⟨_, _, _, rfl⟩
        have HQ := Lib.hid hq
        have HV : Hid ((if (IntKind.u64.wrap k).tmod 6 = 0 ∨ (IntKind.u64.wrap k).tmod 6 = 1 then splitR L a s else if (IntKind.u64.wrap k).tmod 6 = 2 then ((joinR L a b).1, 0, (joinR L a b).2) else moveR L cpu b) = (R, N1, E1)) := Lib.hid (by rw [if_neg (by rintro (h | h); exact h0 h; exact h1 h), if_neg h2]; exact hq)
        rw [HV.out]
        clear hq h0 h1 h2
        go_enter Tryd.func7, Tryd.ntmps7
        have B := HB.out
        have K2 := HK2.out
        have K3 := HK3.out
        have K4 := HK4.out
        go_wp2_with fail
        refine (HMo.out _ _ _ _ cpu b _ At.out).mono ?_
        rintro e w4 ⟨A4, c4, rfl, own4, h9⟩
        rw [HQ.out] at own4 ⊢
        obtain ⟨n4, hn4⟩ : ∃ n4, R.length = n4 := ⟨_, rfl⟩
        rw [hn4] at own4 ⊢
        have hlo : w.heap.size + 1 + 1 < ((((w.alloc (.cells #[.int .i64 k, .int .i64 a, .int .i64 b, .int .i64 cpu, .int .u32 (s : Int)] 35)).alloc (.cells #[.slice A n c] 26)).alloc (.cells #[.slice none 0 0] 26))).heap.size := by simp
        replace K4 := K4.below h9 K4.lt
        have B4 := B.trans (h9.mono B.size)
        have k4 := K4.cell 0
        have f4 := K4.frozen 0
        obtain ⟨P1, P2⟩ := put1 (x := .slice A4 n4 c4) K4 B4 (by omega)
        have HKF := Lib.hid (And.intro (put1 (x := .slice A4 n4 c4) P1 P2 (by omega)) (own_set (own_set own4 (g := w.heap.size + 1 + 1) hlo 0 (.slice A4 n4 c4)) (g := w.heap.size + 1 + 1) hlo 0 (.slice A4 n4 c4)))
        have HN := Lib.hid hn4
        have HLO := Lib.hid hlo
        clear K4 B4 P1 P2 own4 h9 hn4 hlo B K2 K3
        go_wp2_with fail
        exact bodyPost_ret (v := .tuple #[.agg #[.slice A4 n4 c4], .int .i64 N1, .int .i64 E1]) (results_pools3 Tryd.results7 _ _ _ _ _ _ rfl HKF.out.1.1 Tryd.underlying26 rfl (by kernel_rfl)) rfl ⟨A4, c4, by simp only [HN.out], by simp only [HN.out]; exact own_down HKF.out.2 (by have := HLO.out; omega), HKF.out.1.2⟩


end Go.Proofs.YtnckfgnhlnichaaDoor
