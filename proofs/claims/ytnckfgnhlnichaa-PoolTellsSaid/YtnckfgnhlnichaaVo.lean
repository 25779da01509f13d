/-
  What an op does with the layer, and as the document says. No statement is proved here.
-/
import Derived.Test.YtnckfgnhlnichaaVs
namespace Go.Proofs.Ytnckfgnhlnichaa
open Go.RowKit

/-- what comes of an op -/
def runR (L : List Nat) (k a b cpu : Int) (s : Nat) : List Nat × Int × Int :=
  if (IntKind.u64.wrap k).tmod 6 = 0 ∨ (IntKind.u64.wrap k).tmod 6 = 1 then splitR L a s
  else if (IntKind.u64.wrap k).tmod 6 = 2 then ((joinR L a b).1, 0, (joinR L a b).2)
  else moveR L cpu b
theorem run_no {L : List Nat} {k a b cpu : Int} {s : Nat} (hr : rightP L = false) : runR L k a b cpu s = ([], 0, 180) := by
  have es : splitR L a s = ([], 0, 180) := if_neg (by rw [hr]; simp)
  have ej : joinR L a b = ([], 180) := if_neg (by rw [hr]; simp)
  have em : moveR L cpu b = ([], 0, 180) := if_neg (by rw [hr]; simp)
  unfold runR
  rw [es, ej, em]
  split
  · rfl
  · split <;> rfl

set_option maxRecDepth 100000 in
set_option maxHeartbeats 16000000 in
theorem run_any {G : World → Prop} (hG : Steady G) (hSp : PSplitOk G) (hJo : PJoinOk G) (hMo : PMoveOk G) (A : Option Addr) (n c : Nat) (L : List Nat) (k a b cpu : Int) (s : Nat) (w : World) (hAt : PAt G w A n c L) (hs : s < 4294967296) :
    Calls Try.prog 11 #[.agg (OpV k a b cpu s), .agg #[.slice A n c]] w (GivesP3 (runR L k a b cpu s) w) := by
  unfold OpV
  obtain ⟨K2, K3, K4, B⟩ := blks3 w 31 24 24 #[.int .i64 k, .int .i64 a, .int .i64 b, .int .i64 cpu, .int .u32 (s : Int)] #[.slice A n c] #[.slice none 0 0]
  have HG := Lib.hid hG
  have HS := Lib.hid hs
  have At := Lib.hid (((hAt.below hG ((Below.refl _ w).alloc (Nat.le_refl _) (.cells #[.int .i64 k, .int .i64 a, .int .i64 b, .int .i64 cpu, .int .u32 (s : Int)] 31))).below hG ((Below.refl _ _).alloc (Nat.le_refl _) (.cells #[.slice A n c] 24))).below hG ((Below.refl _ _).alloc (Nat.le_refl _) (.cells #[.slice none 0 0] 24)))
  have HSp := Lib.hid hSp
  have HJo := Lib.hid hJo
  have HMo := Lib.hid hMo
  have HB := Lib.hid B
  have HK2 := Lib.hid K2
  have HK3 := Lib.hid K3
  have HK4 := Lib.hid K4
  clear hs hAt hG hSp hJo hMo K2 K3 K4 B
  unfold runR
  by_cases h0 : (IntKind.u64.wrap k).tmod 6 = 0
  · skip
    have g0 : ((IntKind.u64.wrap k).tmod 6 == 0) = true := by simpa using h0
    obtain ⟨R, N1, E1, hq⟩ : ∃ R N1 E1, splitR L a s = (R, N1, E1) := ⟨_, _, _, rfl⟩
    have HQ := Lib.hid hq
    have HV : Hid ((if (IntKind.u64.wrap k).tmod 6 = 0 ∨ (IntKind.u64.wrap k).tmod 6 = 1 then splitR L a s else if (IntKind.u64.wrap k).tmod 6 = 2 then ((joinR L a b).1, 0, (joinR L a b).2) else moveR L cpu b) = (R, N1, E1)) := Lib.hid (by rw [if_pos (by first | exact .inl h0 | exact .inr h0)]; exact hq)
    rw [HV.out]
    clear hq h0
    go_enter Try.func11, Try.ntmps11
    have B := HB.out
    have K2 := HK2.out
    have K3 := HK3.out
    have K4 := HK4.out
    go_wp2_with fail
    refine (HSp.out _ _ _ _ a s _ At.out HS.out).mono ?_
    rintro e w4 ⟨A4, c4, rfl, own4, h9⟩
    rw [HQ.out] at own4 ⊢
    obtain ⟨n4, hn4⟩ : ∃ n4, R.length = n4 := ⟨_, rfl⟩
    rw [hn4] at own4 ⊢
    have hlo : w.heap.size + 1 + 1 < ((((w.alloc (.cells #[.int .i64 k, .int .i64 a, .int .i64 b, .int .i64 cpu, .int .u32 (s : Int)] 31)).alloc (.cells #[.slice A n c] 24)).alloc (.cells #[.slice none 0 0] 24))).heap.size := by simp
    replace K4 := K4.below h9 K4.lt
    have B4 := B.trans (h9.mono B.size)
    have k4 := K4.cell 0
    have f4 := K4.frozen 0
    obtain ⟨P1, P2⟩ := put1 (x := .slice A4 n4 c4) K4 B4 (by omega)
    have HKF := Lib.hid (And.intro (put1 (x := .slice A4 n4 c4) P1 P2 (by omega)) (own_set (own_set own4 (g := w.heap.size + 1 + 1) hlo 0 (.slice A4 n4 c4)) (g := w.heap.size + 1 + 1) hlo 0 (.slice A4 n4 c4)))
    have HN := Lib.hid hn4
    have HLO := Lib.hid hlo
    clear K4 B4 P1 P2 own4 h9 hn4 hlo B K2 K3
    go_wp2_with fail
    exact bodyPost_ret (v := .tuple #[.agg #[.slice A4 n4 c4], .int .i64 N1, .int .i64 E1]) (results_pools3 Try.results11 _ _ _ _ _ _ rfl HKF.out.1.1 Try.underlying24 rfl (by kernel_rfl)) rfl ⟨A4, c4, by simp only [HN.out], by simp only [HN.out]; exact own_down HKF.out.2 (by have := HLO.out; omega), HKF.out.1.2⟩
  · by_cases h1 : (IntKind.u64.wrap k).tmod 6 = 1
    · skip
      have g0 : ((IntKind.u64.wrap k).tmod 6 == 0) = false := by simpa using h0
      have g1 : ((IntKind.u64.wrap k).tmod 6 == 1) = true := by simpa using h1
      obtain ⟨R, N1, E1, hq⟩ : ∃ R N1 E1, splitR L a s = (R, N1, E1) := ⟨_, _, _, rfl⟩
      have HQ := Lib.hid hq
      have HV : Hid ((if (IntKind.u64.wrap k).tmod 6 = 0 ∨ (IntKind.u64.wrap k).tmod 6 = 1 then splitR L a s else if (IntKind.u64.wrap k).tmod 6 = 2 then ((joinR L a b).1, 0, (joinR L a b).2) else moveR L cpu b) = (R, N1, E1)) := Lib.hid (by rw [if_pos (by first | exact .inl h1 | exact .inr h1)]; exact hq)
      rw [HV.out]
      clear hq h0 h1
      go_enter Try.func11, Try.ntmps11
      have B := HB.out
      have K2 := HK2.out
      have K3 := HK3.out
      have K4 := HK4.out
      go_wp2_with fail
      refine (HSp.out _ _ _ _ a s _ At.out HS.out).mono ?_
      rintro e w4 ⟨A4, c4, rfl, own4, h9⟩
      rw [HQ.out] at own4 ⊢
      obtain ⟨n4, hn4⟩ : ∃ n4, R.length = n4 := ⟨_, rfl⟩
      rw [hn4] at own4 ⊢
      have hlo : w.heap.size + 1 + 1 < ((((w.alloc (.cells #[.int .i64 k, .int .i64 a, .int .i64 b, .int .i64 cpu, .int .u32 (s : Int)] 31)).alloc (.cells #[.slice A n c] 24)).alloc (.cells #[.slice none 0 0] 24))).heap.size := by simp
      replace K4 := K4.below h9 K4.lt
      have B4 := B.trans (h9.mono B.size)
      have k4 := K4.cell 0
      have f4 := K4.frozen 0
      obtain ⟨P1, P2⟩ := put1 (x := .slice A4 n4 c4) K4 B4 (by omega)
      have HKF := Lib.hid (And.intro (put1 (x := .slice A4 n4 c4) P1 P2 (by omega)) (own_set (own_set own4 (g := w.heap.size + 1 + 1) hlo 0 (.slice A4 n4 c4)) (g := w.heap.size + 1 + 1) hlo 0 (.slice A4 n4 c4)))
      have HN := Lib.hid hn4
      have HLO := Lib.hid hlo
      clear K4 B4 P1 P2 own4 h9 hn4 hlo B K2 K3
      go_wp2_with fail
      exact bodyPost_ret (v := .tuple #[.agg #[.slice A4 n4 c4], .int .i64 N1, .int .i64 E1]) (results_pools3 Try.results11 _ _ _ _ _ _ rfl HKF.out.1.1 Try.underlying24 rfl (by kernel_rfl)) rfl ⟨A4, c4, by simp only [HN.out], by simp only [HN.out]; exact own_down HKF.out.2 (by have := HLO.out; omega), HKF.out.1.2⟩
    · by_cases h2 : (IntKind.u64.wrap k).tmod 6 = 2
      · skip
        have g0 : ((IntKind.u64.wrap k).tmod 6 == 0) = false := by simpa using h0
        have g1 : ((IntKind.u64.wrap k).tmod 6 == 1) = false := by simpa using h1
        have g2 : ((IntKind.u64.wrap k).tmod 6 == 2) = true := by simpa using h2
        obtain ⟨R, E1, hq⟩ : ∃ R E1, joinR L a b = (R, E1) := ⟨_, _, rfl⟩
        have HQ := Lib.hid hq
        have HV : Hid ((if (IntKind.u64.wrap k).tmod 6 = 0 ∨ (IntKind.u64.wrap k).tmod 6 = 1 then splitR L a s else if (IntKind.u64.wrap k).tmod 6 = 2 then ((joinR L a b).1, 0, (joinR L a b).2) else moveR L cpu b) = (R, 0, E1)) := Lib.hid (by rw [if_neg (by rintro (h | h); exact h0 h; exact h1 h), if_pos h2, hq])
        rw [HV.out]
        clear hq h0 h1 h2
        go_enter Try.func11, Try.ntmps11
        have B := HB.out
        have K2 := HK2.out
        have K3 := HK3.out
        have K4 := HK4.out
        go_wp2_with fail
        refine (HJo.out _ _ _ _ a b _ At.out).mono ?_
        rintro e w4 ⟨A4, c4, rfl, own4, h9⟩
        rw [HQ.out] at own4 ⊢
        obtain ⟨n4, hn4⟩ : ∃ n4, R.length = n4 := ⟨_, rfl⟩
        rw [hn4] at own4 ⊢
        have hlo : w.heap.size + 1 + 1 < ((((w.alloc (.cells #[.int .i64 k, .int .i64 a, .int .i64 b, .int .i64 cpu, .int .u32 (s : Int)] 31)).alloc (.cells #[.slice A n c] 24)).alloc (.cells #[.slice none 0 0] 24))).heap.size := by simp
        replace K4 := K4.below h9 K4.lt
        have B4 := B.trans (h9.mono B.size)
        have k4 := K4.cell 0
        have f4 := K4.frozen 0
        obtain ⟨P1, P2⟩ := put1 (x := .slice A4 n4 c4) K4 B4 (by omega)
        have HKF := Lib.hid (And.intro (put1 (x := .slice A4 n4 c4) P1 P2 (by omega)) (own_set (own_set own4 (g := w.heap.size + 1 + 1) hlo 0 (.slice A4 n4 c4)) (g := w.heap.size + 1 + 1) hlo 0 (.slice A4 n4 c4)))
        have HN := Lib.hid hn4
        have HLO := Lib.hid hlo
        clear K4 B4 P1 P2 own4 h9 hn4 hlo B K2 K3
        go_wp2_with fail
        exact bodyPost_ret (v := .tuple #[.agg #[.slice A4 n4 c4], .int .i64 0, .int .i64 E1]) (results_pools3 Try.results11 _ _ _ _ _ _ rfl HKF.out.1.1 Try.underlying24 rfl (by kernel_rfl)) rfl ⟨A4, c4, by simp only [HN.out], by simp only [HN.out]; exact own_down HKF.out.2 (by have := HLO.out; omega), HKF.out.1.2⟩
      · skip
        have g0 : ((IntKind.u64.wrap k).tmod 6 == 0) = false := by simpa using h0
        have g1 : ((IntKind.u64.wrap k).tmod 6 == 1) = false := by simpa using h1
        have g2 : ((IntKind.u64.wrap k).tmod 6 == 2) = false := by simpa using h2
        obtain ⟨R, N1, E1, hq⟩ : ∃ R N1 E1, moveR L cpu b = (R, N1, E1) := ⟨_, _, _, rfl⟩
        have HQ := Lib.hid hq
        have HV : Hid ((if (IntKind.u64.wrap k).tmod 6 = 0 ∨ (IntKind.u64.wrap k).tmod 6 = 1 then splitR L a s else if (IntKind.u64.wrap k).tmod 6 = 2 then ((joinR L a b).1, 0, (joinR L a b).2) else moveR L cpu b) = (R, N1, E1)) := Lib.hid (by rw [if_neg (by rintro (h | h); exact h0 h; exact h1 h), if_neg h2]; exact hq)
        rw [HV.out]
        clear hq h0 h1 h2
        go_enter Try.func11, Try.ntmps11
        have B := HB.out
        have K2 := HK2.out
        have K3 := HK3.out
        have K4 := HK4.out
        go_wp2_with fail
        refine (HMo.out _ _ _ _ cpu b _ At.out).mono ?_
        rintro e w4 ⟨A4, c4, rfl, own4, h9⟩
        rw [HQ.out] at own4 ⊢
        obtain ⟨n4, hn4⟩ : ∃ n4, R.length = n4 := ⟨_, rfl⟩
        rw [hn4] at own4 ⊢
        have hlo : w.heap.size + 1 + 1 < ((((w.alloc (.cells #[.int .i64 k, .int .i64 a, .int .i64 b, .int .i64 cpu, .int .u32 (s : Int)] 31)).alloc (.cells #[.slice A n c] 24)).alloc (.cells #[.slice none 0 0] 24))).heap.size := by simp
        replace K4 := K4.below h9 K4.lt
        have B4 := B.trans (h9.mono B.size)
        have k4 := K4.cell 0
        have f4 := K4.frozen 0
        obtain ⟨P1, P2⟩ := put1 (x := .slice A4 n4 c4) K4 B4 (by omega)
        have HKF := Lib.hid (And.intro (put1 (x := .slice A4 n4 c4) P1 P2 (by omega)) (own_set (own_set own4 (g := w.heap.size + 1 + 1) hlo 0 (.slice A4 n4 c4)) (g := w.heap.size + 1 + 1) hlo 0 (.slice A4 n4 c4)))
        have HN := Lib.hid hn4
        have HLO := Lib.hid hlo
        clear K4 B4 P1 P2 own4 h9 hn4 hlo B K2 K3
        go_wp2_with fail
        exact bodyPost_ret (v := .tuple #[.agg #[.slice A4 n4 c4], .int .i64 N1, .int .i64 E1]) (results_pools3 Try.results11 _ _ _ _ _ _ rfl HKF.out.1.1 Try.underlying24 rfl (by kernel_rfl)) rfl ⟨A4, c4, by simp only [HN.out], by simp only [HN.out]; exact own_down HKF.out.2 (by have := HLO.out; omega), HKF.out.1.2⟩

set_option maxRecDepth 100000 in
set_option maxHeartbeats 16000000 in
theorem wants_any {G : World → Prop} (hG : Steady G) (A : Option Addr) (n c : Nat) (L : List Nat) (k a b cpu : Int) (s : Nat) (w : World) (hAt : PAt G w A n c L) (hs : s < 4294967296) :
    Calls Try.prog 12 #[.agg (OpV k a b cpu s), .agg #[.slice A n c]] w (GivesP3 (runR L k a b cpu s) w) := by
  unfold OpV
  obtain ⟨K2, K3, K4, B⟩ := blks3 w 31 24 24 #[.int .i64 k, .int .i64 a, .int .i64 b, .int .i64 cpu, .int .u32 (s : Int)] #[.slice A n c] #[.slice none 0 0]
  have HG := Lib.hid hG
  have HS := Lib.hid hs
  have At := Lib.hid (((hAt.below hG ((Below.refl _ w).alloc (Nat.le_refl _) (.cells #[.int .i64 k, .int .i64 a, .int .i64 b, .int .i64 cpu, .int .u32 (s : Int)] 31))).below hG ((Below.refl _ _).alloc (Nat.le_refl _) (.cells #[.slice A n c] 24))).below hG ((Below.refl _ _).alloc (Nat.le_refl _) (.cells #[.slice none 0 0] 24)))
  have HB := Lib.hid B
  have HK2 := Lib.hid K2
  have HK3 := Lib.hid K3
  have HK4 := Lib.hid K4
  have HRi := Lib.hid (rrightP_any A n c L _ At.out.1 At.out.2.2.1)
  have d0 := K3.cell 0
  cases hr : rightP L with
  | false =>
    rw [hr] at HRi
    have HV : Hid (runR L k a b cpu s = ([], 0, 180)) := Lib.hid (run_no hr)
    clear hr hs hAt hG K2 K3 HS
    go_enter Try.func12, Try.ntmps12
    go_wp2_with fail
    refine HRi.out.mono ?_
    rintro e w3 ⟨rfl, h9⟩
    replace K4 := K4.below h9 K4.lt
    replace B := B.trans (h9.mono B.size)
    have k4 := K4.cell 0
    have f4 := K4.frozen 0
    have HKF := Lib.hid (put1 (x := .slice none 0 0) K4 B (by omega))
    clear h9 d0 K4 B HB HK2 HK3 HK4
    go_wp2_with fail
    rw [HV.out]
    exact bodyPost_ret (v := .tuple #[.agg #[.slice none 0 0], .int .i64 0, .int .i64 180]) (results_pools3 Try.results12 _ _ _ _ _ _ rfl HKF.out.1 Try.underlying24 rfl (by kernel_rfl)) rfl (GivesP3.none_ HKF.out.2)
  | true =>
    rw [hr] at HRi
    have HRr := Lib.hid hr
    have HD0 := Lib.hid d0
    clear hs hAt hG K2 K3 K4 B
    have es : splitR L a s = splitV L a s := if_pos hr
    have ej : joinR L a b = joinV L a b := if_pos hr
    have em : moveR L cpu b = moveV L cpu b := if_pos hr
    unfold runR
    rw [es, ej, em]
    clear es ej em hr
    by_cases h0 : (IntKind.u64.wrap k).tmod 6 = 0
    · skip
      have g0 : ((IntKind.u64.wrap k).tmod 6 == 0) = true := by simpa using h0
      obtain ⟨R, N1, E1, hq⟩ : ∃ R N1 E1, splitV L a s = (R, N1, E1) := ⟨_, _, _, rfl⟩
      have HQ := Lib.hid hq
      have HV : Hid ((if (IntKind.u64.wrap k).tmod 6 = 0 ∨ (IntKind.u64.wrap k).tmod 6 = 1 then splitV L a s else if (IntKind.u64.wrap k).tmod 6 = 2 then ((joinV L a b).1, 0, (joinV L a b).2) else moveV L cpu b) = (R, N1, E1)) := Lib.hid (by rw [if_pos (by first | exact .inl h0 | exact .inr h0)]; exact hq)
      rw [HV.out]
      clear hq h0
      go_enter Try.func12, Try.ntmps12
      have B := HB.out
      have K2 := HK2.out
      have K3 := HK3.out
      have K4 := HK4.out
      go_wp2_with fail
      refine HRi.out.mono ?_
      rintro e w3 ⟨rfl, h9⟩
      replace K2 := K2.below h9 K2.lt
      replace K3 := K3.below h9 K3.lt
      replace K4 := K4.below h9 K4.lt
      replace B := B.trans (h9.mono B.size)
      replace At := Lib.hid (At.out.below HG.out h9)
      clear h9 d0
      have d0 := K3.cell 0
      have e0 := K2.cell 0
      have e1 := K2.cell 1
      have e2 := K2.cell 2
      have e3 := K2.cell 3
      have e4 := K2.cell 4
      go_wp2_with fail
      refine (rsplit_any A n c L a s _ At.out.1 HRr.out HS.out).mono ?_
      rintro e w4 ⟨A4, c4, rfl, own4, h9⟩
      rw [HQ.out] at own4 ⊢
      clear d0 e0 e1 e2 e3 e4
      obtain ⟨n4, hn4⟩ : ∃ n4, R.length = n4 := ⟨_, rfl⟩
      rw [hn4] at own4 ⊢
      have hlo : w.heap.size + 1 + 1 < w3.heap.size := K4.lt
      replace K4 := K4.below h9 K4.lt
      have B4 := B.trans (h9.mono B.size)
      have k4 := K4.cell 0
      have f4 := K4.frozen 0
      obtain ⟨P1, P2⟩ := put1 (x := .slice A4 n4 c4) K4 B4 (by omega)
      have HKF := Lib.hid (And.intro (put1 (x := .slice A4 n4 c4) P1 P2 (by omega)) (own_set (own_set own4 (g := w.heap.size + 1 + 1) hlo 0 (.slice A4 n4 c4)) (g := w.heap.size + 1 + 1) hlo 0 (.slice A4 n4 c4)))
      have HN := Lib.hid hn4
      have HLO := Lib.hid hlo
      clear K4 B4 P1 P2 own4 h9 hn4 hlo B K2 K3
      go_wp2_with fail
      exact bodyPost_ret (v := .tuple #[.agg #[.slice A4 n4 c4], .int .i64 N1, .int .i64 E1]) (results_pools3 Try.results12 _ _ _ _ _ _ rfl HKF.out.1.1 Try.underlying24 rfl (by kernel_rfl)) rfl ⟨A4, c4, by simp only [HN.out], by simp only [HN.out]; exact own_down HKF.out.2 (by have := HLO.out; omega), HKF.out.1.2⟩
    · by_cases h1 : (IntKind.u64.wrap k).tmod 6 = 1
      · skip
        have g0 : ((IntKind.u64.wrap k).tmod 6 == 0) = false := by simpa using h0
        have g1 : ((IntKind.u64.wrap k).tmod 6 == 1) = true := by simpa using h1
        obtain ⟨R, N1, E1, hq⟩ : ∃ R N1 E1, splitV L a s = (R, N1, E1) := ⟨_, _, _, rfl⟩
        have HQ := Lib.hid hq
        have HV : Hid ((if (IntKind.u64.wrap k).tmod 6 = 0 ∨ (IntKind.u64.wrap k).tmod 6 = 1 then splitV L a s else if (IntKind.u64.wrap k).tmod 6 = 2 then ((joinV L a b).1, 0, (joinV L a b).2) else moveV L cpu b) = (R, N1, E1)) := Lib.hid (by rw [if_pos (by first | exact .inl h1 | exact .inr h1)]; exact hq)
        rw [HV.out]
        clear hq h0 h1
        go_enter Try.func12, Try.ntmps12
        have B := HB.out
        have K2 := HK2.out
        have K3 := HK3.out
        have K4 := HK4.out
        go_wp2_with fail
        refine HRi.out.mono ?_
        rintro e w3 ⟨rfl, h9⟩
        replace K2 := K2.below h9 K2.lt
        replace K3 := K3.below h9 K3.lt
        replace K4 := K4.below h9 K4.lt
        replace B := B.trans (h9.mono B.size)
        replace At := Lib.hid (At.out.below HG.out h9)
        clear h9 d0
        have d0 := K3.cell 0
        have e0 := K2.cell 0
        have e1 := K2.cell 1
        have e2 := K2.cell 2
        have e3 := K2.cell 3
        have e4 := K2.cell 4
        go_wp2_with fail
        refine (rsplit_any A n c L a s _ At.out.1 HRr.out HS.out).mono ?_
        rintro e w4 ⟨A4, c4, rfl, own4, h9⟩
        rw [HQ.out] at own4 ⊢
        clear d0 e0 e1 e2 e3 e4
        obtain ⟨n4, hn4⟩ : ∃ n4, R.length = n4 := ⟨_, rfl⟩
        rw [hn4] at own4 ⊢
        have hlo : w.heap.size + 1 + 1 < w3.heap.size := K4.lt
        replace K4 := K4.below h9 K4.lt
        have B4 := B.trans (h9.mono B.size)
        have k4 := K4.cell 0
        have f4 := K4.frozen 0
        obtain ⟨P1, P2⟩ := put1 (x := .slice A4 n4 c4) K4 B4 (by omega)
        have HKF := Lib.hid (And.intro (put1 (x := .slice A4 n4 c4) P1 P2 (by omega)) (own_set (own_set own4 (g := w.heap.size + 1 + 1) hlo 0 (.slice A4 n4 c4)) (g := w.heap.size + 1 + 1) hlo 0 (.slice A4 n4 c4)))
        have HN := Lib.hid hn4
        have HLO := Lib.hid hlo
        clear K4 B4 P1 P2 own4 h9 hn4 hlo B K2 K3
        go_wp2_with fail
        exact bodyPost_ret (v := .tuple #[.agg #[.slice A4 n4 c4], .int .i64 N1, .int .i64 E1]) (results_pools3 Try.results12 _ _ _ _ _ _ rfl HKF.out.1.1 Try.underlying24 rfl (by kernel_rfl)) rfl ⟨A4, c4, by simp only [HN.out], by simp only [HN.out]; exact own_down HKF.out.2 (by have := HLO.out; omega), HKF.out.1.2⟩
      · by_cases h2 : (IntKind.u64.wrap k).tmod 6 = 2
        · skip
          have g0 : ((IntKind.u64.wrap k).tmod 6 == 0) = false := by simpa using h0
          have g1 : ((IntKind.u64.wrap k).tmod 6 == 1) = false := by simpa using h1
          have g2 : ((IntKind.u64.wrap k).tmod 6 == 2) = true := by simpa using h2
          obtain ⟨R, E1, hq⟩ : ∃ R E1, joinV L a b = (R, E1) := ⟨_, _, rfl⟩
          have HQ := Lib.hid hq
          have HV : Hid ((if (IntKind.u64.wrap k).tmod 6 = 0 ∨ (IntKind.u64.wrap k).tmod 6 = 1 then splitV L a s else if (IntKind.u64.wrap k).tmod 6 = 2 then ((joinV L a b).1, 0, (joinV L a b).2) else moveV L cpu b) = (R, 0, E1)) := Lib.hid (by rw [if_neg (by rintro (h | h); exact h0 h; exact h1 h), if_pos h2, hq])
          rw [HV.out]
          clear hq h0 h1 h2
          go_enter Try.func12, Try.ntmps12
          have B := HB.out
          have K2 := HK2.out
          have K3 := HK3.out
          have K4 := HK4.out
          go_wp2_with fail
          refine HRi.out.mono ?_
          rintro e w3 ⟨rfl, h9⟩
          replace K2 := K2.below h9 K2.lt
          replace K3 := K3.below h9 K3.lt
          replace K4 := K4.below h9 K4.lt
          replace B := B.trans (h9.mono B.size)
          replace At := Lib.hid (At.out.below HG.out h9)
          clear h9 d0
          have d0 := K3.cell 0
          have e0 := K2.cell 0
          have e1 := K2.cell 1
          have e2 := K2.cell 2
          have e3 := K2.cell 3
          have e4 := K2.cell 4
          go_wp2_with fail
          refine (rjoin_any A n c L a b _ At.out.1 HRr.out).mono ?_
          rintro e w4 ⟨A4, c4, rfl, own4, h9⟩
          rw [HQ.out] at own4 ⊢
          clear d0 e0 e1 e2 e3 e4
          obtain ⟨n4, hn4⟩ : ∃ n4, R.length = n4 := ⟨_, rfl⟩
          rw [hn4] at own4 ⊢
          have hlo : w.heap.size + 1 + 1 < w3.heap.size := K4.lt
          replace K4 := K4.below h9 K4.lt
          have B4 := B.trans (h9.mono B.size)
          have k4 := K4.cell 0
          have f4 := K4.frozen 0
          obtain ⟨P1, P2⟩ := put1 (x := .slice A4 n4 c4) K4 B4 (by omega)
          have HKF := Lib.hid (And.intro (put1 (x := .slice A4 n4 c4) P1 P2 (by omega)) (own_set (own_set own4 (g := w.heap.size + 1 + 1) hlo 0 (.slice A4 n4 c4)) (g := w.heap.size + 1 + 1) hlo 0 (.slice A4 n4 c4)))
          have HN := Lib.hid hn4
          have HLO := Lib.hid hlo
          clear K4 B4 P1 P2 own4 h9 hn4 hlo B K2 K3
          go_wp2_with fail
          exact bodyPost_ret (v := .tuple #[.agg #[.slice A4 n4 c4], .int .i64 0, .int .i64 E1]) (results_pools3 Try.results12 _ _ _ _ _ _ rfl HKF.out.1.1 Try.underlying24 rfl (by kernel_rfl)) rfl ⟨A4, c4, by simp only [HN.out], by simp only [HN.out]; exact own_down HKF.out.2 (by have := HLO.out; omega), HKF.out.1.2⟩
        · skip
          have g0 : ((IntKind.u64.wrap k).tmod 6 == 0) = false := by simpa using h0
          have g1 : ((IntKind.u64.wrap k).tmod 6 == 1) = false := by simpa using h1
          have g2 : ((IntKind.u64.wrap k).tmod 6 == 2) = false := by simpa using h2
          obtain ⟨R, N1, E1, hq⟩ : ∃ R N1 E1, moveV L cpu b = (R, N1, E1) := ⟨_, _, _, rfl⟩
          have HQ := Lib.hid hq
          have HV : Hid ((if (IntKind.u64.wrap k).tmod 6 = 0 ∨ (IntKind.u64.wrap k).tmod 6 = 1 then splitV L a s else if (IntKind.u64.wrap k).tmod 6 = 2 then ((joinV L a b).1, 0, (joinV L a b).2) else moveV L cpu b) = (R, N1, E1)) := Lib.hid (by rw [if_neg (by rintro (h | h); exact h0 h; exact h1 h), if_neg h2]; exact hq)
          rw [HV.out]
          clear hq h0 h1 h2
          go_enter Try.func12, Try.ntmps12
          have B := HB.out
          have K2 := HK2.out
          have K3 := HK3.out
          have K4 := HK4.out
          go_wp2_with fail
          refine HRi.out.mono ?_
          rintro e w3 ⟨rfl, h9⟩
          replace K2 := K2.below h9 K2.lt
          replace K3 := K3.below h9 K3.lt
          replace K4 := K4.below h9 K4.lt
          replace B := B.trans (h9.mono B.size)
          replace At := Lib.hid (At.out.below HG.out h9)
          clear h9 d0
          have d0 := K3.cell 0
          have e0 := K2.cell 0
          have e1 := K2.cell 1
          have e2 := K2.cell 2
          have e3 := K2.cell 3
          have e4 := K2.cell 4
          go_wp2_with fail
          refine (rmove_any A n c L cpu b _ At.out.1 HRr.out).mono ?_
          rintro e w4 ⟨A4, c4, rfl, own4, h9⟩
          rw [HQ.out] at own4 ⊢
          clear d0 e0 e1 e2 e3 e4
          obtain ⟨n4, hn4⟩ : ∃ n4, R.length = n4 := ⟨_, rfl⟩
          rw [hn4] at own4 ⊢
          have hlo : w.heap.size + 1 + 1 < w3.heap.size := K4.lt
          replace K4 := K4.below h9 K4.lt
          have B4 := B.trans (h9.mono B.size)
          have k4 := K4.cell 0
          have f4 := K4.frozen 0
          obtain ⟨P1, P2⟩ := put1 (x := .slice A4 n4 c4) K4 B4 (by omega)
          have HKF := Lib.hid (And.intro (put1 (x := .slice A4 n4 c4) P1 P2 (by omega)) (own_set (own_set own4 (g := w.heap.size + 1 + 1) hlo 0 (.slice A4 n4 c4)) (g := w.heap.size + 1 + 1) hlo 0 (.slice A4 n4 c4)))
          have HN := Lib.hid hn4
          have HLO := Lib.hid hlo
          clear K4 B4 P1 P2 own4 h9 hn4 hlo B K2 K3
          go_wp2_with fail
          exact bodyPost_ret (v := .tuple #[.agg #[.slice A4 n4 c4], .int .i64 N1, .int .i64 E1]) (results_pools3 Try.results12 _ _ _ _ _ _ rfl HKF.out.1.1 Try.underlying24 rfl (by kernel_rfl)) rfl ⟨A4, c4, by simp only [HN.out], by simp only [HN.out]; exact own_down HKF.out.2 (by have := HLO.out; omega), HKF.out.1.2⟩

end Go.Proofs.Ytnckfgnhlnichaa
