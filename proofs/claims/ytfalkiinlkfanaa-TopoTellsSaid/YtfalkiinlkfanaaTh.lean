/-
  The contract of the document's Regular topologies. No statement is proved here.
-/
import Derived.Test.YtfalkiinlkfanaaTg
namespace Go.Proofs.Ytfalkiinlkfanaa
open Go.RowKit

/-- the first j cores of a socket, the first i sockets -/
def rowC (T i j : Nat) : List (Int × Int) := (List.range j).flatMap fun (b : Nat) => List.replicate T ((i : Int), (b : Int))
def regO (C T i : Nat) : List (Int × Int) := (List.range i).flatMap fun a => rowC T a C
theorem rowC_step (T i j : Nat) : rowC T i (j + 1) = rowC T i j ++ List.replicate T ((i : Int), (j : Int)) := by
  unfold rowC
  rw [List.range_succ, List.flatMap_append]
  simp
theorem regO_step (C T i : Nat) : regO C T (i + 1) = regO C T i ++ rowC T i C := by
  unfold regO
  rw [List.range_succ, List.flatMap_append]
  simp
theorem length_rowC (T i j : Nat) : (rowC T i j).length = j * T := by
  induction j with
  | zero => rw [Nat.zero_mul]; rfl
  | succ j ih => rw [rowC_step, List.length_append, ih, List.length_replicate, Nat.add_mul, Nat.one_mul]
theorem length_regO (C T i : Nat) : (regO C T i).length = i * (C * T) := by
  induction i with
  | zero => rw [Nat.zero_mul]; rfl
  | succ i ih => rw [regO_step, List.length_append, ih, length_rowC, Nat.add_mul, Nat.one_mul]
theorem reg_small {C T i : Nat} (hC : C ≤ 8) (hT : T ≤ 8) (hi : i ≤ 4) : (regO C T i).length ≤ 256 := by
  rw [length_regO]
  exact Nat.mul_le_mul hi (Nat.mul_le_mul hC hT)
theorem reg_le {C T r a b : Nat} (hC : C ≤ 8) (hT : T ≤ 8) (hr : r ≤ T) (ha : a ≤ 3) (hb : b ≤ 8) : (regO C T a ++ rowC T a b ++ List.replicate r ((a : Int), (b : Int))).length ≤ 300 := by
  rw [List.length_append, List.length_append, length_regO, length_rowC, List.length_replicate]
  have h1 : a * (C * T) ≤ 3 * (8 * 8) := Nat.mul_le_mul ha (Nat.mul_le_mul hC hT)
  have h2 : b * T ≤ 8 * 8 := Nat.mul_le_mul hb hT
  omega
/-- a topology of so many sockets, cores, threads; false: there is none -/
def regularV (s c t : Int) : List (Int × Int) × Bool :=
  if 1 ≤ s ∧ s ≤ 4 ∧ 1 ≤ c ∧ c ≤ 8 ∧ 1 ≤ t ∧ t ≤ 8 then (if rightT (regO c.toNat t.toNat s.toNat) = true then (regO c.toNat t.toNat s.toNat, true) else ([], false)) else ([], false)
def MakesB (r : List (Int × Int) × Bool) (w : World) (e : Ending) (w' : World) : Prop :=
  ∃ A n c, e = .returned (.tuple #[.agg #[.slice A n c], .bool r.2]) ∧ n = r.1.length ∧ n ≤ c ∧ FarReads w w' 2 A n (svs r.1) ∧ Below w.heap.size w w'
theorem MakesB.none_ {w w' : World} {c : Bool} (hb : Below w.heap.size w w') : MakesB ([], c) w (.returned (.tuple #[.agg #[.slice none 0 0], .bool c])) w' :=
  ⟨none, 0, 0, rfl, rfl, Nat.le_refl _, ⟨Reads.none_, fun _ h => by cases h⟩, hb⟩

set_option maxRecDepth 100000 in
set_option maxHeartbeats 8000000 in
theorem rregular_any (s c t : Int) (w : World) : Calls Try.prog 28 #[.int .i64 s, .int .i64 c, .int .i64 t] w (MakesB (regularV s c t) w) := by
  obtain ⟨i0, hi0, hz0, hz1, hz2⟩ := info_parts seat_info
  have HB : Hid (Blk ((w.alloc (.cells #[.slice none 0 0] 27)).alloc (.cells #[.slice none 0 0] 27)) w.heap.size 27 #[.slice none 0 0] ∧ Blk ((w.alloc (.cells #[.slice none 0 0] 27)).alloc (.cells #[.slice none 0 0] 27)) (w.heap.size + 1) 27 #[.slice none 0 0] ∧ Below w.heap.size w ((w.alloc (.cells #[.slice none 0 0] 27)).alloc (.cells #[.slice none 0 0] 27))) := Lib.hid (blks2 w 27 27 #[.slice none 0 0] #[.slice none 0 0])
  by_cases b0 : s < 1
  · clear hi0 hz0 hz1 hz2
    have HV : Hid (regularV s c t = ([], false)) := Lib.hid (by unfold regularV; rw [if_neg (by omega)])
    go_enter Try.func28, Try.ntmps28
    go_wp2_with fail
    rw [HV.out]
    exact bodyPost_ret (v := .tuple #[.agg #[.slice none 0 0], .bool false]) (results_topo Try.results28 _ _ _ _ _ _ rfl HB.out.1 Try.underlying27 rfl (by kernel_rfl)) rfl (MakesB.none_ HB.out.2.2)
  · skip
    by_cases b1 : 4 < s
    · clear hi0 hz0 hz1 hz2
      have HV : Hid (regularV s c t = ([], false)) := Lib.hid (by unfold regularV; rw [if_neg (by omega)])
      go_enter Try.func28, Try.ntmps28
      go_wp2_with fail
      rw [HV.out]
      exact bodyPost_ret (v := .tuple #[.agg #[.slice none 0 0], .bool false]) (results_topo Try.results28 _ _ _ _ _ _ rfl HB.out.1 Try.underlying27 rfl (by kernel_rfl)) rfl (MakesB.none_ HB.out.2.2)
    · skip
      by_cases b2 : c < 1
      · clear hi0 hz0 hz1 hz2
        have HV : Hid (regularV s c t = ([], false)) := Lib.hid (by unfold regularV; rw [if_neg (by omega)])
        go_enter Try.func28, Try.ntmps28
        go_wp2_with fail
        rw [HV.out]
        exact bodyPost_ret (v := .tuple #[.agg #[.slice none 0 0], .bool false]) (results_topo Try.results28 _ _ _ _ _ _ rfl HB.out.1 Try.underlying27 rfl (by kernel_rfl)) rfl (MakesB.none_ HB.out.2.2)
      · skip
        by_cases b3 : 8 < c
        · clear hi0 hz0 hz1 hz2
          have HV : Hid (regularV s c t = ([], false)) := Lib.hid (by unfold regularV; rw [if_neg (by omega)])
          go_enter Try.func28, Try.ntmps28
          go_wp2_with fail
          rw [HV.out]
          exact bodyPost_ret (v := .tuple #[.agg #[.slice none 0 0], .bool false]) (results_topo Try.results28 _ _ _ _ _ _ rfl HB.out.1 Try.underlying27 rfl (by kernel_rfl)) rfl (MakesB.none_ HB.out.2.2)
        · skip
          by_cases b4 : t < 1
          · clear hi0 hz0 hz1 hz2
            have HV : Hid (regularV s c t = ([], false)) := Lib.hid (by unfold regularV; rw [if_neg (by omega)])
            go_enter Try.func28, Try.ntmps28
            go_wp2_with fail
            rw [HV.out]
            exact bodyPost_ret (v := .tuple #[.agg #[.slice none 0 0], .bool false]) (results_topo Try.results28 _ _ _ _ _ _ rfl HB.out.1 Try.underlying27 rfl (by kernel_rfl)) rfl (MakesB.none_ HB.out.2.2)
          · skip
            by_cases b5 : 8 < t
            · clear hi0 hz0 hz1 hz2
              have HV : Hid (regularV s c t = ([], false)) := Lib.hid (by unfold regularV; rw [if_neg (by omega)])
              go_enter Try.func28, Try.ntmps28
              go_wp2_with fail
              rw [HV.out]
              exact bodyPost_ret (v := .tuple #[.agg #[.slice none 0 0], .bool false]) (results_topo Try.results28 _ _ _ _ _ _ rfl HB.out.1 Try.underlying27 rfl (by kernel_rfl)) rfl (MakesB.none_ HB.out.2.2)
            · skip
              obtain ⟨S, rfl⟩ := Int.eq_ofNat_of_zero_le (show 0 ≤ s by omega)
              obtain ⟨C, rfl⟩ := Int.eq_ofNat_of_zero_le (show 0 ≤ c by omega)
              obtain ⟨T, rfl⟩ := Int.eq_ofNat_of_zero_le (show 0 ≤ t by omega)
              have hC : C ≤ 8 := by omega
              have hT : T ≤ 8 := by omega
              have hS : S ≤ 4 := by omega
              have HK := Lib.hid (And.intro (HB.out.1) HB.out.2)
              go_enter Try.func28, Try.ntmps28
              go_wp2_with fail
              go_loopw [35] (fun i wr => ∃ (a m : Nat) (v : Value), a ≤ S ∧ i = .int .i64 (a : Int) ∧ Hid (m = (regO C T a).length) ∧ Hid (wr.ownsRow (w.heap.size + 1 + 1) 37 2 v m (svs (regO C T a))) ∧ Blk wr (w.heap.size + 1) 27 #[v] ∧ Blk wr w.heap.size 27 #[.slice none 0 0] ∧ Below w.heap.size w wr) (fun i _ => S - (intOf i).toNat)
              case atStart => exact ⟨0, 0, .slice none 0 0, by omega, rfl, Lib.hid rfl, Lib.hid (World.ownsRow_nil _ _ _ _), HK.out.2.1, HK.out.1, HK.out.2.2⟩
              case round =>
                obtain ⟨a, m, v, ha, rfl, Hm, HO2, KT, KO, B1⟩ := hrel
                by_cases has : a < S
                · skip
                  go_wp2_with fail
                  go_loopw [39] (fun i wr => ∃ (b m : Nat) (v : Value), b ≤ C ∧ i = .int .i64 (b : Int) ∧ Hid (m = (regO C T a ++ rowC T a b).length) ∧ Hid (wr.ownsRow (w.heap.size + 1 + 1) 37 2 v m (svs (regO C T a ++ rowC T a b))) ∧ Blk wr (w.heap.size + 1) 27 #[v] ∧ Blk wr w.heap.size 27 #[.slice none 0 0] ∧ Below w.heap.size w wr) (fun i _ => C - (intOf i).toNat)
                  case atStart => exact ⟨0, m, v, by omega, rfl, Lib.hid (by rw [show rowC T a 0 = [] from rfl, List.append_nil]; exact Hm.out), Lib.hid (by rw [show rowC T a 0 = [] from rfl, List.append_nil]; exact HO2.out), KT, KO, B1⟩
                  case round =>
                    clear Hm HO2 KT KO B1
                    obtain ⟨b, m, v, hb, rfl, Hm, HO2, KT, KO, B1⟩ := hrel
                    by_cases hbc : b < C
                    · skip
                      go_wp2_with fail
                      go_loopw [43] (fun i wr => ∃ (r m : Nat) (v : Value), r ≤ T ∧ i = .int .i64 (r : Int) ∧ Hid (m = (regO C T a ++ rowC T a b ++ List.replicate r ((a : Int), (b : Int))).length) ∧ Hid (wr.ownsRow (w.heap.size + 1 + 1) 37 2 v m (svs (regO C T a ++ rowC T a b ++ List.replicate r ((a : Int), (b : Int))))) ∧ Blk wr (w.heap.size + 1) 27 #[v] ∧ Blk wr w.heap.size 27 #[.slice none 0 0] ∧ Below w.heap.size w wr) (fun i _ => T - (intOf i).toNat)
                      case atStart => exact ⟨0, m, v, by omega, rfl, Lib.hid (by rw [List.replicate_zero, List.append_nil]; exact Hm.out), Lib.hid (by rw [List.replicate_zero, List.append_nil]; exact HO2.out), KT, KO, B1⟩
                      case round =>
                        clear Hm HO2 KT KO B1
                        obtain ⟨r, m, v, hr, rfl, Hm, HO2, KT, KO, B1⟩ := hrel
                        by_cases hrt : r < T
                        · have Hm3 : Hid (m ≤ 300) := Lib.hid (by rw [Hm.out]; exact reg_le hC hT hr (by omega) (by omega))
                          have HST : Hid (svs (regO C T a ++ rowC T a b ++ List.replicate (r + 1) ((a : Int), (b : Int))) = svs (regO C T a ++ rowC T a b ++ List.replicate r ((a : Int), (b : Int))) ++ [.int .i64 (a : Int), .int .i64 (b : Int)]) := Lib.hid (by rw [List.replicate_succ', ← List.append_assoc]; unfold svs; rw [flat_append, flat_one]; rfl)
                          have m3 := Hm3.out
                          have hsz := B1.size
                          have c0 := KT.cell 0
                          have ktl := KT.lt
                          go_wp2_with (
                            at_builtin
                            refine wpList_append_own _ rfl (.tmp 46) (.tmp 50) 25 rfl (w.heap.size + 1 + 1) 37 i0 (.agg #[.int .i64 0, .int .i64 0]) 2 16 Try.underlying25 hi0 hz0 hz1 hz2 rfl (by decide) _ m _ rfl (HO2.out.alloc _) ⟨_, 0, none⟩ 1 1 [.int .i64 (a : Int), .int .i64 (b : Int)] rfl rfl (two_new _ _ _ _) (by simp [Value.oneCell']) (by simp only [maxLen]; omega) (by omega) (by simp <;> omega) ?_
                            intro v2 w3 hown3 hg3 _
                            obtain ⟨A2, c2, rfl, _, _⟩ := own_reads hown3
                            have hn3 : ∀ g, v.ownBlock = some g → w.heap.size + 1 + 1 ≤ g := fun g hg => (HO2.out.lt g hg).1
                            have KT3 := (KT.alloc (.cells #[.int .i64 (a : Int), .int .i64 (b : Int)] 37)).grown hg3 (fun he => by have := hn3 _ he.symm; omega)
                            have KO3 := (KO.alloc (.cells #[.int .i64 (a : Int), .int .i64 (b : Int)] 37)).grown hg3 (fun he => by have := hn3 _ he.symm; omega)
                            have B2 := B1.alloc B1.size (.cells #[.int .i64 (a : Int), .int .i64 (b : Int)] 37)
                            have B3 := B2.grown hg3 B2.size (fun g hg => by have := hn3 g hg; omega)
                            have HO3 := Lib.hid (own_set hown3 (show w.heap.size + 1 < w.heap.size + 1 + 1 by omega) 0 (.slice A2 (m + 1) c2))
                            have HK4 := Lib.hid (And.intro (put1 (x := .slice A2 (m + 1) c2) KT3 B3 (by omega)) (KO3.far (p := ⟨w.heap.size + 1, 0, none⟩) (by simp) (.slice A2 (m + 1) c2)))
                            have d0 := KT3.cell 0
                            have f0 := KT3.frozen 0
                            clear hn3 hg3 hown3 B2 B3 KO3 KT3 KT KO B1 c0)
                          go_roundw
                          case rel => exact ⟨r + 1, m + 1, .slice A2 (m + 1) c2, by omega, by go_num, Lib.hid (by rw [List.replicate_succ', ← List.append_assoc, List.length_append, ← Hm.out]; rfl), Lib.hid (by rw [HST.out]; exact HO3.out), HK4.out.1.1, HK4.out.2, HK4.out.1.2⟩
                          case measure => simp [intOf]; omega
                        · obtain rfl : T = r := by omega
                          have HS : Hid (regO C T a ++ rowC T a (b + 1) = regO C T a ++ rowC T a b ++ List.replicate T ((a : Int), (b : Int))) := Lib.hid (by rw [rowC_step, List.append_assoc])
                          go_wp2
                          go_roundw
                          case rel => exact ⟨b + 1, m, v, by omega, by go_num, Lib.hid (by rw [HS.out]; exact Hm.out), Lib.hid (by rw [HS.out]; exact HO2.out), KT, KO, B1⟩
                          case measure => simp [intOf]; omega
                    · obtain rfl : C = b := by omega
                      have HS : Hid (regO C T (a + 1) = regO C T a ++ rowC T a C) := Lib.hid (regO_step C T a)
                      go_wp2
                      go_roundw
                      case rel => exact ⟨a + 1, m, v, by omega, by go_num, Lib.hid (by rw [HS.out]; exact Hm.out), Lib.hid (by rw [HS.out]; exact HO2.out), KT, KO, B1⟩
                      case measure => simp [intOf]; omega
                · obtain rfl : S = a := by omega
                  obtain ⟨A2, c2, rfl, hc2, _⟩ := own_reads HO2.out
                  have HRt := Lib.hid (rrightT_any A2 m c2 (regO C T S) wr (Reads.of_own HO2.out) (by unfold maxLen; have := reg_small hC hT hS; have := Hm.out; omega))
                  have HC2 := Lib.hid hc2
                  have c0 := KT.cell 0
                  have ktl := KT.lt
                  clear hc2
                  cases hrb : rightT (regO C T S) with
                  | false =>
                    rw [hrb] at HRt
                    have HV2 : Hid (regularV (S : Int) (C : Int) (T : Int) = ([], false)) := Lib.hid (by unfold regularV; rw [if_pos (by omega), Int.toNat_natCast, Int.toNat_natCast, Int.toNat_natCast, hrb]; rfl)
                    clear hrb
                    go_wp2_with fail
                    refine HRt.out.mono ?_
                    rintro e w4 ⟨rfl, h4⟩
                    replace KT := KT.below h4 KT.lt
                    replace KO := KO.below h4 KO.lt
                    replace B1 := B1.trans (h4.mono B1.size)
                    clear c0
                    have d0 := KO.cell 0
                    have f0 := KO.frozen 0
                    have HKF := Lib.hid (put1 (x := .slice none 0 0) KO B1 (Nat.le_refl _))
                    clear h4 KT KO B1 HO2
                    go_wp2_with fail
                    rw [HV2.out]
                    exact bodyPost_ret (v := .tuple #[.agg #[.slice none 0 0], .bool false]) (results_topo Try.results28 _ _ _ _ _ _ rfl HKF.out.1 Try.underlying27 rfl (by kernel_rfl)) rfl (MakesB.none_ HKF.out.2)
                  | true =>
                    rw [hrb] at HRt
                    have HV2 : Hid (regularV (S : Int) (C : Int) (T : Int) = (regO C T S, true)) := Lib.hid (by unfold regularV; rw [if_pos (by omega), Int.toNat_natCast, Int.toNat_natCast, Int.toNat_natCast, hrb]; rfl)
                    clear hrb
                    go_wp2_with fail
                    refine HRt.out.mono ?_
                    rintro e w4 ⟨rfl, h4⟩
                    replace KT := KT.below h4 KT.lt
                    replace KO := KO.below h4 KO.lt
                    replace B1 := B1.trans (h4.mono B1.size)
                    clear c0
                    have c1 := KT.cell 0
                    have d0 := KO.cell 0
                    have f0 := KO.frozen 0
                    have HKF := Lib.hid (put1 (x := .slice A2 m c2) KO B1 (Nat.le_refl _))
                    have HFA := Lib.hid (own_far (own_below HO2.out h4) (show w.heap.size < w.heap.size + 1 + 1 by omega) 0 (.slice A2 m c2))
                    clear h4 KT KO B1 HO2
                    go_wp2_with fail
                    rw [HV2.out]
                    exact bodyPost_ret (v := .tuple #[.agg #[.slice A2 m c2], .bool true]) (results_topo Try.results28 _ _ _ _ _ _ rfl HKF.out.1 Try.underlying27 rfl (by kernel_rfl)) rfl ⟨A2, m, c2, rfl, Hm.out, HC2.out, ⟨HFA.out.1, fun ad2 hA h0 => by have := HFA.out.2 ad2 hA h0; omega⟩, HKF.out.2⟩

end Go.Proofs.Ytfalkiinlkfanaa
