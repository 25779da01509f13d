/-
  The contracts of the landed Regular and Flat topologies. No statement is proved here.
-/
import Derived.Test.YtfalkiinlkfanaaLa
namespace Go.Proofs.Ytfalkiinlkfanaa
open Go.RowKit

/-- a call answers a topology, in memory of its own, and a word -/
def GetsF (r : List (Int × Int) × Int) (w : World) (e : Ending) (w' : World) : Prop :=
  ∃ A n c, e = .returned (.tuple #[.agg #[.slice A n c], .int .i64 r.2]) ∧ n = r.1.length ∧ At w' A n c r.1 ∧ (∀ ad, A = some ad → 0 < n → w.heap.size ≤ ad.block) ∧ Below w.heap.size w w'
theorem GetsF.gets {r : List (Int × Int) × Int} {w w' : World} {e : Ending} (h : GetsF r w e w') : Gets r w e w' := by
  obtain ⟨A, n, c, h1, h2, h3, _, h5⟩ := h
  exact ⟨A, n, c, h1, h2, h3, h5⟩
theorem GetsF.none_ {w w' : World} {c : Int} (hb : Below w.heap.size w w') : GetsF ([], c) w (.returned (.tuple #[.agg #[.slice none 0 0], .int .i64 c])) w' :=
  ⟨none, 0, 0, rfl, rfl, ⟨Reads.none_, Nat.le_refl _, by omega⟩, (fun _ h => by cases h), hb⟩
theorem Gets.none_ {w w' : World} {c : Int} (hb : Below w.heap.size w w') : Gets ([], c) w (.returned (.tuple #[.agg #[.slice none 0 0], .int .i64 c])) w' :=
  ⟨none, 0, 0, rfl, rfl, ⟨Reads.none_, Nat.le_refl _, by omega⟩, hb⟩
theorem mem_regO {C T S : Nat} {s : Int × Int} (h : s ∈ regO C T S) : ∃ a b : Nat, a < S ∧ b < C ∧ s = ((a : Int), (b : Int)) := by
  unfold regO rowC at h
  obtain ⟨a, ha, h⟩ := List.mem_flatMap.1 h
  obtain ⟨b, hb, h⟩ := List.mem_flatMap.1 h
  exact ⟨a, b, List.mem_range.1 ha, List.mem_range.1 hb, (List.mem_replicate.1 h).2⟩
theorem reg_right {C T S : Nat} (hC : C ≤ 8) (hS : S ≤ 4) (h1 : 1 ≤ S * (C * T)) : rightT (regO C T S) = decide (S * (C * T) ≤ 8) := by
  have ha : (regO C T S).all seatB = true := by
    rw [List.all_eq_true]
    intro s hs
    obtain ⟨a, b, h2, h3, rfl⟩ := mem_regO hs
    unfold seatB
    simp
    omega
  unfold rightT
  rw [ha, length_regO]
  simp [h1]
theorem reg_yes {S C T : Nat} (s1 : 1 ≤ S) (s4 : S ≤ 4) (c1 : 1 ≤ C) (c8 : C ≤ 8) (t1 : 1 ≤ T) (t8 : T ≤ 8) : regR (S : Int) (C : Int) (T : Int) = if S * (C * T) ≤ 8 then (regO C T S, 0) else ([], 2) := by
  have h1 : 1 ≤ S * (C * T) := Nat.mul_pos s1 (Nat.mul_pos c1 t1)
  have hv : regularV (S : Int) (C : Int) (T : Int) = if S * (C * T) ≤ 8 then (regO C T S, true) else ([], false) := by
    unfold regularV
    rw [if_pos ⟨by omega, by omega, by omega, by omega, by omega, by omega⟩, Int.toNat_natCast, Int.toNat_natCast, Int.toNat_natCast, reg_right c8 s4 h1]
    by_cases h : S * (C * T) ≤ 8
    · rw [if_pos h, decide_eq_true h]; rfl
    · rw [if_neg h, decide_eq_false h]; rfl
  unfold regR
  rw [hv]
  by_cases h : S * (C * T) ≤ 8
  · rw [if_pos h, if_pos h]; rfl
  · rw [if_neg h, if_neg h]; rfl
theorem reg_no {s c t : Int} (h : ¬ (1 ≤ s ∧ s ≤ 4 ∧ 1 ≤ c ∧ c ≤ 8 ∧ 1 ≤ t ∧ t ≤ 8)) : regR s c t = ([], 2) := by
  unfold regR regularV
  rw [if_neg h]
  rfl
theorem prod_wraps {S C T : Nat} (s4 : S ≤ 4) (c8 : C ≤ 8) (t8 : T ≤ 8) : IntKind.i64.wrap ((S : Int) * (C : Int)) = (S : Int) * (C : Int) ∧ IntKind.i64.wrap ((S : Int) * (C : Int) * (T : Int)) = (S : Int) * (C : Int) * (T : Int) := by
  have h1 : S * C ≤ 4 * 8 := Nat.mul_le_mul s4 c8
  have h2 : S * C * T ≤ 4 * 8 * 8 := Nat.mul_le_mul h1 t8
  have e1 : (S : Int) * (C : Int) = ((S * C : Nat) : Int) := by push_cast; rfl
  have e2 : (S : Int) * (C : Int) * (T : Int) = ((S * C * T : Nat) : Int) := by push_cast; rfl
  rw [e2, e1, IntKind.wrap_i64, IntKind.wrap_i64]
  omega
theorem prod_le {S C T : Nat} : ((8 : Int) < (S : Int) * (C : Int) * (T : Int)) ↔ ¬ S * (C * T) ≤ 8 := by
  have e2 : (S : Int) * (C : Int) * (T : Int) = ((S * (C * T) : Nat) : Int) := by push_cast; rw [Int.mul_assoc]
  rw [e2]
  omega

set_option maxRecDepth 100000 in
set_option maxHeartbeats 8000000 in
theorem regular_far (s c t : Int) (w : World) : Calls Try.prog 27 #[.int .i64 s, .int .i64 c, .int .i64 t] w (GetsF (regR s c t) w) := by
  obtain ⟨i0, hi0, hz0, hz1, hz2⟩ := info_parts seat_info
  have HB := Lib.hid (And.intro (Blk.new w 27 #[.slice none 0 0]) ((Below.refl _ w).alloc (Nat.le_refl _) (.cells #[.slice none 0 0] 27)))
  have HB2 : Hid (Blk ((w.alloc (.cells #[.slice none 0 0] 27)).alloc (.cells #[.slice none 0 0] 27)) w.heap.size 27 #[.slice none 0 0] ∧ Blk ((w.alloc (.cells #[.slice none 0 0] 27)).alloc (.cells #[.slice none 0 0] 27)) (w.heap.size + 1) 27 #[.slice none 0 0] ∧ Below w.heap.size w ((w.alloc (.cells #[.slice none 0 0] 27)).alloc (.cells #[.slice none 0 0] 27))) := Lib.hid (blks2 w 27 27 #[.slice none 0 0] #[.slice none 0 0])
  have HC1 := Lib.hid (fun u => iscount_any s 4 u)
  have HC2 := Lib.hid (fun u => iscount_any c 8 u)
  have HC3 := Lib.hid (fun u => iscount_any t 8 u)
  by_cases b1 : 1 ≤ s ∧ s ≤ 4
  · rw [show (decide (1 ≤ s) && decide (s ≤ 4)) = true by simp [b1]] at HC1
    by_cases b2 : 1 ≤ c ∧ c ≤ 8
    · rw [show (decide (1 ≤ c) && decide (c ≤ 8)) = true by simp [b2]] at HC2
      by_cases b3 : 1 ≤ t ∧ t ≤ 8
      · rw [show (decide (1 ≤ t) && decide (t ≤ 8)) = true by simp [b3]] at HC3
        obtain ⟨S, rfl⟩ := Int.eq_ofNat_of_zero_le (show 0 ≤ s by omega)
        obtain ⟨C, rfl⟩ := Int.eq_ofNat_of_zero_le (show 0 ≤ c by omega)
        obtain ⟨T, rfl⟩ := Int.eq_ofNat_of_zero_le (show 0 ≤ t by omega)
        have hC : C ≤ 8 := by omega
        have hT : T ≤ 8 := by omega
        have hS : S ≤ 4 := by omega
        obtain ⟨q1, q2⟩ := prod_wraps hS hC hT
        rw [reg_yes (by omega) hS (by omega) hC (by omega) hT]
        clear b1 b2 b3
        by_cases hp : S * (C * T) ≤ 8
        · have q3 : decide ((8 : Int) < (S : Int) * (C : Int) * (T : Int)) = false := decide_eq_false (fun h => prod_le.1 h hp)
          rw [if_pos hp]
          clear hp
          have HX := Lib.hid (And.intro hC (And.intro hT hS))
          go_enter Try.func27, Try.ntmps27
          go_wp2_with fail
          refine (HC1.out _).mono ?_
          rintro e w1 ⟨rfl, rfl⟩
          go_wp2_with fail
          refine (HC2.out _).mono ?_
          rintro e w2 ⟨rfl, rfl⟩
          go_wp2_with fail
          refine (HC3.out _).mono ?_
          rintro e w3 ⟨rfl, rfl⟩
          go_wp2_with fail
          clear HC1 HC2 HC3 q1 q2 q3
          go_loopw [34] (fun i wr => ∃ (a m : Nat) (v : Value), a ≤ S ∧ i = .int .i64 (a : Int) ∧ Hid (m = (regO C T a).length) ∧ Hid (wr.ownsRow (w.heap.size + 1 + 1) 37 2 v m (svs (regO C T a))) ∧ Blk wr (w.heap.size + 1) 27 #[v] ∧ Blk wr w.heap.size 27 #[.slice none 0 0] ∧ Below w.heap.size w wr) (fun i _ => S - (intOf i).toNat)
          case atStart => exact ⟨0, 0, .slice none 0 0, by omega, rfl, Lib.hid rfl, Lib.hid (World.ownsRow_nil _ _ _ _), HB2.out.2.1, HB2.out.1, HB2.out.2.2⟩
          case round =>
            obtain ⟨a, m, v, ha, rfl, Hm, HO2, KT, KO, B1⟩ := hrel
            by_cases has : a < S
            · skip
              go_wp2_with fail
              go_loopw [38] (fun i wr => ∃ (b m : Nat) (v : Value), b ≤ C ∧ i = .int .i64 (b : Int) ∧ Hid (m = (regO C T a ++ rowC T a b).length) ∧ Hid (wr.ownsRow (w.heap.size + 1 + 1) 37 2 v m (svs (regO C T a ++ rowC T a b))) ∧ Blk wr (w.heap.size + 1) 27 #[v] ∧ Blk wr w.heap.size 27 #[.slice none 0 0] ∧ Below w.heap.size w wr) (fun i _ => C - (intOf i).toNat)
              case atStart => exact ⟨0, m, v, by omega, rfl, Lib.hid (by rw [show rowC T a 0 = [] from rfl, List.append_nil]; exact Hm.out), Lib.hid (by rw [show rowC T a 0 = [] from rfl, List.append_nil]; exact HO2.out), KT, KO, B1⟩
              case round =>
                clear Hm HO2 KT KO B1
                obtain ⟨b, m, v, hb, rfl, Hm, HO2, KT, KO, B1⟩ := hrel
                by_cases hbc : b < C
                · skip
                  go_wp2_with fail
                  go_loopw [42] (fun i wr => ∃ (r m : Nat) (v : Value), r ≤ T ∧ i = .int .i64 (r : Int) ∧ Hid (m = (regO C T a ++ rowC T a b ++ List.replicate r ((a : Int), (b : Int))).length) ∧ Hid (wr.ownsRow (w.heap.size + 1 + 1) 37 2 v m (svs (regO C T a ++ rowC T a b ++ List.replicate r ((a : Int), (b : Int))))) ∧ Blk wr (w.heap.size + 1) 27 #[v] ∧ Blk wr w.heap.size 27 #[.slice none 0 0] ∧ Below w.heap.size w wr) (fun i _ => T - (intOf i).toNat)
                  case atStart => exact ⟨0, m, v, by omega, rfl, Lib.hid (by rw [List.replicate_zero, List.append_nil]; exact Hm.out), Lib.hid (by rw [List.replicate_zero, List.append_nil]; exact HO2.out), KT, KO, B1⟩
                  case round =>
                    clear Hm HO2 KT KO B1
                    obtain ⟨r, m, v, hr, rfl, Hm, HO2, KT, KO, B1⟩ := hrel
                    by_cases hrt : r < T
                    · have Hm3 : Hid (m ≤ 300) := Lib.hid (by rw [Hm.out]; exact reg_le HX.out.1 HX.out.2.1 hr (by have := HX.out.2.2; omega) (by have := HX.out.1; omega))
                      have HST : Hid (svs (regO C T a ++ rowC T a b ++ List.replicate (r + 1) ((a : Int), (b : Int))) = svs (regO C T a ++ rowC T a b ++ List.replicate r ((a : Int), (b : Int))) ++ [.int .i64 (a : Int), .int .i64 (b : Int)]) := Lib.hid (by rw [List.replicate_succ', ← List.append_assoc]; unfold svs; rw [flat_append, flat_one]; rfl)
                      have m3 := Hm3.out
                      have hsz := B1.size
                      have c0 := KT.cell 0
                      have ktl := KT.lt
                      go_wp2_with (
                        at_builtin
                        refine wpList_append_own _ rfl (.tmp 45) (.tmp 49) 25 rfl (w.heap.size + 1 + 1) 37 i0 (.agg #[.int .i64 0, .int .i64 0]) 2 16 Try.underlying25 hi0 hz0 hz1 hz2 rfl (by decide) _ m _ rfl (HO2.out.alloc _) ⟨_, 0, none⟩ 1 1 [.int .i64 (a : Int), .int .i64 (b : Int)] rfl rfl (two_new _ _ _ _) (by simp [Value.oneCell']) (by simp only [maxLen]; omega) (by omega) (by simp <;> omega) ?_
                        intro v2 w3 hown3 hg3 _
                        obtain ⟨A2, c2, rfl, _, _⟩ := own_reads hown3
                        have hn3 : ∀ g, v.ownBlock = some g → w.heap.size + 1 + 1 ≤ g := fun g hg => (HO2.out.lt g hg).1
                        have KT3 := (KT.alloc (.cells #[.int .i64 (a : Int), .int .i64 (b : Int)] 37)).grown hg3 (fun he => by have := hn3 _ he.symm; omega)
                        have KO3 := (KO.alloc (.cells #[.int .i64 (a : Int), .int .i64 (b : Int)] 37)).grown hg3 (fun he => by have := hn3 _ he.symm; omega)
                        have B2 := B1.alloc B1.size (.cells #[.int .i64 (a : Int), .int .i64 (b : Int)] 37)
                        have B3 := B2.grown hg3 B2.size (fun g hg => by have := hn3 g hg; omega)
                        have HO3 := Lib.hid (own_set hown3 (show w.heap.size + 1 < w.heap.size + 1 + 1 by omega) 0 (.slice A2 (m + 1) c2))
                        have HK4 := Lib.hid (And.intro (put1 (x := .slice A2 (m + 1) c2) KT3 B3 (by omega)) (KO3.far (p := ⟨w.heap.size + 1, 0, none⟩) (by simp) (.slice A2 (m + 1) c2)))
                        have d0 := KT3.cell 0
                        have f0 := KT3.frozen 0
                        clear hn3 hg3 hown3 B2 B3 KO3 KT3 KT KO B1 c0)
                      go_roundw
                      case rel => exact ⟨r + 1, m + 1, .slice A2 (m + 1) c2, by omega, by go_num, Lib.hid (by rw [List.replicate_succ', ← List.append_assoc, List.length_append, ← Hm.out]; rfl), Lib.hid (by rw [HST.out]; exact HO3.out), HK4.out.1.1, HK4.out.2, HK4.out.1.2⟩
                      case measure => simp [intOf]; omega
                    · obtain rfl : T = r := by omega
                      have HS : Hid (regO C T a ++ rowC T a (b + 1) = regO C T a ++ rowC T a b ++ List.replicate T ((a : Int), (b : Int))) := Lib.hid (by rw [rowC_step, List.append_assoc])
                      go_wp2
                      go_roundw
                      case rel => exact ⟨b + 1, m, v, by omega, by go_num, Lib.hid (by rw [HS.out]; exact Hm.out), Lib.hid (by rw [HS.out]; exact HO2.out), KT, KO, B1⟩
                      case measure => simp [intOf]; omega
                · obtain rfl : C = b := by omega
                  have HS : Hid (regO C T (a + 1) = regO C T a ++ rowC T a C) := Lib.hid (regO_step C T a)
                  go_wp2
                  go_roundw
                  case rel => exact ⟨a + 1, m, v, by omega, by go_num, Lib.hid (by rw [HS.out]; exact Hm.out), Lib.hid (by rw [HS.out]; exact HO2.out), KT, KO, B1⟩
                  case measure => simp [intOf]; omega
            · obtain rfl : S = a := by omega
              obtain ⟨A2, c2, rfl, hc2, _⟩ := own_reads HO2.out
              have HC2 := Lib.hid hc2
              have c0 := KT.cell 0
              have ktl := KT.lt
              clear hc2
              have d0 := KO.cell 0
              have f0 := KO.frozen 0
              have HKF := Lib.hid (put1 (x := .slice A2 m c2) KO B1 (Nat.le_refl _))
              have HFA := Lib.hid (own_far HO2.out (show w.heap.size < w.heap.size + 1 + 1 by omega) 0 (.slice A2 m c2))
              clear KT KO B1 HO2
              go_wp2_with fail
              exact bodyPost_ret (v := .tuple #[.agg #[.slice A2 m c2], .int .i64 0]) (results_topo Try.results27 _ _ _ _ _ _ rfl HKF.out.1 Try.underlying27 rfl (by kernel_rfl)) rfl ⟨A2, m, c2, rfl, Hm.out, ⟨HFA.out.1, HC2.out, by rw [Hm.out]; exact Nat.le_trans (reg_small HX.out.1 HX.out.2.1 HX.out.2.2) (by omega)⟩, (fun ad2 hA h0 => by have := HFA.out.2 ad2 hA h0; omega), HKF.out.2⟩
        · have q3 : decide ((8 : Int) < (S : Int) * (C : Int) * (T : Int)) = true := decide_eq_true (prod_le.2 hp)
          rw [if_neg hp]
          clear hp hC hT hS
          go_enter Try.func27, Try.ntmps27
          go_wp2_with fail
          refine (HC1.out _).mono ?_
          rintro e w1 ⟨rfl, rfl⟩
          go_wp2_with fail
          refine (HC2.out _).mono ?_
          rintro e w2 ⟨rfl, rfl⟩
          go_wp2_with fail
          refine (HC3.out _).mono ?_
          rintro e w3 ⟨rfl, rfl⟩
          go_wp2_with fail
          exact bodyPost_ret (v := .tuple #[.agg #[.slice none 0 0], .int .i64 2]) (results_topo Try.results27 _ _ _ _ _ _ rfl HB.out.1 Try.underlying27 rfl (by kernel_rfl)) rfl (GetsF.none_ HB.out.2)
      · rw [show (decide (1 ≤ t) && decide (t ≤ 8)) = false from (by rw [← Bool.not_eq_true, Bool.and_eq_true, decide_eq_true_eq, decide_eq_true_eq]; exact b3)] at HC3
        rw [reg_no (s := s) (c := c) (t := t) (by omega)]
        clear b1 b2 b3
        go_enter Try.func27, Try.ntmps27
        go_wp2_with fail
        refine (HC1.out _).mono ?_
        rintro e w1 ⟨rfl, rfl⟩
        go_wp2_with fail
        refine (HC2.out _).mono ?_
        rintro e w2 ⟨rfl, rfl⟩
        go_wp2_with fail
        refine (HC3.out _).mono ?_
        rintro e w3 ⟨rfl, rfl⟩
        go_wp2_with fail
        exact bodyPost_ret (v := .tuple #[.agg #[.slice none 0 0], .int .i64 2]) (results_topo Try.results27 _ _ _ _ _ _ rfl HB.out.1 Try.underlying27 rfl (by kernel_rfl)) rfl (GetsF.none_ HB.out.2)
    · rw [show (decide (1 ≤ c) && decide (c ≤ 8)) = false from (by rw [← Bool.not_eq_true, Bool.and_eq_true, decide_eq_true_eq, decide_eq_true_eq]; exact b2)] at HC2
      rw [reg_no (s := s) (c := c) (t := t) (by omega)]
      clear b1 b2
      go_enter Try.func27, Try.ntmps27
      go_wp2_with fail
      refine (HC1.out _).mono ?_
      rintro e w1 ⟨rfl, rfl⟩
      go_wp2_with fail
      refine (HC2.out _).mono ?_
      rintro e w2 ⟨rfl, rfl⟩
      go_wp2_with fail
      exact bodyPost_ret (v := .tuple #[.agg #[.slice none 0 0], .int .i64 2]) (results_topo Try.results27 _ _ _ _ _ _ rfl HB.out.1 Try.underlying27 rfl (by kernel_rfl)) rfl (GetsF.none_ HB.out.2)
  · rw [show (decide (1 ≤ s) && decide (s ≤ 4)) = false from (by rw [← Bool.not_eq_true, Bool.and_eq_true, decide_eq_true_eq, decide_eq_true_eq]; exact b1)] at HC1
    rw [reg_no (s := s) (c := c) (t := t) (by omega)]
    clear b1
    go_enter Try.func27, Try.ntmps27
    go_wp2_with fail
    refine (HC1.out _).mono ?_
    rintro e w1 ⟨rfl, rfl⟩
    go_wp2_with fail
    exact bodyPost_ret (v := .tuple #[.agg #[.slice none 0 0], .int .i64 2]) (results_topo Try.results27 _ _ _ _ _ _ rfl HB.out.1 Try.underlying27 rfl (by kernel_rfl)) rfl (GetsF.none_ HB.out.2)

theorem tregular_ok : TRegularOk := fun s c t u => (regular_far s c t u).mono fun _ _ h => h.gets

theorem flat_row (n : Nat) : (List.range n).map (fun (k : Nat) => ((0 : Int), (k : Int))) = regO n 1 1 := by
  unfold regO rowC
  rw [show List.range 1 = [0] from rfl]
  induction n with
  | zero => rfl
  | succ n ih =>
    rw [List.range_succ, List.map_append, ih]
    simp
theorem flat_reg (n : Int) : flatR n = regR 1 n 1 := by
  unfold flatR
  by_cases h : 1 ≤ n ∧ n ≤ 8
  · obtain ⟨k, rfl⟩ := Int.eq_ofNat_of_zero_le (show 0 ≤ n by omega)
    have := reg_yes (S := 1) (C := k) (T := 1) (by omega) (by omega) (by omega) (by omega) (by omega) (by omega)
    rw [if_pos h, Int.toNat_natCast, flat_row]
    rw [if_pos (by omega)] at this
    exact this.symm
  · rw [if_neg h, reg_no (by omega)]

set_option maxRecDepth 100000 in
set_option maxHeartbeats 1000000 in
theorem tflat_ok : TFlatOk := by
  intro n w
  rw [flat_reg]
  have hr := fun u => regular_far 1 n 1 u
  have K := Blk.new w 27 #[.slice none 0 0]
  have B := (Below.refl _ w).alloc (Nat.le_refl _) (.cells #[.slice none 0 0] 27)
  generalize regR 1 n 1 = r at hr ⊢
  have HR := Lib.hid hr
  have HB := Lib.hid (And.intro K B)
  clear K B hr
  go_enter Try.func26, Try.ntmps26
  go_wp2_with fail
  refine (HR.out _).mono ?_
  rintro e w1 ⟨A, m, c, rfl, hl, hA, hf, h1⟩
  have K1 := HB.out.1.below h1 HB.out.1.lt
  have B1 := HB.out.2.trans (h1.mono HB.out.2.size)
  have d0 := K1.cell 0
  have f0 := K1.frozen 0
  have HKF := Lib.hid (put1 (x := .slice A m c) K1 B1 (Nat.le_refl _))
  have HRR := Lib.hid (And.intro hl (And.intro (reads_far ⟨hA.1, hf⟩ HB.out.1 (.slice A m c)) hA.2))
  clear K1 B1 hl hA hf h1
  go_wp2_with fail
  exact bodyPost_ret (v := .tuple #[.agg #[.slice A m c], .int .i64 r.2]) (results_topo Try.results26 _ _ _ _ _ _ rfl HKF.out.1 Try.underlying27 rfl (by kernel_rfl)) rfl ⟨A, m, c, rfl, HRR.out.1, ⟨HRR.out.2.1, HRR.out.2.2⟩, HKF.out.2⟩

end Go.Proofs.Ytfalkiinlkfanaa
