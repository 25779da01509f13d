/-
  The contract of the landed wide's reading of a number's digits. No statement is proved here.
-/
import Derived.Test.YteglkhljenjplaaTe
namespace Go.Proofs.Yteglkhljenjplaa
open Go.RowKit

/-- the number whose digits stand in a row -/
def pv (ds : List Nat) : Nat := ds.foldl (fun a d => 10 * a + d) 0
theorem pv_snoc (ds : List Nat) (d : Nat) : pv (ds ++ [d]) = 10 * pv ds + d := by simp [pv]
theorem pv_take {ds : List Nat} {k : Nat} (h : k < ds.length) : pv (ds.take (k + 1)) = 10 * pv (ds.take k) + ds[k] := by
  rw [List.take_succ_eq_append_getElem h, pv_snoc]
theorem pv_le (ds : List Nat) : ∀ m k, k + m = ds.length → pv (ds.take k) ≤ pv ds := by
  intro m
  induction m with
  | zero => intro k h; rw [List.take_of_length_le (by omega)]; exact Nat.le_refl _
  | succ m ih =>
    intro k h
    have h1 := ih (k + 1) (by omega)
    rw [pv_take (by omega)] at h1
    omega
theorem dg_val (k : Nat) : ∀ N, N < 10 ^ k → pv (dg k N) = N := by
  induction k with
  | zero => intro N h; simp at h; subst h; rfl
  | succ k ih =>
    intro N h
    by_cases h10 : N < 10
    · rw [dg_small h10]; simp [pv]
    · rw [dg_big (by omega), pv_snoc, ih (N / 10) (by rw [Nat.pow_succ] at h; omega)]
      omega
theorem dg_form (k : Nat) : ∀ N, N < 10 ^ (k + 1) → dg (k + 1) N = [0] ∨ ∃ d es, dg (k + 1) N = d :: es ∧ d ≠ 0 := by
  induction k with
  | zero =>
    intro N h
    rw [dg_small (by omega)]
    rcases Nat.eq_zero_or_pos N with h0 | h0
    · exact .inl (by rw [h0])
    · exact .inr ⟨N, [], rfl, by omega⟩
  | succ k ih =>
    intro N h
    by_cases h10 : N < 10
    · rw [dg_small h10]
      rcases Nat.eq_zero_or_pos N with h0 | h0
      · exact .inl (by rw [h0])
      · exact .inr ⟨N, [], rfl, by omega⟩
    · have hb : N / 10 < 10 ^ (k + 1) := by rw [Nat.pow_succ] at h; omega
      rw [dg_big (by omega)]
      rcases ih (N / 10) hb with h1 | ⟨d, es, h1, h2⟩
      · have hv := dg_val (k + 1) (N / 10) hb
        rw [h1] at hv
        simp [pv] at hv
        omega
      · exact .inr ⟨d, es ++ [N % 10], by rw [h1]; rfl, h2⟩

theorem words_eq {a b c d hi lo : Nat} (hc : c < 4294967296) (hd : d < 4294967296) (hlo : lo < 18446744073709551616)
    (h : ((a * 4294967296 + b) * 4294967296 + c) * 4294967296 + d = hi * 18446744073709551616 + lo) : a * 4294967296 + b = hi ∧ c * 4294967296 + d = lo := by omega
theorem iter_rows {W : World} {gi p g g' : Nat} {s : ByteArray} {cs cs' : Array Value} (h : W.heap[gi]? = some (.stringIter s p)) (o : Obj) (h1 : gi ≠ g) (h2 : gi ≠ g') : (((W.alloc o).setRow g cs).setRow g' cs').heap[gi]? = some (.stringIter s p) := by
  have e := (Below.heap_alloc W o gi (lt_of_block h)).trans h
  simp only [World.setRow, Array.getElem?_modify]
  rw [if_neg (by omega), if_neg (by omega)]
  exact e

set_option maxHeartbeats 4000000 in
theorem parse_digits (ds : List Nat) (hl : ∀ d ∈ ds, d < 10) (hlen : ds.length ≤ 39) (hform : ds = [0] ∨ ∃ d es, ds = d :: es ∧ d ≠ 0) (hi lo : Nat) (hlo : lo < 18446744073709551616) (hhi : hi < 18446744073709551616) (hv : pv ds = hi * 18446744073709551616 + lo) (w : World) :
    Calls Try.prog 26 #[.string (txt ds)] w (Ans (.tuple #[.agg #[.int .u64 (hi : Int), .int .u64 (lo : Int)], .int .i64 0]) w) := by
  have hsz := txt_size ds
  have HN := Lib.hid (fun u => number_yes ds hl hlen hform u)
  obtain ⟨s, hs⟩ : ∃ s, txt ds = s := ⟨_, rfl⟩
  have HAT := Lib.hid (fun k (h : k < (txt ds).size) h2 => txt_at hl (k := k) h h2)
  rw [hs] at hsz HN ⊢
  have HS := Lib.hid (And.intro hs (And.intro hsz (And.intro hl (And.intro hv (And.intro hlo hhi)))))
  have b0 := Blk.new w 24 #[.int .u64 0, .int .u64 0]
  have B0 := (Below.refl w.heap.size w).alloc (Nat.le_refl _) (.cells #[.int .u64 0, .int .u64 0] 24)
  have HB := Lib.hid (And.intro b0 B0)
  have hlb : decide (39 < (s.size : Int)) = false := decide_eq_false (by omega)
  have hlb2 : (s.size : Int) ≤ 39 := by omega
  clear hs hsz hlen hl hform hv hlo hhi b0 B0
  go_enter Try.func26, Try.ntmps26
  go_wp2_with fail
  refine (HN.out _).mono ?_
  rintro e w2 ⟨rfl, h2⟩
  have F2 := HB.out.1.below h2 HB.out.1.lt
  have GB := HB.out.2.trans (h2.mono HB.out.2.size)
  clear HB h2 HN hlb hlb2
  go_wp2_with fail
  have l2 := F2.lt
  have F4 : Blk ((w2.alloc (.cells #[.int .u32 0, .int .u32 0, .int .u32 0, .int .u32 0] 62)).iter s 0) _ _ _ := (Blk.new w2 62 #[.int .u32 0, .int .u32 0, .int .u32 0, .int .u32 0]).alloc (.stringIter s 0)
  have hI : ((w2.alloc (.cells #[.int .u32 0, .int .u32 0, .int .u32 0, .int .u32 0] 62)).iter s 0).heap[w2.heap.size + 1]? = some (.stringIter s 0) := by
    have := World.iter_heap (w2.alloc (.cells #[.int .u32 0, .int .u32 0, .int .u32 0, .int .u32 0] 62)) s 0
    simpa using this
  replace F2 : Blk ((w2.alloc (.cells #[.int .u32 0, .int .u32 0, .int .u32 0, .int .u32 0] 62)).iter s 0) _ _ _ := (F2.alloc (.cells #[.int .u32 0, .int .u32 0, .int .u32 0, .int .u32 0] 62)).alloc (.stringIter s 0)
  have sz := GB.size
  replace GB : Below _ _ ((w2.alloc (.cells #[.int .u32 0, .int .u32 0, .int .u32 0, .int .u32 0] 62)).iter s 0) := (GB.alloc sz (.cells #[.int .u32 0, .int .u32 0, .int .u32 0, .int .u32 0] 62)).alloc (by simp; omega) (.stringIter s 0)
  generalize ((w2.alloc (.cells #[.int .u32 0, .int .u32 0, .int .u32 0, .int .u32 0] 62)).iter s 0) = V at F2 F4 hI GB ⊢
  generalize w2.heap.size = g4 at F4 hI l2 sz ⊢
  go_loopw [6] (fun _ wr => ∃ (k : Nat) (f : Nat → Nat), k ≤ ds.length ∧ (∀ j, j < 4 → f j < 4294967296) ∧ valQ f = pv (ds.take k) ∧ wr.heap[g4 + 1]? = some (.stringIter s k) ∧ Blk wr g4 62 (qs f) ∧ Blk wr w.heap.size 24 #[.int .u64 0, .int .u64 0] ∧ Below w.heap.size w wr) (fun _ wr => ds.length - iterPos wr (g4 + 1))
  case atStart => exact ⟨0, fun _ => 0, by omega, fun _ _ => (by decide : 0 < 4294967296), rfl, hI, F4, F2, GB⟩
  case round =>
    clear hI F4 F2 GB
    obtain ⟨k, f, hkn, hf, hval, hI, F4, F2, GB⟩ := hrel
    have hsz := HS.out.2.1
    by_cases hlt : k < ds.length
    · obtain ⟨d, hd, hd2⟩ : ∃ d, ds[k] = d ∧ d < 10 := ⟨_, rfl, HS.out.2.2.1 _ (List.getElem_mem hlt)⟩
      have hc : (s[k]'(by omega)).toNat = 48 + d := by
        have h1 := HS.out.1
        subst h1
        have := HAT.out k (by omega) hlt
        rw [this, hd]
      have hnx := run_next_at 0 hI (by omega) (by rw [hc]; omega)
      rw [hc] at hnx
      have hvk := pv_take hlt
      rw [hd, ← hval] at hvk
      have hfit : 10 * valQ f + d < 340282366920938463463374607431768211456 := by
        have h1 := pv_le ds (ds.length - (k + 1)) (k + 1) (by omega)
        have h2 := HS.out.2.2.2.1
        have h3 := HS.out.2.2.2.2.1
        have h4 := HS.out.2.2.2.2.2
        omega
      have HL := Lib.hid (fun u => longer_any f d hf hd2 hfit u)
      have hfv := (longer_fits hfit).2
      have hfl : ∀ j, j < 4 → hk f d j < 4294967296 := fun j _ => hk_lt f d j
      generalize hk f d = g at HL hfv hfl
      rw [← hvk] at hfv
      have hit := toIter_at hI (k + 1)
      have p1 := iterPos_at hI
      replace F4 := toIter_blk (s := s) F4 (show g4 ≠ g4 + 1 by omega) (k + 1)
      replace F2 := toIter_blk (s := s) F2 (show w.heap.size ≠ g4 + 1 by omega) (k + 1)
      replace GB := toIter_below (s := s) GB (show w.heap.size ≤ g4 + 1 by omega) (k + 1)
      have HK := Lib.hid (And.intro hlt (And.intro hfv (And.intro hfl p1)))
      clear hI hsz hc hd hd2 hval hvk hfit hfv hfl hlt p1 hf
      go_wp2_with (refine wpList_load_row rfl 62 (.tmp 4) rfl _ rfl _ _ (0, 0) _ F4 Try.underlying62 rfl (info_qs f) ?_)
      refine (HL.out _).mono ?_
      rintro e w3 ⟨rfl, h3⟩
      have hit3 : w3.heap[g4 + 1]? = some (.stringIter s (k + 1)) := (h3.block (g4 + 1) (lt_of_block hit)).trans hit
      replace F4 := F4.below h3 F4.lt
      replace F2 := F2.below h3 F2.lt
      replace GB := GB.trans (h3.mono GB.size)
      clear h3 hit hnx HL
      have l3 := lt_of_block hit3
      have sz3 := GB.size
      have Y7 := Blk.new w3 62 #[.int .u32 0, .int .u32 0, .int .u32 0, .int .u32 0]
      have E7 := Y7.row (cs' := qs g)
      have F4a := (F4.alloc (.cells #[.int .u32 0, .int .u32 0, .int .u32 0, .int .u32 0] 62)).other (g' := w3.heap.size) (cs' := qs g) (by omega)
      have HR := Lib.hid (And.intro (F4a.row (cs' := qs g)) (And.intro ((((F2.alloc (.cells #[.int .u32 0, .int .u32 0, .int .u32 0, .int .u32 0] 62)).other (g' := w3.heap.size) (cs' := qs g) (by omega))).other (g' := g4) (cs' := qs g) (by omega)) (And.intro (below_row (g' := g4) (cs' := qs g) (below_row (g' := w3.heap.size) (cs' := qs g) (GB.alloc sz3 (.cells #[.int .u32 0, .int .u32 0, .int .u32 0, .int .u32 0] 62)) sz3) (by omega)) (iter_rows (cs := qs g) (cs' := qs g) (g := w3.heap.size) (g' := g4) hit3 (.cells #[.int .u32 0, .int .u32 0, .int .u32 0, .int .u32 0] 62) (by omega) (by omega)))))
      clear F2 GB hit3 F4
      go_wp2_with (first
        | (refine wpList_store_row rfl 62 (.tmp 7) (.tmp 28) rfl _ _ rfl rfl _ _ Y7 (info_qs g) rfl (one_qs g) ?_)
        | (refine wpList_load_row rfl 62 (.tmp 7) rfl _ rfl _ _ (0, 0) _ E7 Try.underlying62 rfl (info_qs g) ?_)
        | (refine wpList_store_row rfl 62 (.tmp 4) (.tmp 33) rfl _ _ rfl rfl _ _ F4a (info_qs g) rfl (one_qs g) ?_))
      go_roundw
      case rel => exact ⟨_, _, _, _, _, _, _, _, _, _, _, _, _, _, _, _, _, ⟨k + 1, g, by have := HK.out.1; omega, HK.out.2.2.1, HK.out.2.1, HR.out.2.2.2, HR.out.1, HR.out.2.1, HR.out.2.2.1⟩, rfl⟩
      case measure => rw [iterPos_at HR.out.2.2.2, HK.out.2.2.2]; have := HK.out.1; omega
    · obtain rfl : k = ds.length := by omega
      rw [List.take_of_length_le (Nat.le_refl _)] at hval
      have hnx := run_next_out 0 hI (by omega)
      have HW : Hid (∀ u, Calls Try.prog 38 #[.agg (qs f)] u (Ans (.agg #[.int .u64 (hi : Int), .int .u64 (lo : Int)]) u)) := Lib.hid (fun u => by
        have h := wide_of f hf u
        have h2 := HS.out.2.2.2.1
        have h3 := HS.out.2.2.2.2.1
        rw [← hval, valQ_def] at h2
        have hw := words_eq (hf 2 (by omega)) (hf 3 (by omega)) h3 h2
        rw [hw.1, hw.2] at h
        exact h)
      clear hI hsz hkn hlt hval hf
      go_wp2_with (refine wpList_load_row rfl 62 (.tmp 4) rfl _ rfl _ _ (0, 0) _ F4 Try.underlying62 rfl (info_qs f) ?_)
      refine (HW.out _).mono ?_
      rintro e w3 ⟨rfl, h3⟩
      replace F2 := F2.below h3 F2.lt
      replace GB := GB.trans (h3.mono GB.size)
      have x0 : w3.cell? ⟨w.heap.size, 0, none⟩ = some (.int .u64 0) := F2.cell 0
      have x1 : w3.cell? ⟨w.heap.size, 1, none⟩ = some (.int .u64 0) := F2.cell 1
      have f0 := F2.frozen 0
      have f1 := F2.frozen 1
      have HK := Lib.hid (And.intro (F2.set2 (x := .int .u64 (hi : Int)) (y := .int .u64 (lo : Int))) (below_pair (x := .int .u64 (hi : Int)) (y := .int .u64 (lo : Int)) GB (Nat.le_refl _)))
      clear h3 F2 GB F4
      go_wp2
      exact bodyPost_ret (v := .tuple #[.agg #[.int .u64 (hi : Int), .int .u64 (lo : Int)], .int .i64 0]) (results_row2 Try.results26 _ _ _ _ _ _ rfl HK.out.1 Try.underlying24 rfl (by kernel_rfl)) rfl ⟨rfl, HK.out.2⟩

end Go.Proofs.Yteglkhljenjplaa
