/-
  The document's digit, Place, With. No statement is proved here.
-/
import Derived.Test.YtbhcpkmofnfjgaaWm
namespace Go.Proofs.Ytbhcpkmofnfjgaa
open Go.RowKit

theorem div_step (x : Int) (k : Nat) : x / 64 ^ k / 64 = x / 64 ^ (k + 1) := by
  rw [Int.pow_succ, Int.ediv_ediv_of_nonneg (by exact Int.pow_nonneg (by decide))]

set_option maxRecDepth 100000 in
set_option maxHeartbeats 2000000 in
theorem rdigit_any (x : Int) (m : Nat) (w : World) (h0 : 0 ≤ x) (hx : x ≤ 1125899906842624) (hm : m ≤ 9) : Calls Try.prog 38 #[.int .i64 x, .int .i64 (m : Int)] w fun e w' => e = .returned (.int .i64 (dgT x m)) ∧ w = w' := by
  have H0 := Lib.hid h0
  have H1 := Lib.hid hx
  have HM := Lib.hid hm
  clear h0 hx
  go_enter Try.func38, Try.ntmps38
  go_wp2_with fail
  go_loop [0, 5] (fun v i => ∃ k : Nat, k ≤ m ∧ v = .int .i64 (x / 64 ^ k) ∧ i = .int .i64 (k : Int)) (fun _ i => m - (intOf i).toNat)
  case atStart => exact ⟨0, Nat.zero_le _, by simp, rfl⟩
  case round =>
    obtain ⟨k, hk, rfl, rfl⟩ := hrel
    have hnn : Hid (0 ≤ x / 64 ^ k) := Lib.hid (Int.ediv_nonneg H0.out (Int.pow_nonneg (by decide)))
    have hle : Hid (x / 64 ^ k ≤ 1125899906842624) := Lib.hid (Int.le_trans (Int.ediv_le_self _ H0.out) H1.out)
    have HD := Lib.hid (div_step x k)
    have HV : Hid (x / 64 ^ k % 64 = dgT x k) := Lib.hid rfl
    obtain ⟨y, hy⟩ : ∃ y, x / 64 ^ k = y := ⟨_, rfl⟩
    rw [hy] at hnn hle HD HV ⊢
    have y0 := hnn.out
    have q1 : y.tdiv 64 = y / 64 := Int.tdiv_eq_ediv_of_nonneg y0
    have q2 : y.tmod 64 = y % 64 := Int.tmod_eq_emod_of_nonneg y0
    have q3 : wrap64 (y / 64) = y / 64 := by have := hle.out; unfold wrap64; omega
    by_cases hlt : k < m
    · have l1 : decide ((k : Int) < (m : Int)) = true := decide_eq_true (by omega)
      clear hy
      go_wp2
      go_round
      case rel => exact ⟨k + 1, by omega, by rw [← HD.out, q3], by go_num⟩
      case measure => simp [intOf] <;> omega
    · obtain rfl : k = m := by omega
      have l1 : decide ((k : Int) < (k : Int)) = false := decide_eq_false (by omega)
      clear hy
      go_wp2
      go_ret
      exact ⟨retI HV.out, rfl⟩

def placeF (now at_ : Int) : Nat → Int × Int
  | 0 => (0, dgT at_ 0)
  | k + 1 => if dgT at_ k = dgT now k then placeF now at_ k else ((k : Int), dgT at_ k)
theorem placeF_spot {now b : Int} : ∀ {k : Nat}, (∃ j, j < k ∧ dgT b j ≠ dgT now j) → placeF now b k = spotF now b k
  | 0, h => by obtain ⟨j, h, _⟩ := h; omega
  | k + 1, h => by
    unfold placeF spotF
    by_cases e : dgT b k = dgT now k
    · rw [if_pos e, if_pos e]
      obtain ⟨j, hj, hne⟩ := h
      exact placeF_spot ⟨j, by rcases Nat.lt_or_ge j k with h | h; exact h; exact absurd (by rw [show j = k by omega]; exact e) hne, hne⟩
    · rw [if_neg e, if_neg e]
theorem same_high {x y : Int} (h : ∀ j, j < 9 → dgT x j = dgT y j) (h9 : x / 64 ^ 9 = y / 64 ^ 9) : ∀ m, m ≤ 9 → x / 64 ^ (9 - m) = y / 64 ^ (9 - m)
  | 0, _ => h9
  | m + 1, hm => by
    have ih := same_high h h9 m (by omega)
    have hd := h (9 - (m + 1)) (by omega)
    have e : 9 - m = 9 - (m + 1) + 1 := by omega
    rw [e, ← div_step, ← div_step] at ih
    unfold dgT at hd
    omega
theorem apart_digit {x y : Int} (hx : 0 ≤ x ∧ x ≤ 1125899906842624) (hy : 0 ≤ y ∧ y ≤ 1125899906842624) (h : x ≠ y) : ∃ j, j < 9 ∧ dgT x j ≠ dgT y j := by
  apply Classical.byContradiction
  intro hn
  have hall : ∀ j, j < 9 → dgT x j = dgT y j := fun j hj => Classical.byContradiction (fun hne => hn ⟨j, hj, hne⟩)
  have e9 : ((64 : Int) ^ 9) = 18014398509481984 := by decide
  have q := same_high hall (by rw [e9]; omega) 9 (Nat.le_refl _)
  simp at q
  exact h q
theorem placeF_ok {now b : Int} (h0 : 0 ≤ now) (h1 : now < b) (h2 : b ≤ 1125899906842624) : placeF now b 9 = spotT now b := placeF_spot (by
  obtain ⟨j, h, hne⟩ := apart_digit (x := b) (y := now) (by omega) (by omega) (by omega)
  exact ⟨j, h, hne⟩)
set_option maxRecDepth 100000 in
set_option maxHeartbeats 4000000 in
theorem rplace_any (now b : Int) (w : World) (h0 : 0 ≤ now) (h1 : now ≤ 1125899906842624) (hb : 0 ≤ b) (hb1 : b ≤ 1125899906842624) : Calls Try.prog 21 #[.int .i64 now, .int .i64 b] w fun e w' => e = .returned (.tuple #[.int .i64 (placeF now b 9).1, .int .i64 (placeF now b 9).2]) ∧ w = w' := by
  have HN := Lib.hid (fun (m : Nat) (u : World) (h : m ≤ 9) => rdigit_any now m u h0 h1 h)
  have HB := Lib.hid (fun (m : Nat) (u : World) (h : m ≤ 9) => rdigit_any b m u hb hb1 h)
  clear h0 hb h1 hb1
  go_enter Try.func21, Try.ntmps21
  go_wp2_with fail
  go_loop [6] (fun i => ∃ k : Nat, k ≤ 9 ∧ i = .int .i64 ((k : Int) - 1) ∧ Hid (placeF now b 9 = placeF now b k)) (fun i => (intOf i + 1).toNat)
  case atStart => exact ⟨9, by omega, rfl, Lib.hid rfl⟩
  case round =>
    obtain ⟨k, hk, rfl, HC⟩ := hrel
    cases k with
    | zero =>
      have e0 : (((0 : Nat) : Int) - 1) = -1 := by decide
      rw [e0]
      have HZ := Lib.hid (HB.out 0 w (by omega))
      have HV : Hid (placeF now b 9 = (0, dgT b 0)) := Lib.hid HC.out
      clear HC
      go_wp2_with fail
      refine HZ.out.mono ?_
      rintro e w' ⟨rfl, rfl⟩
      go_wp2
      go_ret2
      exact ⟨by rw [HV.out]; rfl, rfl⟩
    | succ j =>
      have e0 : (((j + 1 : Nat) : Int) - 1) = (j : Int) := by omega
      rw [e0]
      have l1 : decide ((0 : Int) ≤ (j : Int)) = true := decide_eq_true (by omega)
      have HNj := Lib.hid (HN.out j w (by omega))
      have HBj := Lib.hid (HB.out j w (by omega))
      by_cases hd : dgT b j = dgT now j
      · have HE : Hid (placeF now b 9 = placeF now b j) := Lib.hid (by rw [HC.out]; exact if_pos hd)
        rw [hd] at HBj
        have q : (dgT now j != dgT now j) = false := by simp
        clear HC hd e0
        go_wp2_with fail
        refine HNj.out.mono ?_
        rintro e w' ⟨rfl, rfl⟩
        go_wp2_with fail
        refine HBj.out.mono ?_
        rintro e w' ⟨rfl, rfl⟩
        go_wp2
        go_round
        case rel => exact ⟨j, by omega, by go_num, HE⟩
        case measure => simp [intOf] <;> omega
      · have HV : Hid (placeF now b 9 = ((j : Int), dgT b j)) := Lib.hid (by rw [HC.out]; exact if_neg hd)
        have q : (dgT now j != dgT b j) = true := by simpa using fun h => hd h.symm
        clear HC hd e0
        go_wp2_with fail
        refine HNj.out.mono ?_
        rintro e w' ⟨rfl, rfl⟩
        go_wp2_with fail
        refine HBj.out.mono ?_
        rintro e w' ⟨rfl, rfl⟩
        go_wp2_with fail
        refine HBj.out.mono ?_
        rintro e w' ⟨rfl, rfl⟩
        go_wp2
        go_ret2
        exact ⟨by rw [HV.out]; rfl, rfl⟩

/-- the timers with one of that number at that time, the first of 32 numbers -/
def withT (ts : List Tm) (id tm : Int) (k : Nat) : Int := if (k : Int) = id then tm else atD (k : Int) ts
def withF (ts : List Tm) (id tm : Int) : Nat → List Tm
  | 0 => []
  | k + 1 => withF ts id tm k ++ if 0 < withT ts id tm k then [((k : Int), withT ts id tm k)] else []
set_option maxRecDepth 100000 in
set_option maxHeartbeats 8000000 in
theorem rwith_any (now : Int) (A : Option Addr) (n c : Nat) (ts : List Tm) (id tm : Int) (w : World) (hG : WR w A n ts) : Calls Try.prog 16 #[.agg #[.int .i64 now, .slice A n c], .int .i64 id, .int .i64 tm] w (WGot now (withF ts id tm 32) w) := by
  obtain ⟨i0, hi0, hz0, hz1, hz2⟩ := info_parts9 tm_info
  obtain ⟨K0, K1, K2, GB⟩ := blks3 w 24 24 24 #[.int .i64 now, .slice A n c] #[.int .i64 0, .slice none 0 0] #[.int .i64 now, .slice none 0 0]
  have hz : w.heap.size + 1 + 1 + 1 ≤ (((w.alloc (.cells #[.int .i64 now, .slice A n c] 24)).alloc (.cells #[.int .i64 0, .slice none 0 0] 24)).alloc (.cells #[.int .i64 now, .slice none 0 0] 24)).heap.size := by simp
  have HA := Lib.hid (fun (i : Int) (u : World) (h : Below w.heap.size w u) => rat_any now A n c ts i u (hG.below h))
  have z0 := K0.cell 0
  have z1 := K0.cell 1
  clear hG
  go_enter Try.func16, Try.ntmps16
  go_wp2_with fail
  clear z0 z1
  go_loopw [8] (fun i wr => ∃ (k : Nat) (A1 : Option Addr) (n1 c1 : Nat), k ≤ 32 ∧ n1 ≤ k ∧ i = .int .i64 (k : Int) ∧ Blk wr (w.heap.size) 24 #[.int .i64 now, .slice A n c] ∧ Blk wr (w.heap.size + 1) 24 #[.int .i64 0, .slice none 0 0] ∧ Blk wr (w.heap.size + 1 + 1) 24 #[.int .i64 now, .slice A1 n1 c1] ∧ Hid (wr.ownsRow (w.heap.size + 1 + 1 + 1) 44 2 (.slice A1 n1 c1) n1 (flat tv (withF ts id tm k))) ∧ w.heap.size + 1 + 1 + 1 ≤ wr.heap.size ∧ Below w.heap.size w wr) (fun i _ => 32 - (intOf i).toNat)
  case atStart => exact ⟨0, none, 0, 0, Nat.zero_le _, Nat.le_refl _, rfl, K0, K1, K2, Lib.hid (World.ownsRow_nil _ _ _ _), hz, GB⟩
  case round =>
    clear K0 K1 K2 GB hz
    obtain ⟨k, A1, n1, c1, hk, hn1, rfl, K0, K1, K2, HO, hz, GB⟩ := hrel
    by_cases hlt : k < 32
    · have l1 : decide ((k : Int) < 32) = true := decide_eq_true (by omega)
      have hA := Lib.hid (HA.out (k : Int) wr GB)
      have z0 := K0.cell 0
      have z1 := K0.cell 1
      have HW : Hid (withF ts id tm (k + 1) = withF ts id tm k ++ if 0 < withT ts id tm k then [((k : Int), withT ts id tm k)] else []) := Lib.hid rfl
      have HWT : Hid (withT ts id tm k = if (k : Int) = id then tm else atD (k : Int) ts) := Lib.hid rfl
      obtain ⟨tt, htt⟩ : ∃ tt, withT ts id tm k = tt := ⟨_, rfl⟩
      obtain ⟨v, hv⟩ : ∃ v, atD (k : Int) ts = v := ⟨_, rfl⟩
      rw [htt] at HW HWT
      rw [hv] at HWT hA
      clear htt hv
      by_cases he : (k : Int) = id
      · have e1 : ((k : Int) == id) = true := by simpa using he
        have hti := HWT.out
        rw [if_pos he] at hti
        rw [hti] at HW
        clear he hti HWT
        by_cases hp : 0 < tm
        · have e2 : decide ((0 : Int) < tm) = true := decide_eq_true hp
          have HS : Hid (withF ts id tm k ++ [((k : Int), tm)] = withF ts id tm (k + 1)) := Lib.hid (by rw [HW.out, if_pos hp])
          clear hp HW
          go_wp2_with fail
          refine hA.out.mono ?_
          rintro e w1 ⟨rfl, h9⟩
          replace K0 := K0.below h9 K0.lt
          replace K1 := K1.below h9 K1.lt
          replace K2 := K2.below h9 K2.lt
          have O1 := own_below HO.out h9
          replace hz := Nat.le_trans hz h9.size
          replace GB := GB.trans (h9.mono GB.size)
          clear h9 z0 z1 HO hA
          have y1 := K2.cell 1
          go_wp2_with (
            at_builtin
            refine wpList_append_any _ rfl (.tmp 27) (.tmp 31) 22 rfl (w.heap.size + 1 + 1 + 1) 44 i0 (.agg #[.int .i64 0, .int .i64 0]) 2 16 Try.underlying22 hi0 hz0 hz1 hz2 rfl (by decide) (.slice A1 n1 c1) n1 (flat tv (withF ts id tm k)) rfl (O1.alloc (.cells #[.int .i64 (k : Int), .int .i64 tm] 44)) _ (some ⟨w1.heap.size, 0, none⟩) 1 1 (flat tv [((k : Int), tm)]) rfl (reads_tm w1 (k : Int) tm) (tv_ones _) (by simp only [maxLen]; omega) (by omega) (Nat.le_trans hz (by simp)) ?_
            intro v9 w9 own9 grow9 hw9
            rw [← flat_append, HS.out] at own9
            have O1a := O1.alloc (.cells #[.int .i64 (k : Int), .int .i64 tm] 44)
            have K0b := (K0.alloc (.cells #[.int .i64 (k : Int), .int .i64 tm] 44)).own O1a grow9 (by omega)
            have K1b := (K1.alloc (.cells #[.int .i64 (k : Int), .int .i64 tm] 44)).own O1a grow9 (by omega)
            have K2b := (K2.alloc (.cells #[.int .i64 (k : Int), .int .i64 tm] 44)).own O1a grow9 (by omega)
            have GBb := (GB.alloc GB.size (.cells #[.int .i64 (k : Int), .int .i64 tm] 44)).grown grow9 (Nat.le_trans GB.size (by simp)) (fun g hg => by have := (O1a.lt g hg).1; omega)
            have hzb : w.heap.size + 1 + 1 + 1 ≤ w9.heap.size := Nat.le_trans hz (Nat.le_trans (by simp) grow9.size)
            obtain ⟨A9, c9, rfl, _, _⟩ := own_reads own9
            have HT := Lib.hid (And.intro own9 (And.intro K0b (And.intro K1b (And.intro K2b (And.intro GBb hzb)))))
            have x1 := K2b.cell 1
            have x2 := K2b.frozen 1
            clear own9 grow9 hw9 K0b K1b K2b GBb hzb O1a K0 K1 K2 GB O1 hz y1)
          have HP := Lib.hid (set1 (y := .slice A9 (n1 + 1) c9) HT.out.2.2.2.1 HT.out.2.2.2.2.1 (by omega))
          have K0c := HT.out.2.1.far (p := ⟨w.heap.size + 1 + 1, 1, none⟩) (by dsimp only; omega) (.slice A9 (n1 + 1) c9)
          have K1c := HT.out.2.2.1.far (p := ⟨w.heap.size + 1 + 1, 1, none⟩) (by dsimp only; omega) (.slice A9 (n1 + 1) c9)
          have HO9 := Lib.hid (own_set HT.out.1 (g := w.heap.size + 1 + 1) (by omega) 1 (.slice A9 (n1 + 1) c9))
          have hz9 : w.heap.size + 1 + 1 + 1 ≤ (w9.setCell ⟨w.heap.size + 1 + 1, 1, none⟩ (.slice A9 (n1 + 1) c9)).heap.size := by have := HT.out.2.2.2.2.2; simpa [World.setCell] using this
          have hn2 : n1 + 1 ≤ k + 1 := by omega
          clear x1 x2 HT
          go_roundw
          case rel => exact ⟨k + 1, A9, n1 + 1, c9, by omega, hn2, by go_num, K0c, K1c, HP.out.1, HO9, hz9, HP.out.2⟩
          case measure => simp [intOf] <;> omega
        · have e2 : decide ((0 : Int) < tm) = false := decide_eq_false hp
          have HS : Hid (withF ts id tm k = withF ts id tm (k + 1)) := Lib.hid (by rw [HW.out, if_neg hp, List.append_nil])
          rw [HS.out] at HO
          clear hp HW
          go_wp2_with fail
          refine hA.out.mono ?_
          rintro e w1 ⟨rfl, h9⟩
          replace K0 := K0.below h9 K0.lt
          replace K1 := K1.below h9 K1.lt
          replace K2 := K2.below h9 K2.lt
          have O1 := own_below HO.out h9
          replace hz := Nat.le_trans hz h9.size
          replace GB := GB.trans (h9.mono GB.size)
          clear h9 z0 z1 HO hA
          have HO9 := Lib.hid O1
          have hn2 : n1 ≤ k + 1 := by omega
          clear O1
          go_wp2_with fail
          go_roundw
          case rel => exact ⟨k + 1, A1, n1, c1, by omega, hn2, by go_num, K0, K1, K2, HO9, hz, GB⟩
          case measure => simp [intOf] <;> omega
      · have e1 : ((k : Int) == id) = false := by simpa using he
        have hti := HWT.out
        rw [if_neg he] at hti
        rw [hti] at HW
        clear he hti HWT
        by_cases hp : 0 < v
        · have e2 : decide ((0 : Int) < v) = true := decide_eq_true hp
          have HS : Hid (withF ts id tm k ++ [((k : Int), v)] = withF ts id tm (k + 1)) := Lib.hid (by rw [HW.out, if_pos hp])
          clear hp HW
          go_wp2_with fail
          refine hA.out.mono ?_
          rintro e w1 ⟨rfl, h9⟩
          replace K0 := K0.below h9 K0.lt
          replace K1 := K1.below h9 K1.lt
          replace K2 := K2.below h9 K2.lt
          have O1 := own_below HO.out h9
          replace hz := Nat.le_trans hz h9.size
          replace GB := GB.trans (h9.mono GB.size)
          clear h9 z0 z1 HO hA
          have y1 := K2.cell 1
          go_wp2_with (
            at_builtin
            refine wpList_append_any _ rfl (.tmp 27) (.tmp 31) 22 rfl (w.heap.size + 1 + 1 + 1) 44 i0 (.agg #[.int .i64 0, .int .i64 0]) 2 16 Try.underlying22 hi0 hz0 hz1 hz2 rfl (by decide) (.slice A1 n1 c1) n1 (flat tv (withF ts id tm k)) rfl (O1.alloc (.cells #[.int .i64 (k : Int), .int .i64 v] 44)) _ (some ⟨w1.heap.size, 0, none⟩) 1 1 (flat tv [((k : Int), v)]) rfl (reads_tm w1 (k : Int) v) (tv_ones _) (by simp only [maxLen]; omega) (by omega) (Nat.le_trans hz (by simp)) ?_
            intro v9 w9 own9 grow9 hw9
            rw [← flat_append, HS.out] at own9
            have O1a := O1.alloc (.cells #[.int .i64 (k : Int), .int .i64 v] 44)
            have K0b := (K0.alloc (.cells #[.int .i64 (k : Int), .int .i64 v] 44)).own O1a grow9 (by omega)
            have K1b := (K1.alloc (.cells #[.int .i64 (k : Int), .int .i64 v] 44)).own O1a grow9 (by omega)
            have K2b := (K2.alloc (.cells #[.int .i64 (k : Int), .int .i64 v] 44)).own O1a grow9 (by omega)
            have GBb := (GB.alloc GB.size (.cells #[.int .i64 (k : Int), .int .i64 v] 44)).grown grow9 (Nat.le_trans GB.size (by simp)) (fun g hg => by have := (O1a.lt g hg).1; omega)
            have hzb : w.heap.size + 1 + 1 + 1 ≤ w9.heap.size := Nat.le_trans hz (Nat.le_trans (by simp) grow9.size)
            obtain ⟨A9, c9, rfl, _, _⟩ := own_reads own9
            have HT := Lib.hid (And.intro own9 (And.intro K0b (And.intro K1b (And.intro K2b (And.intro GBb hzb)))))
            have x1 := K2b.cell 1
            have x2 := K2b.frozen 1
            clear own9 grow9 hw9 K0b K1b K2b GBb hzb O1a K0 K1 K2 GB O1 hz y1)
          have HP := Lib.hid (set1 (y := .slice A9 (n1 + 1) c9) HT.out.2.2.2.1 HT.out.2.2.2.2.1 (by omega))
          have K0c := HT.out.2.1.far (p := ⟨w.heap.size + 1 + 1, 1, none⟩) (by dsimp only; omega) (.slice A9 (n1 + 1) c9)
          have K1c := HT.out.2.2.1.far (p := ⟨w.heap.size + 1 + 1, 1, none⟩) (by dsimp only; omega) (.slice A9 (n1 + 1) c9)
          have HO9 := Lib.hid (own_set HT.out.1 (g := w.heap.size + 1 + 1) (by omega) 1 (.slice A9 (n1 + 1) c9))
          have hz9 : w.heap.size + 1 + 1 + 1 ≤ (w9.setCell ⟨w.heap.size + 1 + 1, 1, none⟩ (.slice A9 (n1 + 1) c9)).heap.size := by have := HT.out.2.2.2.2.2; simpa [World.setCell] using this
          have hn2 : n1 + 1 ≤ k + 1 := by omega
          clear x1 x2 HT
          go_roundw
          case rel => exact ⟨k + 1, A9, n1 + 1, c9, by omega, hn2, by go_num, K0c, K1c, HP.out.1, HO9, hz9, HP.out.2⟩
          case measure => simp [intOf] <;> omega
        · have e2 : decide ((0 : Int) < v) = false := decide_eq_false hp
          have HS : Hid (withF ts id tm k = withF ts id tm (k + 1)) := Lib.hid (by rw [HW.out, if_neg hp, List.append_nil])
          rw [HS.out] at HO
          clear hp HW
          go_wp2_with fail
          refine hA.out.mono ?_
          rintro e w1 ⟨rfl, h9⟩
          replace K0 := K0.below h9 K0.lt
          replace K1 := K1.below h9 K1.lt
          replace K2 := K2.below h9 K2.lt
          have O1 := own_below HO.out h9
          replace hz := Nat.le_trans hz h9.size
          replace GB := GB.trans (h9.mono GB.size)
          clear h9 z0 z1 HO hA
          have HO9 := Lib.hid O1
          have hn2 : n1 ≤ k + 1 := by omega
          clear O1
          go_wp2_with fail
          go_roundw
          case rel => exact ⟨k + 1, A1, n1, c1, by omega, hn2, by go_num, K0, K1, K2, HO9, hz, GB⟩
          case measure => simp [intOf] <;> omega
    · obtain rfl : k = 32 := by omega
      have l1 : decide (((32 : Nat) : Int) < 32) = false := by decide
      have z0 := K2.cell 0
      have z1 := K2.cell 1
      have d0 := K1.cell 0
      have d1 := K1.cell 1
      have f0 := K1.frozen 0
      have f1 := K1.frozen 1
      have HP := Lib.hid (put2 (x := .int .i64 now) (y := .slice A1 n1 c1) K1 GB (by omega))
      have HO2 := Lib.hid (own_set (own_set HO.out (g := w.heap.size + 1) (by omega) 0 (.int .i64 now)) (g := w.heap.size + 1) (by omega) 1 (.slice A1 n1 c1))
      clear K0 K1 K2 GB
      go_wp2_with fail
      exact bodyPost_ret (v := .agg #[.int .i64 now, .slice A1 n1 c1]) (results_cell_row Try.results16 _ _ _ _ _ _ rfl HP.out.1 Try.underlying24 rfl (by kernel_rfl)) rfl ⟨_, _, _, rfl, own_len9 HO2.out, own_down HO2.out (by omega), HP.out.2⟩

end Go.Proofs.Ytbhcpkmofnfjgaa
