/-
  The contracts of the landed wide's quarters: a tenth, one digit more, the number. No statement is proved here.
-/
import Derived.Test.YteglkhljenjplaaLo
import Derived.Test.YteglkhljenjplaaWe
import Derived.Test.YteglkhljenjplaaWd
namespace Go.Proofs.Yteglkhljenjplaa
open Go.RowKit

/-- the number whose quarters they are -/
def valQ (f : Nat → Nat) : Nat := ((f 0 * 4294967296 + f 1) * 4294967296 + f 2) * 4294967296 + f 3
theorem valQ_def (f : Nat → Nat) : valQ f = ((f 0 * 4294967296 + f 1) * 4294967296 + f 2) * 4294967296 + f 3 := by unfold valQ; exact rfl
/-- division by ten, quarter by quarter: what is left ahead of quarter k -/
def lk (f : Nat → Nat) : Nat → Nat
  | 0 => 0
  | k + 1 => (lk f k * 4294967296 + f k) % 10
def gk (f : Nat → Nat) (k : Nat) : Nat := (lk f k * 4294967296 + f k) / 10
theorem lk_lt (f : Nat → Nat) (k : Nat) : lk f k < 10 := by
  cases k with
  | zero => unfold lk; omega
  | succ k => unfold lk; exact Nat.mod_lt _ (by omega)
theorem lk_succ (f : Nat → Nat) (k : Nat) : lk f (k + 1) = (lk f k * 4294967296 + f k) % 10 := rfl
theorem gk_lt {f : Nat → Nat} {k : Nat} (h : f k < 4294967296) : gk f k < 4294967296 := by
  have := lk_lt f k
  unfold gk
  omega
theorem gk_step (f : Nat → Nat) (k : Nat) : lk f k * 4294967296 + f k = 10 * gk f k + lk f (k + 1) := by
  rw [lk_succ]
  unfold gk
  exact (Nat.div_add_mod _ _).symm
theorem tenth_val (f : Nat → Nat) : valQ f / 10 = valQ (gk f) ∧ valQ f % 10 = lk f 4 := by
  have h0 := gk_step f 0
  have h1 := gk_step f 1
  have h2 := gk_step f 2
  have h3 := gk_step f 3
  have l0 : lk f 0 = 0 := rfl
  have l4 := lk_lt f 4
  rw [valQ_def, valQ_def]
  generalize gk f 0 = a0 at *
  generalize gk f 1 = a1 at *
  generalize gk f 2 = a2 at *
  generalize gk f 3 = a3 at *
  rw [l0] at h0
  simp only [Nat.zero_add, Nat.reduceAdd] at h0 h1 h2 h3
  generalize lk f 1 = b1 at *
  generalize lk f 2 = b2 at *
  generalize lk f 3 = b3 at *
  generalize lk f 4 = b4 at *
  generalize f 0 = c0 at *
  generalize f 1 = c1 at *
  generalize f 2 = c2 at *
  generalize f 3 = c3 at *
  clear l0
  omega

theorem qs_congr {f g : Nat → Nat} (h : ∀ k, k < 4 → f k = g k) : qs f = qs g := by
  unfold qs
  rw [h 0 (by omega), h 1 (by omega), h 2 (by omega), h 3 (by omega)]
theorem qs_set (f : Nat → Nat) {k : Nat} (hk : k < 4) (x : Nat) : (qs f).setIfInBounds k (.int .u32 (x : Int)) = qs (fun j => if j = k then x else f j) := by
  have : k = 0 ∨ k = 1 ∨ k = 2 ∨ k = 3 := by omega
  rcases this with rfl | rfl | rfl | rfl <;> rfl
def mix (f : Nat → Nat) (k j : Nat) : Nat := if j < k then gk f j else f j
theorem mix_succ (f : Nat → Nat) (k : Nat) : qs (fun j => if j = k then gk f k else mix f k j) = qs (mix f (k + 1)) := qs_congr fun j _ => by
  unfold mix
  by_cases h : j = k
  · subst h
    rw [if_pos rfl, if_pos (by omega)]
  · rw [if_neg h]
    by_cases h2 : j < k
    · rw [if_pos h2, if_pos (by omega)]
    · rw [if_neg h2, if_neg (by omega)]
theorem mix_zero (f : Nat → Nat) : qs (mix f 0) = qs f := qs_congr fun j _ => by unfold mix; rw [if_neg (by omega)]
theorem mix_all (f : Nat → Nat) : qs (mix f 4) = qs (gk f) := qs_congr fun j hj => by unfold mix; rw [if_pos hj]

theorem run_index_qs (f : Nat → Nat) {k : Nat} (hk : k < 4) (w : World) : (Instr.index 62 (.agg (qs f)) (.int .i64 (k : Int))).run Try.prog w = .ok (.int .u32 (f k : Int)) w := by
  have hp := qs_at f hk
  simp [Instr.index, run_underlying Try.underlying62, asIntOf, go_sem, hk, hp]

set_option maxHeartbeats 2000000 in
theorem tenth_any (f : Nat → Nat) (hf : ∀ k, k < 4 → f k < 4294967296) (w : World) :
    Calls Try.prog 40 #[.agg (qs f)] w (Ans (.tuple #[.agg (qs (gk f)), .int .i32 ((48 + lk f 4 : Nat) : Int)]) w) := by
  have HF := Lib.hid hf
  clear hf
  obtain ⟨b1, b2, bb⟩ := blks2 w 62 62 (qs f) #[.int .u32 0, .int .u32 0, .int .u32 0, .int .u32 0]
  have HB := Lib.hid (And.intro b1 (And.intro b2 bb))
  clear b1 b2 bb
  go_enter Try.func40, Try.ntmps40
  go_upto_region 2 with fail
  obtain ⟨F1, F2, GB⟩ := HB.out
  clear HB
  generalize (w.alloc (.cells (qs f) 62)).alloc (.cells #[.int .u32 0, .int .u32 0, .int .u32 0, .int .u32 0] 62) = V at F1 F2 GB ⊢
  go_wp2_with (refine BigFrame.wpList_want rfl (fun K hK => wp_load_row 62 (.tmp 1) rfl _ rfl _ _ (0, 0) _ F1 Try.underlying62 rfl (info_qs f) (hK _ _ ?_)))
  go_loopw [4, 8] (fun a b wr => ∃ k : Nat, k ≤ 4 ∧ a = .int .u64 (lk f k : Int) ∧ b = .int .i64 k ∧ Blk wr w.heap.size 62 (qs (mix f k)) ∧ Blk wr (w.heap.size + 1) 62 #[.int .u32 0, .int .u32 0, .int .u32 0, .int .u32 0] ∧ Below w.heap.size w wr) (fun _ b _ => 4 - (intOf b).toNat)
  case atStart => exact ⟨0, by omega, rfl, rfl, by rw [mix_zero]; exact F1, F2, GB⟩
  case round =>
    clear F1 F2 GB
    obtain ⟨k, hk, rfl, rfl, F1, F2, GB⟩ := hrel
    by_cases hlt : k < 4
    · have hfk := HF.out k hlt
      have hlk := lk_lt f k
      obtain ⟨l, hl⟩ : ∃ l, lk f k = l := ⟨_, rfl⟩
      obtain ⟨x, hx⟩ : ∃ x, f k = x := ⟨_, rfl⟩
      obtain ⟨y, hy⟩ : ∃ y, l * 4294967296 + x = y := ⟨_, rfl⟩
      obtain ⟨q, hq⟩ : ∃ q, y / 10 = q := ⟨_, rfl⟩
      obtain ⟨r, hr⟩ : ∃ r, y % 10 = r := ⟨_, rfl⟩
      have hg : gk f k = q := by unfold gk; rw [hl, hx, hy, hq]
      have hl1 : lk f (k + 1) = r := by rw [lk_succ, hl, hx, hy, hr]
      rw [hl] at hlk ⊢
      rw [hx] at hfk
      have hat := fun u => run_index_qs f hlt u
      rw [hx] at hat
      have c1 := (F1.cell k).trans (qs_at (mix f k) hlt)
      have f1 := F1.frozen k
      have hki : (k : Int) < 4 := by omega
      have e1 : IntKind.u64.wrap ((l : Int) * 4294967296) = ((l * 4294967296 : Nat) : Int) := by rw [IntKind.wrap_u64]; omega
      have e2 : bits .or .u64 ((l : Int) * 4294967296) (x : Int) = (y : Int) := by
        rw [show (l : Int) * 4294967296 = ((l * 4294967296 : Nat) : Int) by omega, bits_or_u64_nat (l * 4294967296) x (by omega) (by omega), shifted_or (hi := l) (s := 32) hfk, hy]
      have e3 : IntKind.u64.wrap ((y : Int) / 10) = (q : Int) := by rw [IntKind.wrap_u64]; omega
      have e5 : (q : Int) % 4294967296 = (q : Int) := by omega
      have e4 : (y : Int) % 10 = (r : Int) := by omega
      have F1' := F1.set_ k (.int .u32 (q : Int))
      rw [qs_set _ hlt, ← hg, mix_succ] at F1'
      rw [hg] at F1'
      have F2' := F2.far (p := ⟨w.heap.size, k, none⟩) (by show w.heap.size + 1 ≠ w.heap.size; omega) (.int .u32 (q : Int))
      have GB' := GB.setCell (p := ⟨w.heap.size, k, none⟩) (Nat.le_refl _) (.int .u32 (q : Int))
      have HR := Lib.hid (And.intro (And.intro hl1 e4) (And.intro F1' (And.intro F2' GB')))
      clear e4 hl hx hy hq hr hg hl1 F1 F2 GB F1' F2' GB'
      go_wp2
      go_roundw
      case rel => exact ⟨k + 1, by omega, by rw [HR.out.1.1, HR.out.1.2], by go_num, HR.out.2.1, HR.out.2.2.1, HR.out.2.2.2⟩
      case measure => simp [intOf]; omega
    · obtain rfl : k = 4 := by omega
      rw [mix_all] at F1
      have hlk := lk_lt f 4
      obtain ⟨l, hl⟩ : ∃ l, lk f 4 = l := ⟨_, rfl⟩
      rw [hl] at hlk ⊢
      have e1 : IntKind.i32.wrap (l : Int) = (l : Int) := by simp [IntKind.wrap, IntKind.bits, IntKind.signed]; omega
      have e2 : IntKind.i32.wrap (48 + (l : Int)) = ((48 + l : Nat) : Int) := by simp [IntKind.wrap, IntKind.bits, IntKind.signed]; omega
      have HK := Lib.hid (And.intro (F2.row (cs' := qs (gk f))) (below_row (g' := w.heap.size + 1) (cs' := qs (gk f)) GB (by omega)))
      have HL := Lib.hid hl
      clear GB hl
      go_wp2_with (first
        | (refine BigFrame.wpList_want rfl (fun K hK => wp_load_row 62 (.tmp 1) rfl _ rfl _ _ (0, 0) _ F1 Try.underlying62 rfl (info_qs (gk f)) (hK _ _ ?_)))
        | (refine wpList_store_row rfl 62 (.tmp 2) (.tmp 25) rfl _ _ rfl rfl _ _ F2 (info_qs (gk f)) rfl (one_qs (gk f)) ?_))
      exact bodyPost_ret (v := .tuple #[.agg (qs (gk f)), .int .i32 ((48 + l : Nat) : Int)]) (results_row2 Try.results40 _ _ _ _ _ _ rfl HK.out.1 Try.underlying62 rfl (info_qs (gk f))) rfl ⟨by rw [HL.out], HK.out.2⟩

end Go.Proofs.Yteglkhljenjplaa
