/-
  The contracts of the landed wide's quarters: one digit more, the number. No statement is proved here.
-/
import Derived.Test.YteglkhljenjplaaTa
namespace Go.Proofs.Yteglkhljenjplaa
open Go.RowKit

/-- what is carried into quarter k - 1 from those behind it, of ten times the number and d: k counts from 4 down -/
def carry (f : Nat → Nat) (d : Nat) : Nat → Nat
  | 0 => d
  | n + 1 => (carry f d n + 10 * f (3 - n)) / 4294967296
/-- the new quarter k -/
def hk (f : Nat → Nat) (d : Nat) (k : Nat) : Nat := (carry f d (3 - k) + 10 * f k) % 4294967296
theorem carry_le {f : Nat → Nat} {d : Nat} (hf : ∀ k, k < 4 → f k < 4294967296) (hd : d < 10) (n : Nat) : carry f d n < 10 := by
  induction n with
  | zero => exact hd
  | succ n ih =>
    have := hf (3 - n) (by omega)
    unfold carry
    omega
theorem carry_step (f : Nat → Nat) (d k : Nat) (hk4 : k < 4) : carry f d (3 - k) + 10 * f k = carry f d (4 - k) * 4294967296 + hk f d k := by
  have e : carry f d (4 - k) = (carry f d (3 - k) + 10 * f k) / 4294967296 := by
    rw [show 4 - k = (3 - k) + 1 by omega]
    show (carry f d (3 - k) + 10 * f (3 - (3 - k))) / 4294967296 = _
    rw [show 3 - (3 - k) = k by omega]
  rw [e]
  unfold hk
  have := Nat.div_add_mod (carry f d (3 - k) + 10 * f k) 4294967296
  omega
theorem hk_lt (f : Nat → Nat) (d k : Nat) : hk f d k < 4294967296 := Nat.mod_lt _ (by omega)
theorem longer_val (f : Nat → Nat) (d : Nat) : 10 * valQ f + d = carry f d 4 * 340282366920938463463374607431768211456 + valQ (hk f d) := by
  have h0 := carry_step f d 0 (by omega)
  have h1 := carry_step f d 1 (by omega)
  have h2 := carry_step f d 2 (by omega)
  have h3 := carry_step f d 3 (by omega)
  have c0 : carry f d 0 = d := rfl
  rw [valQ_def, valQ_def]
  simp only [Nat.reduceSub] at h0 h1 h2 h3
  rw [c0] at h3
  generalize hk f d 0 = a0 at *
  generalize hk f d 1 = a1 at *
  generalize hk f d 2 = a2 at *
  generalize hk f d 3 = a3 at *
  generalize carry f d 1 = b1 at *
  generalize carry f d 2 = b2 at *
  generalize carry f d 3 = b3 at *
  generalize carry f d 4 = b4 at *
  generalize f 0 = e0 at *
  generalize f 1 = e1 at *
  generalize f 2 = e2 at *
  generalize f 3 = e3 at *
  clear c0
  omega
theorem longer_fits {f : Nat → Nat} {d : Nat} (h : 10 * valQ f + d < 340282366920938463463374607431768211456) : carry f d 4 = 0 ∧ valQ (hk f d) = 10 * valQ f + d := by
  have := longer_val f d
  generalize carry f d 4 = c at *
  omega
def tail_ (f : Nat → Nat) (d k j : Nat) : Nat := if j < k then f j else hk f d j
theorem tail_all (f : Nat → Nat) (d : Nat) : qs (tail_ f d 4) = qs f := qs_congr fun j hj => by unfold tail_; rw [if_pos hj]
theorem tail_none (f : Nat → Nat) (d : Nat) : qs (tail_ f d 0) = qs (hk f d) := qs_congr fun j _ => by unfold tail_; rw [if_neg (by omega)]
theorem tail_step (f : Nat → Nat) (d m : Nat) : qs (fun j => if j = m then hk f d m else tail_ f d (m + 1) j) = qs (tail_ f d m) := qs_congr fun j _ => by
  unfold tail_
  by_cases h : j = m
  · subst h
    rw [if_pos rfl, if_neg (by omega)]
  · rw [if_neg h]
    by_cases h2 : j < m
    · rw [if_pos h2, if_pos (by omega)]
    · rw [if_neg h2, if_neg (by omega)]

set_option maxHeartbeats 2000000 in
theorem longer_any (f : Nat → Nat) (d : Nat) (hf : ∀ k, k < 4 → f k < 4294967296) (hd : d < 10) (hv : 10 * valQ f + d < 340282366920938463463374607431768211456) (w : World) :
    Calls Try.prog 37 #[.agg (qs f), .int .i32 ((48 + d : Nat) : Int)] w (Ans (.tuple #[.agg (qs (hk f d)), .bool true]) w) := by
  have HF := Lib.hid (And.intro hf hd)
  have HC := Lib.hid (longer_fits hv).1
  obtain ⟨x48, hx48⟩ : ∃ x, 48 + d = x := ⟨_, rfl⟩
  rw [hx48]
  have e1 : IntKind.i32.wrap ((x48 : Int) - 48) = (d : Int) := by simp [IntKind.wrap, IntKind.bits, IntKind.signed]; omega
  have e2 : IntKind.u64.wrap (d : Int) = (d : Int) := by rw [IntKind.wrap_u64]; omega
  obtain ⟨b1, b2, bb⟩ := blks2 w 62 62 (qs f) #[.int .u32 0, .int .u32 0, .int .u32 0, .int .u32 0]
  have HB := Lib.hid (And.intro b1 (And.intro b2 bb))
  clear b1 b2 bb hf hv hx48 hd
  go_enter Try.func37, Try.ntmps37
  go_upto_region 2 with fail
  obtain ⟨F1, F2, GB⟩ := HB.out
  clear HB
  generalize (w.alloc (.cells (qs f) 62)).alloc (.cells #[.int .u32 0, .int .u32 0, .int .u32 0, .int .u32 0] 62) = V at F1 F2 GB ⊢
  go_wp2_with fail
  clear e1 e2
  go_loopw [6, 7] (fun a b wr => ∃ (k : Nat) (i0 : Int), k ≤ 4 ∧ a = .int .u64 (carry f d (4 - k) : Int) ∧ b = .int .i64 i0 ∧ i0 = (k : Int) - 1 ∧ Blk wr w.heap.size 62 (qs (tail_ f d k)) ∧ Blk wr (w.heap.size + 1) 62 #[.int .u32 0, .int .u32 0, .int .u32 0, .int .u32 0] ∧ Below w.heap.size w wr) (fun _ b _ => (intOf b + 1).toNat)
  case atStart => exact ⟨4, 3, by omega, rfl, rfl, by omega, by rw [tail_all]; exact F1, F2, GB⟩
  case round =>
    clear F1 F2 GB
    obtain ⟨k, i0, hk4, rfl, rfl, hi0, F1, F2, GB⟩ := hrel
    rcases k with _ | m
    · obtain rfl : i0 = -1 := by omega
      clear hi0
      rw [tail_none] at F1
      have hc := HC.out
      rw [show carry f d (4 - 0) = 0 from hc]
      have HK := Lib.hid (And.intro (F2.row (cs' := qs (hk f d))) (below_row (g' := w.heap.size + 1) (cs' := qs (hk f d)) GB (by omega)))
      clear GB hc HC hk4
      go_wp2_with (first
        | (refine BigFrame.wpList_want rfl (fun K hK => wp_load_row 62 (.tmp 2) rfl _ rfl _ _ (0, 0) _ F1 Try.underlying62 rfl (info_qs (hk f d)) (hK _ _ ?_)))
        | (refine wpList_store_row rfl 62 (.tmp 4) (.tmp 31) rfl _ _ rfl rfl _ _ F2 (info_qs (hk f d)) rfl (one_qs (hk f d)) ?_))
      exact bodyPost_ret (v := .tuple #[.agg (qs (hk f d)), .bool true]) (results_row2 Try.results37 _ _ _ _ _ _ rfl HK.out.1 Try.underlying62 rfl (info_qs (hk f d))) rfl ⟨rfl, HK.out.2⟩
    · obtain rfl : i0 = (m : Int) := by omega
      have hm : m < 4 := by omega
      have hst := carry_step f d m hm
      have hcl := carry_le HF.out.1 HF.out.2 (3 - m)
      have hfm := HF.out.1 m hm
      have hh := hk_lt f d m
      rw [show 4 - (m + 1) = 3 - m by omega]
      obtain ⟨c, hc⟩ : ∃ c, carry f d (3 - m) = c := ⟨_, rfl⟩
      obtain ⟨c', hc'⟩ : ∃ c, carry f d (4 - m) = c := ⟨_, rfl⟩
      obtain ⟨x, hx⟩ : ∃ x, f m = x := ⟨_, rfl⟩
      obtain ⟨q, hq⟩ : ∃ q, hk f d m = q := ⟨_, rfl⟩
      rw [hc, hc', hx, hq] at hst
      rw [hc] at hcl ⊢
      rw [hx] at hfm
      rw [hq] at hh
      have c1 := (F1.cell m).trans (qs_at (tail_ f d (m + 1)) hm)
      rw [show tail_ f d (m + 1) m = x by unfold tail_; rw [if_pos (by omega)]; exact hx] at c1
      have f1 := F1.frozen m
      have hki : (m : Int) < 4 := by omega
      obtain ⟨y, hy⟩ : ∃ y, c + 10 * x = y := ⟨_, rfl⟩
      rw [hy] at hst
      have e1 : IntKind.u64.wrap (10 * (x : Int)) = 10 * (x : Int) := by rw [IntKind.wrap_u64]; omega
      have e2 : IntKind.u64.wrap ((c : Int) + 10 * (x : Int)) = (y : Int) := by rw [IntKind.wrap_u64]; omega
      have e3 : (y : Int) % 4294967296 = (q : Int) := by omega
      have e3' : IntKind.u32.wrap (y : Int) = (q : Int) := by rw [wrap32]; exact e3
      have e4 : (y : Int) / 4294967296 = (c' : Int) := by omega
      have F1' := F1.set_ m (.int .u32 (q : Int))
      rw [qs_set _ hm, ← hq, tail_step] at F1'
      rw [hq] at F1'
      have F2' := F2.far (p := ⟨w.heap.size, m, none⟩) (by show w.heap.size + 1 ≠ w.heap.size; omega) (.int .u32 (q : Int))
      have GB' := GB.setCell (p := ⟨w.heap.size, m, none⟩) (Nat.le_refl _) (.int .u32 (q : Int))
      have HR := Lib.hid (And.intro hc' (And.intro F1' (And.intro F2' GB')))
      clear hi0 hst hc hc' hx hq hy hh F1 F2 GB F1' F2' GB' hk4
      go_wp2
      go_roundw
      case rel => exact ⟨m, _, by omega, by rw [HR.out.1], rfl, by omega, HR.out.2.1, HR.out.2.2.1, HR.out.2.2.2⟩
      case measure => simp [intOf]

theorem wide_of (f : Nat → Nat) (hf : ∀ k, k < 4 → f k < 4294967296) (w : World) :
    Calls Try.prog 38 #[.agg (qs f)] w (Ans (.agg #[.int .u64 ((f 0 * 4294967296 + f 1 : Nat) : Int), .int .u64 ((f 2 * 4294967296 + f 3 : Nat) : Int)]) w) := by
  have h0 := hf 0 (by omega)
  have h1 := hf 1 (by omega)
  have h2 := hf 2 (by omega)
  have h3 := hf 3 (by omega)
  unfold qs
  generalize f 0 = a at *
  generalize f 1 = b at *
  generalize f 2 = c at *
  generalize f 3 = d at *
  obtain ⟨x, hx⟩ : ∃ x, a * 4294967296 + b = x := ⟨_, rfl⟩
  obtain ⟨y, hy⟩ : ∃ x, c * 4294967296 + d = x := ⟨_, rfl⟩
  rw [hx, hy]
  have e1 : IntKind.u64.wrap ((a : Int) * 4294967296) = (a : Int) * 4294967296 := by rw [IntKind.wrap_u64]; omega
  have e2 : IntKind.u64.wrap ((c : Int) * 4294967296) = (c : Int) * 4294967296 := by rw [IntKind.wrap_u64]; omega
  have e3 : bits .or .u64 ((a : Int) * 4294967296) (b : Int) = (x : Int) := by
    rw [show (a : Int) * 4294967296 = ((a * 4294967296 : Nat) : Int) by omega, bits_or_u64_nat (a * 4294967296) b (by omega) (by omega), shifted_or (hi := a) (s := 32) h1, hx]
  have e4 : bits .or .u64 ((c : Int) * 4294967296) (d : Int) = (y : Int) := by
    rw [show (c : Int) * 4294967296 = ((c * 4294967296 : Nat) : Int) by omega, bits_or_u64_nat (c * 4294967296) d (by omega) (by omega), shifted_or (hi := c) (s := 32) h3, hy]
  clear hf hx hy
  go_enter Try.func38, Try.ntmps38
  go_wp2
  exact bodyPost_ret (v := .agg #[.int .u64 (x : Int), .int .u64 (y : Int)]) (by simp [results, Try.results38, go_sem]) rfl ⟨rfl, (blks2 w _ _ _ _).2.2⟩

end Go.Proofs.Yteglkhljenjplaa
