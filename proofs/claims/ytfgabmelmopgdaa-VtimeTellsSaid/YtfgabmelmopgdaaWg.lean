/-
  The contracts of the landed wide's quotient and rounding. No statement is proved here.
-/
import Derived.Test.YtfgabmelmopgdaaWf
import Derived.Test.YtfgabmelmopgdaaWe
import Derived.Deep.CutBlock
namespace Go.Proofs.Ytfgabmelmopgdaa
open Go.RowKit

/-- n as two words, or refused -/
def Num (n h l : Nat) (c : Int) : Prop := (c = 0 ∧ n = h * 18446744073709551616 + l ∧ h < 18446744073709551616 ∧ l < 18446744073709551616) ∨ (c = 131 ∧ h = 0 ∧ l = 0 ∧ 340282366920938463463374607431768211456 ≤ n)
set_option maxRecDepth 100000 in
theorem Num.some (n : Nat) : ∃ h l c, Num n h l c := by
  by_cases hn : n < 340282366920938463463374607431768211456
  · exact ⟨n / 18446744073709551616, n % 18446744073709551616, 0, .inl ⟨rfl, by omega, by omega, by omega⟩⟩
  · exact ⟨0, 0, 131, .inr ⟨rfl, rfl, rfl, by omega⟩⟩
set_option maxRecDepth 100000 in
theorem Num.lo {n h l : Nat} {c : Int} (hn : Num n h l c) : l < 18446744073709551616 := by rcases hn with ⟨_, _, _, h4⟩ | ⟨_, _, h3, _⟩ <;> omega
set_option maxRecDepth 100000 in
theorem Num.hi {n h l : Nat} {c : Int} (hn : Num n h l c) : h < 18446744073709551616 := by rcases hn with ⟨_, _, h3, _⟩ | ⟨_, h2, _, _⟩ <;> omega
set_option maxRecDepth 100000 in
theorem add_num (ah al bh bl rh rl : Nat) (c : Int) (hal : al < 18446744073709551616) (hbl : bl < 18446744073709551616) (hah : ah < 18446744073709551616) (hbh : bh < 18446744073709551616)
    (h : Num (ah * 18446744073709551616 + al + (bh * 18446744073709551616 + bl)) rh rl c) (w : World) :
    Calls Try.prog 62 #[.agg #[.int .u64 (ah : Int), .int .u64 (al : Int)], .agg #[.int .u64 (bh : Int), .int .u64 (bl : Int)]] w (Ans (.tuple #[.agg #[.int .u64 (rh : Int), .int .u64 (rl : Int)], .int .i64 c]) w) := by
  rcases h with ⟨rfl, h1, h2, h3⟩ | ⟨rfl, rfl, rfl, h1⟩
  · exact add_fits ah al bh bl rh rl hal hbl h3 h2 h1 w
  · exact add_over ah al bh bl hal hbl hah hbh h1 w

set_option maxRecDepth 100000 in
/-- the library's division, hi zero or not -/
theorem div64_any (hi lo y q r : Nat) (hlo : lo < 18446744073709551616) (hy : y < 18446744073709551616) (hhi : hi < y)
    (hq : (hi * 18446744073709551616 + lo) / y = q) (hr : (hi * 18446744073709551616 + lo) % y = r) (w : World) :
    Calls Try.prog 96 #[.int .u64 (hi : Int), .int .u64 (lo : Int), .int .u64 (y : Int)] w (Ans (.tuple #[.int .u64 (q : Int), .int .u64 (r : Int)]) w) := by
  rcases Nat.eq_zero_or_pos hi with rfl | h0
  · rw [Nat.zero_mul, Nat.zero_add] at hq hr
    exact div64_zero lo y q r hlo hhi hy hq hr w
  · exact div64_big hi lo y q r hlo (by omega) hy h0 hhi hq hr w

set_option maxRecDepth 100000 in
/-- divided word by word -/
theorem div_words {hi lo d : Nat} (hd : 0 < d) : (hi * 18446744073709551616 + lo) / d = hi / d * 18446744073709551616 + (hi % d * 18446744073709551616 + lo) / d ∧ (hi * 18446744073709551616 + lo) % d = (hi % d * 18446744073709551616 + lo) % d := by
  have e : hi * 18446744073709551616 + lo = d * (hi / d * 18446744073709551616) + (hi % d * 18446744073709551616 + lo) := by
    have h := Nat.div_add_mod hi d
    generalize hi / d = a at *
    generalize hi % d = b at *
    have h2 : d * (a * 18446744073709551616) = d * a * 18446744073709551616 := (Nat.mul_assoc _ _ _).symm
    rw [h2]
    omega
  rw [e]
  exact ⟨Nat.mul_add_div hd _ _, Nat.mul_add_mod _ _ _⟩
set_option maxRecDepth 100000 in
theorem word_lt {x lo d : Nat} (hx : x < d) (hlo : lo < 18446744073709551616) : (x * 18446744073709551616 + lo) / d < 18446744073709551616 := by
  rw [Nat.div_lt_iff_lt_mul (by omega)]
  have h5 : (x + 1) * 18446744073709551616 ≤ d * 18446744073709551616 := Nat.mul_le_mul_right _ hx
  rw [Nat.add_mul, Nat.mul_comm d] at h5
  omega



set_option maxRecDepth 100000 in
theorem round_none (qh ql : Nat) (w : World) :
    Calls Try.prog 97 #[.agg #[.int .u64 (qh : Int), .int .u64 (ql : Int)], .int .u64 0] w (Ans (.tuple #[.agg #[.int .u64 (qh : Int), .int .u64 (ql : Int)], .int .i64 0]) w) := by
  go_enter Try.func97, Try.ntmps97
  go_wp2
  exact bodyPost_ret (v := .tuple #[.agg #[.int .u64 (qh : Int), .int .u64 (ql : Int)], .int .i64 0]) (by simp [results, Try.results97, go_sem]) rfl ⟨rfl, (blks2 w _ _ _ _).2.2⟩

set_option maxRecDepth 100000 in
set_option maxHeartbeats 1000000 in
theorem round_some (qh ql r zh zl : Nat) (c : Int) (hqh : qh < 18446744073709551616) (hql : ql < 18446744073709551616) (hr : 0 < r) (hN : Num (qh * 18446744073709551616 + ql + 1) zh zl c) (w : World) :
    Calls Try.prog 97 #[.agg #[.int .u64 (qh : Int), .int .u64 (ql : Int)], .int .u64 (r : Int)] w (Ans (.tuple #[.agg #[.int .u64 (zh : Int), .int .u64 (zl : Int)], .int .i64 c]) w) := by
  have HO : Hid (∀ u, Calls Try.prog 63 #[.int .u64 1] u (Ans (.agg #[.int .u64 0, .int .u64 1]) u)) := Lib.hid (fun u => of_wide 1 u)
  have HA : Hid (∀ u, Calls Try.prog 62 #[.agg #[.int .u64 (qh : Int), .int .u64 (ql : Int)], .agg #[.int .u64 0, .int .u64 1]] u (Ans (.tuple #[.agg #[.int .u64 (zh : Int), .int .u64 (zl : Int)], .int .i64 c]) u)) :=
    Lib.hid (fun u => add_num qh ql 0 1 zh zl c hql (by omega) hqh (by omega) (by rw [Nat.zero_mul, Nat.zero_add]; exact hN) u)
  have e0 : ((r : Int) == 0) = false := by simp; omega
  obtain ⟨b1, b2, bb⟩ := blks2 w 34 34 #[.int .u64 (qh : Int), .int .u64 (ql : Int)] #[.int .u64 0, .int .u64 0]
  clear hqh hql hr hN
  go_enter Try.func97, Try.ntmps97
  go_upto_region 3 with fail
  have FA : Blk (World.drew ((w.alloc (.cells #[.int .u64 (qh : Int), .int .u64 (ql : Int)] 34)).alloc (.cells #[.int .u64 0, .int .u64 0] 34))) _ _ _ := b1
  have FO : Blk (World.drew ((w.alloc (.cells #[.int .u64 (qh : Int), .int .u64 (ql : Int)] 34)).alloc (.cells #[.int .u64 0, .int .u64 0] 34))) _ _ _ := b2
  have GB : Below w.heap.size w (World.drew ((w.alloc (.cells #[.int .u64 (qh : Int), .int .u64 (ql : Int)] 34)).alloc (.cells #[.int .u64 0, .int .u64 0] 34))) := bb.trans ⟨rfl, rfl, rfl, Nat.le_refl _, fun _ _ => rfl⟩
  clear b1 b2 bb
  refine wp_region_held_drew (S := fun W => Blk W w.heap.size 34 #[.int .u64 (qh : Int), .int .u64 (ql : Int)]) (by kernel_rfl) FA (fun hS => ?_)
  generalize World.drew ((w.alloc (.cells #[.int .u64 (qh : Int), .int .u64 (ql : Int)] 34)).alloc (.cells #[.int .u64 0, .int .u64 0] 34)) = V at FA FO GB hS ⊢
  refine wpAnyH_take (i := 0) (v := .agg (#[.int .u64 (qh : Int), .int .u64 (ql : Int)])) rfl (by kernel_rfl) (by kernel_rfl) (by kernel_rfl) (fun _ _ _ h => h) (yields_row (by rfl) 34 (.tmp 2) rfl (w.heap.size) rfl _ _ _ (fun _ h => h) Try.underlying34 rfl (by kernel_rfl)) hS ?_
  refine wpAnyH_ready (rs := [1]) (by kernel_rfl) (by simp) ?_
  refine AllReadyH.cons rfl (fun K hK => ?_) (AllReadyH.nil)
  go_simp
  refine (HO.out _).mono ?_
  rintro e w1 ⟨rfl, h1⟩
  replace FA := FA.below h1 FA.lt
  replace FO := FO.below h1 FO.lt
  replace GB := GB.trans (h1.mono GB.size)
  clear h1
  refine hK.out _ _ FA (fun hS => ?_)
  clear hK K
  refine wpAnyH_ready (rs := [2]) (by kernel_rfl) (by simp) ?_
  refine AllReadyH.cons rfl (fun K hK => ?_) (AllReadyH.nil)
  go_simp
  refine (HA.out _).mono ?_
  rintro e w2 ⟨rfl, h2⟩
  replace FA := FA.below h2 FA.lt
  replace FO := FO.below h2 FO.lt
  replace GB := GB.trans (h2.mono GB.size)
  clear h2
  refine hK.out _ _ FA (fun hS => ?_)
  clear hK K
  refine wpAnyH_take (i := 3) (v := .agg #[.int .u64 (zh : Int), .int .u64 (zl : Int)]) rfl (by kernel_rfl) (by kernel_rfl) (by kernel_rfl) (fun _ _ _ h => h) (Or.inl ⟨by rfl, fun w hSw => by rfl⟩) hS ?_
  refine wpAnyH_take (i := 4) (v := .int .i64 c) rfl (by kernel_rfl) (by kernel_rfl) (by kernel_rfl) (fun _ _ _ h => h) (Or.inl ⟨by rfl, fun w hSw => by rfl⟩) hS ?_
  refine wpAnyH_ready (rs := [5]) (by kernel_rfl) (by simp) ?_
  refine AllReadyH.cons rfl (fun K hK => ?_) (AllReadyH.nil)
  have O3 := FO
  replace FA := FA.other (g' := w.heap.size + 1) (cs' := #[.int .u64 (zh : Int), .int .u64 (zl : Int)]) (by omega)
  replace FO := FO.row (cs' := #[.int .u64 (zh : Int), .int .u64 (zl : Int)])
  replace GB := below_row (g' := w.heap.size + 1) (cs' := #[.int .u64 (zh : Int), .int .u64 (zl : Int)]) GB (by omega)
  refine keep_row rfl 34 (.tmp 4) (.tmp 12) rfl _ _ rfl rfl _ _ O3 (by kernel_rfl) rfl (by simp [Value.oneCell']) (hK.out _ _ FA (fun hS => ?_))
  clear hK K O3
  generalize w2.setRow (w.heap.size + 1) (#[.int .u64 (zh : Int), .int .u64 (zl : Int)]) = U3 at FA FO GB hS ⊢
  refine wpAnyH_ready (rs := [6]) (by kernel_rfl) (by simp) ?_
  refine AllReadyH.cons rfl (fun K hK => ?_) (AllReadyH.nil)
  go_simp
  refine hK.out _ _ FA (fun hS => ?_)
  clear hK K
  refine wpAnyH_done (by kernel_rfl) ?_ _
  go_wp2_with fail
  exact bodyPost_ret (v := .tuple #[.agg #[.int .u64 (zh : Int), .int .u64 (zl : Int)], .int .i64 c]) (results_row2 Try.results97 _ _ _ _ _ _ rfl FO Try.underlying34 rfl (by kernel_rfl)) rfl ⟨rfl, GB⟩

end Go.Proofs.Ytfgabmelmopgdaa
