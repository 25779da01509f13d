/-
  The landed frac: what is worth more, more, lifted. No statement is proved here.
-/
import Derived.Test.YtfgabmelmopgdaaLa
import Derived.Test.YtfgabmelmopgdaaWh
import Derived.Test.YtfgabmelmopgdaaWc
namespace Go.Proofs.Ytfgabmelmopgdaa
open Go.RowKit

set_option maxRecDepth 100000 in
theorem cmpZ_cmpW {ah al bh bl : Nat} (hal : al < 18446744073709551616) (hbl : bl < 18446744073709551616) :
    cmpZ (qf ah al) (qf bh bl) = cmpW (ah * 18446744073709551616 + al) (bh * 18446744073709551616 + bl) := by
  unfold cmpZ cmpW
  simp only [qf]
  split
  · rw [if_pos (by omega)]
  · split
    · rw [if_neg (by omega), if_pos (by omega)]
    · split
      · rw [if_pos (by omega)]
      · split
        · rw [if_neg (by omega), if_pos (by omega)]
        · split
          · rw [if_pos (by omega)]
          · split
            · rw [if_neg (by omega), if_pos (by omega)]
            · split
              · rw [if_pos (by omega)]
              · split
                · rw [if_neg (by omega), if_pos (by omega)]
                · rw [if_neg (by omega), if_neg (by omega)]
set_option maxRecDepth 100000 in
/-- a number in two words -/
theorem words (N : Nat) (h : N < 2 ^ 128) : ∃ a b, N = a * 18446744073709551616 + b ∧ a < 18446744073709551616 ∧ b < 18446744073709551616 := ⟨N / 18446744073709551616, N % 18446744073709551616, by omega, by omega, by omega⟩
set_option maxRecDepth 100000 in
theorem scale_one (a m : Nat) : scaleN a m 1 true = a * m := by rw [scaleN_even true (Nat.mod_one _), Nat.div_one]
set_option maxRecDepth 100000 in
theorem scale_over (a m d : Nat) : scaleN a m d true = overW a m d := by
  unfold overW
  by_cases h : a * m % d = 0
  · rw [scaleN_even true h, if_pos h, Nat.add_zero]
  · rw [scaleN_up h, if_neg h]
set_option maxRecDepth 100000 in
theorem prod_small {a m : Nat} (ha : a < 2 ^ 104) (hm : m ≤ 65535) : a * m < 2 ^ 120 := Nat.lt_of_le_of_lt (Nat.mul_le_mul (Nat.le_of_lt ha) hm) (by decide)
set_option maxRecDepth 100000 in
theorem num_of {n h l : Nat} (e : n = h * 18446744073709551616 + l) (h1 : h < 18446744073709551616) (h2 : l < 18446744073709551616) : Num n h l 0 := .inl ⟨rfl, e, h1, h2⟩

set_option maxRecDepth 100000 in
set_option maxHeartbeats 4000000 in
theorem vcompare_any (ah al ax bh bl bx : Nat) (w : World) (hah : ah < 2 ^ 64) (hal : al < 2 ^ 64) (hax : ax ≤ 65535) (hbh : bh < 2 ^ 64) (hbl : bl < 2 ^ 64) (hbx : bx ≤ 65535)
    (hA : ah * 2 ^ 64 + al < 2 ^ 104) (hB : bh * 2 ^ 64 + bl < 2 ^ 104) :
    Calls Try.prog 50 #[.agg (fr ah al ax), .agg (fr bh bl bx)] w (Said (.int .i64 (cmpW ((ah * 2 ^ 64 + al) * bx) ((bh * 2 ^ 64 + bl) * ax))) w) := by
  obtain ⟨ph, pl, e1, e2, e3⟩ := words ((ah * 2 ^ 64 + al) * bx) (by have := prod_small hA hbx; omega)
  obtain ⟨qh, ql, f1, f2, f3⟩ := words ((bh * 2 ^ 64 + bl) * ax) (by have := prod_small hB hax; omega)
  have HS : Hid (∀ u, Calls Try.prog 81 #[.agg #[.int .u64 (ah : Int), .int .u64 (al : Int)], .int .u64 (bx : Int), .int .u64 1] u (Ans (.tuple #[.agg #[.int .u64 (ph : Int), .int .u64 (pl : Int)], .int .i64 0]) u)) :=
    Lib.hid (fun u => scale_any ah al bx 1 ph pl 0 hah hal (by omega) (by omega) (by omega) (num_of ((scale_one _ _).trans e1) e2 e3) u)
  have HT : Hid (∀ u, Calls Try.prog 81 #[.agg #[.int .u64 (bh : Int), .int .u64 (bl : Int)], .int .u64 (ax : Int), .int .u64 1] u (Ans (.tuple #[.agg #[.int .u64 (qh : Int), .int .u64 (ql : Int)], .int .i64 0]) u)) :=
    Lib.hid (fun u => scale_any bh bl ax 1 qh ql 0 hbh hbl (by omega) (by omega) (by omega) (num_of ((scale_one _ _).trans f1) f2 f3) u)
  have HC := Lib.hid (fun u => compare_any ph pl qh ql _ (cmpZ_cmpW e3 f3) e2 e3 f2 f3 u)
  rw [← e1, ← f1] at HC
  obtain ⟨r, hr⟩ : ∃ r, cmpW ((ah * 2 ^ 64 + al) * bx) ((bh * 2 ^ 64 + bl) * ax) = r := ⟨_, rfl⟩
  rw [hr] at HC ⊢
  obtain ⟨b1, b2, bb⟩ := blks2 w 88 88 (fr ah al ax) (fr bh bl bx)
  have HB := Lib.hid (And.intro b1 (And.intro b2 bb))
  clear e1 e2 e3 f1 f2 f3 hah hal hax hbh hbl hbx hA hB hr b1 b2 bb
  unfold fr at *
  go_enter Try.func50, Try.ntmps50
  go_wp2_with fail
  refine (HS.out _).mono ?_
  rintro e w1 ⟨rfl, h1⟩
  have K1 := HB.out.1.below h1 HB.out.1.lt
  have K2 := HB.out.2.1.below h1 HB.out.2.1.lt
  have GB := HB.out.2.2.trans (h1.mono HB.out.2.2.size)
  clear h1 HB
  have S1 := Blk.new w1 34 #[.int .u64 (ph : Int), .int .u64 (pl : Int)]
  replace K1 := K1.alloc (.cells #[.int .u64 (ph : Int), .int .u64 (pl : Int)] 34)
  replace K2 := K2.alloc (.cells #[.int .u64 (ph : Int), .int .u64 (pl : Int)] 34)
  replace GB := GB.alloc GB.size (.cells #[.int .u64 (ph : Int), .int .u64 (pl : Int)] 34)
  have c0 := K1.cell 0
  have c1 := K1.cell 1
  have c2 := K1.cell 2
  have d0 := K2.cell 0
  have d1 := K2.cell 1
  have d2 := K2.cell 2
  go_wp2_with fail
  refine (HT.out _).mono ?_
  rintro e w2 ⟨rfl, h2⟩
  replace S1 := S1.below h2 S1.lt
  replace GB := GB.trans (h2.mono GB.size)
  have sl := S1.lt
  clear h2 c0 c1 c2 d0 d1 d2 K1 K2
  have S2 := Blk.new w2 34 #[.int .u64 (qh : Int), .int .u64 (ql : Int)]
  replace S1 := S1.alloc (.cells #[.int .u64 (qh : Int), .int .u64 (ql : Int)] 34)
  replace GB := GB.alloc GB.size (.cells #[.int .u64 (qh : Int), .int .u64 (ql : Int)] 34)
  have c0 := S1.cell 0
  have c1 := S1.cell 1
  have d0 := S2.cell 0
  have d1 := S2.cell 1
  go_wp2_with fail
  refine (HC.out _).mono ?_
  rintro e w3 ⟨rfl, h3⟩
  replace GB := GB.trans (h3.mono GB.size)
  clear S1 S2 c0 c1 d0 d1 sl h3
  go_wp2
  go_ret
  exact ⟨rfl, GB⟩

set_option maxRecDepth 100000 in
theorem cmpW_pos (x y : Nat) : decide (0 < cmpW x y) = decide (y < x) := by
  rcases Nat.lt_trichotomy x y with h | h | h
  · rw [cmpW_lt h]; simp; omega
  · rw [cmpW_eq h]; simp; omega
  · rw [cmpW_gt h]; simp; omega
set_option maxRecDepth 100000 in
theorem cmpW_minus (x y : Nat) : decide (cmpW x y < 0) = decide (x < y) := by
  rcases Nat.lt_trichotomy x y with h | h | h
  · rw [cmpW_lt h]; simp; omega
  · rw [cmpW_eq h]; simp; omega
  · rw [cmpW_gt h]; simp; omega

set_option maxRecDepth 100000 in
set_option maxHeartbeats 4000000 in
theorem vabove_any (ah al ax bh bl bx : Nat) (w : World) (hah : ah < 2 ^ 64) (hal : al < 2 ^ 64) (hax : ax ≤ 65535) (hbh : bh < 2 ^ 64) (hbl : bl < 2 ^ 64) (hbx : bx ≤ 65535)
    (hA : ah * 2 ^ 64 + al < 2 ^ 104) (hB : bh * 2 ^ 64 + bl < 2 ^ 104) :
    Calls Try.prog 56 #[.agg (fr ah al ax), .agg (fr bh bl bx)] w (Said (.bool (decide ((bh * 2 ^ 64 + bl) * ax < (ah * 2 ^ 64 + al) * bx))) w) := by
  have HC := Lib.hid (fun u => vcompare_any ah al ax bh bl bx u hah hal hax hbh hbl hbx hA hB)
  have hp := cmpW_pos ((ah * 2 ^ 64 + al) * bx) ((bh * 2 ^ 64 + bl) * ax)
  rw [← hp]
  generalize cmpW ((ah * 2 ^ 64 + al) * bx) ((bh * 2 ^ 64 + bl) * ax) = r at *
  obtain ⟨b1, b2, bb⟩ := blks2 w 88 88 (fr ah al ax) (fr bh bl bx)
  clear hah hal hax hbh hbl hbx hA hB hp
  unfold fr at *
  have c0 := b1.cell 0
  have c1 := b1.cell 1
  have c2 := b1.cell 2
  have d0 := b2.cell 0
  have d1 := b2.cell 1
  have d2 := b2.cell 2
  have HB := Lib.hid bb
  clear b1 b2 bb
  go_enter Try.func56, Try.ntmps56
  go_wp2_with fail
  refine (HC.out _).mono ?_
  rintro e w3 ⟨rfl, h3⟩
  have GB := HB.out.trans (h3.mono HB.out.size)
  clear c0 c1 c2 d0 d1 d2 h3
  go_wp2
  go_ret
  exact ⟨rfl, GB⟩


set_option maxRecDepth 100000 in
set_option maxHeartbeats 4000000 in
theorem lifted_any (h l x m zh zl : Nat) (w : World) (hh : h < 2 ^ 64) (hl : l < 2 ^ 64) (hx0 : 0 < x) (hx : x ≤ 65535) (hm : m ≤ 65535)
    (e1 : overW (h * 2 ^ 64 + l) m x = zh * 18446744073709551616 + zl) (e2 : zh < 18446744073709551616) (e3 : zl < 18446744073709551616) :
    Calls Try.prog 100 #[.agg (fr h l x), .int .u64 (m : Int)] w (Said (.agg #[.int .u64 (zh : Int), .int .u64 (zl : Int)]) w) := by
  have HS : Hid (∀ u, Calls Try.prog 81 #[.agg #[.int .u64 (h : Int), .int .u64 (l : Int)], .int .u64 (m : Int), .int .u64 (x : Int)] u (Ans (.tuple #[.agg #[.int .u64 (zh : Int), .int .u64 (zl : Int)], .int .i64 0]) u)) :=
    Lib.hid (fun u => scale_any h l m x zh zl 0 hh hl (by omega) hx0 (by omega) (num_of ((scale_over _ _ _).trans e1) e2 e3) u)
  obtain ⟨b1, b2, bb⟩ := blks2 w 88 34 (fr h l x) #[.int .u64 0, .int .u64 0]
  have HB := Lib.hid (And.intro b2 bb)
  clear hh hl hx0 hx hm e1 e2 e3
  unfold fr at *
  have c0 := b1.cell 0
  have c1 := b1.cell 1
  have c2 := b1.cell 2
  clear b1 b2 bb
  go_enter Try.func100, Try.ntmps100
  go_wp2_with fail
  refine (HS.out _).mono ?_
  rintro e w1 ⟨rfl, h1⟩
  have K := HB.out.1.below h1 HB.out.1.lt
  have GB := HB.out.2.trans (h1.mono HB.out.2.size)
  clear HB h1 c0 c1 c2
  have kl := K.lt
  have d0 := K.cell 0
  have d1 := K.cell 1
  have f0 := K.frozen 0
  have f1 := K.frozen 1
  have HK := Lib.hid (And.intro ((K.set2 (x := .int .u64 (zh : Int)) (y := .int .u64 (zl : Int))).alloc (.cells #[.int .u64 (zh : Int), .int .u64 (zl : Int)] 34)) (((GB.setCell (p := ⟨w.heap.size + 1, 0, none⟩) (by simp) (.int .u64 (zh : Int))).setCell (p := ⟨w.heap.size + 1, 1, none⟩) (by simp) (.int .u64 (zl : Int))).alloc (by simpa [World.setCell] using GB.size) (.cells #[.int .u64 (zh : Int), .int .u64 (zl : Int)] 34)))
  clear K GB
  go_wp2_with fail
  exact bodyPost_ret (v := .agg #[.int .u64 (zh : Int), .int .u64 (zl : Int)]) (results_cell_row Try.results100 _ _ _ _ _ _ _ rfl HK.out.1 Try.underlying34 rfl (by kernel_rfl)) rfl ⟨rfl, HK.out.2⟩

end Go.Proofs.Ytfgabmelmopgdaa
