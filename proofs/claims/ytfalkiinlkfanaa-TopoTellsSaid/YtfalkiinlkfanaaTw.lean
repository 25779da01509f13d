/-
  The laws' own first question: does the layer do anything? No statement is proved here.
-/
import Derived.Test.YtfalkiinlkfanaaTp
namespace Go.Proofs.Ytfalkiinlkfanaa
open Go.RowKit

theorem reg_value : regR 2 1 2 = ([(0, 0), (0, 0), (1, 0), (1, 0)], 0) := by decide
theorem dist_value : distR [(0, 0), (0, 0), (1, 0), (1, 0)] 0 2 = (3, 0) := by decide
theorem near_value : nearR [(0, 0), (0, 0), (1, 0), (1, 0)] 2 15 = ([2, 3, 0, 1], 0) := by decide
theorem sock_value : sockV [(0, 0), (0, 0), (1, 0), (1, 0)] 1 = 12 := by decide

set_option maxRecDepth 100000 in
set_option maxHeartbeats 2000000 in
theorem wakes_any (HRe : TRegularOk) (HDi : TDistOk) (HNe : TNearOk) (HSo : TSocketOk) (w : World) : Calls Try.prog 10 #[] w (Said (.bool true) w) := by
  have hre := fun u => HRe 2 1 2 u
  rw [reg_value] at hre
  have HR := Lib.hid hre
  clear hre
  go_enter Try.func10, Try.ntmps10
  go_wp2_with fail
  refine (HR.out _).mono ?_
  rintro e w1 ⟨A, n, c, rfl, hn, hAt, h1⟩
  obtain rfl : n = 4 := hn
  have K := Blk.new w1 27 #[.slice A 4 c]
  have B := h1.alloc h1.size (.cells #[.slice A 4 c] 27)
  have hAt1 := hAt.below ((Below.refl _ _).alloc (Nat.le_refl _) (.cells #[.slice A 4 c] 27))
  have z1 : (w1.alloc (.cells #[.slice A 4 c] 27)).cell? ⟨w1.heap.size, 0, none⟩ = some (.slice A 4 c) := K.cell 0
  have hd := HDi A 4 c _ 0 2 _ hAt1
  rw [dist_value] at hd
  have HD := Lib.hid hd
  clear hd hAt h1
  go_wp2_with fail
  refine HD.out.mono ?_
  rintro e w2 ⟨rfl, h2⟩
  replace K := K.below h2 K.lt
  replace B := B.trans (h2.mono B.size)
  have hAt2 := hAt1.below h2
  clear z1 h2 hAt1 HD
  have z2 := K.cell 0
  have hne := HNe A 4 c _ 2 15 _ hAt2 (by omega) (by omega)
  rw [near_value] at hne
  have HN := Lib.hid hne
  clear hne
  go_wp2_with fail
  refine HN.out.mono ?_
  rintro e w3 ⟨A3, n3, c3, rfl, hn3, hc3, hr3, h3⟩
  obtain rfl : n3 = 4 := hn3
  replace K := K.below h3 K.lt
  replace B := B.trans (h3.mono B.size)
  have hAt3 := hAt2.below h3
  obtain ⟨ad, rfl, hb, hc⟩ := hr3.2 (by omega)
  have d1 : w3.cell? (ad.add 1) = some (.int .i64 3) := hc 1 _ rfl
  have d2 := d1
  rw [add_past ad 0 0] at d2
  have d2 : w3.cell? ⟨ad.block, ad.off + 1, none⟩ = some (.int .i64 3) := d2
  clear z2 h3 hAt2 HN hr3 hc
  have z3 := K.cell 0
  have hso := HSo A 4 c _ 1 _ hAt3
  rw [sock_value] at hso
  have HS : Hid (Calls Try.prog 18 #[.agg #[.slice A 4 c], .int .i64 1] w3 (Said (.int .u32 12) w3)) := Lib.hid hso
  clear hso
  go_wp2_with fail
  refine HS.out.mono ?_
  rintro e w4 ⟨rfl, h4⟩
  clear d1 d2 z3
  go_wp2
  go_ret
  exact ⟨rfl, B.trans (h4.mono B.size)⟩

end Go.Proofs.Ytfalkiinlkfanaa
