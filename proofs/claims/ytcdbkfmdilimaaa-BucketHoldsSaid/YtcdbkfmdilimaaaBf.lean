/-
  The statements' wakes; BucketPasses' walk. No statement is proved here.
-/
import Derived.Test.YtcdbkfmdilimaaaBe
namespace Go.Proofs.Ytcdbkfmdilimaaa
open Go.RowKit

theorem wk1 : newV 50 = ((50, 5000000000), 0) := by decide +kernel
theorem wk2 : passV 50 5000000000 10000000 1 = ((50, 4500000000), 0) := by decide +kernel
theorem wk3 : dryB 1 0 = true := by decide +kernel
set_option maxRecDepth 100000 in
set_option maxHeartbeats 4000000 in
theorem wakes_any (w : World) : Calls Try.prog 9 #[] w (Said (.bool true) w) := by
  have HN := Lib.hid (fun u => new_any 50 u)
  have HP := Lib.hid (fun u => pass_any 50 5000000000 10000000 1 u)
  have HD := Lib.hid (fun u => dry_any 1 0 u)
  unfold bkE at HN HP
  rw [wk1] at HN
  rw [wk2] at HP
  rw [wk3] at HD
  have GB := Below.refl w.heap.size w
  go_enter Try.func9, Try.ntmps9
  go_wp2_with fail
  refine (HN.out _).mono ?_
  rintro e w1 ⟨rfl, h9⟩
  replace GB := GB.trans (h9.mono GB.size)
  clear h9
  have K1 := Blk.new w1 23 #[.int .i64 50, .int .i64 5000000000]
  replace GB := GB.alloc GB.size (.cells #[.int .i64 50, .int .i64 5000000000] 23)
  have z0 := K1.cell 0
  have z1 := K1.cell 1
  go_wp2_with fail
  refine (HP.out _).mono ?_
  rintro e w2 ⟨rfl, h9⟩
  clear z0 z1
  replace K1 := K1.below h9 K1.lt
  replace GB := GB.trans (h9.mono GB.size)
  clear h9
  have hlt := K1.lt
  have K3 := Blk.new w2 23 #[.int .i64 50, .int .i64 4500000000]
  replace K1 := K1.alloc (.cells #[.int .i64 50, .int .i64 4500000000] 23)
  replace GB := GB.alloc GB.size (.cells #[.int .i64 50, .int .i64 4500000000] 23)
  have z1 := K1.cell 1
  have z3 := K3.cell 1
  go_wp2_with fail
  refine (HD.out _).mono ?_
  rintro e w3 ⟨rfl, h9⟩
  have HE := Lib.hid (GB.trans (h9.mono GB.size))
  clear h9 z1 z3 K1 K3 GB hlt
  go_wp2
  go_ret
  exact ⟨rfl, HE.out⟩

set_option maxRecDepth 100000 in
set_option maxHeartbeats 8000000 in
theorem passes_walk (c t d n : Int) (w : World) : Calls Try.prog 3 #[.agg #[.int .i64 c, .int .i64 t], .int .i64 d, .int .i64 n] w (Said (.bool true) w) := by
  obtain ⟨K0, GB⟩ := box1 w 23 #[.int .i64 c, .int .i64 t]
  have HK := Lib.hid (fun u => wakes_any u)
  have HP := Lib.hid (fun u => pass_any c t d n u)
  have HR := Lib.hid (fun u => rpass_any c t d n u)
  unfold bkE at HP HR
  obtain ⟨⟨⟨a, b⟩, E⟩, hV⟩ : ∃ x, passV c t d n = x := ⟨_, rfl⟩
  rw [hV] at HP HR
  have e1 : (a == a) = true := by simp
  have e2 : (b == b) = true := by simp
  have e3 : (E == E) = true := by simp
  clear hV
  go_enter Try.func3, Try.ntmps3
  go_wp2_with fail
  refine (HK.out _).mono ?_
  rintro e w1 ⟨rfl, h9⟩
  replace K0 := K0.below h9 K0.lt
  replace GB := GB.trans (h9.mono GB.size)
  clear h9
  have z0 := K0.cell 0
  have z1 := K0.cell 1
  go_wp2_with fail
  refine (HP.out _).mono ?_
  rintro e w2 ⟨rfl, h9⟩
  clear z0 z1
  replace K0 := K0.below h9 K0.lt
  replace GB := GB.trans (h9.mono GB.size)
  clear h9
  have K7 := Blk.new w2 23 #[.int .i64 a, .int .i64 b]
  replace K0 := K0.alloc (.cells #[.int .i64 a, .int .i64 b] 23)
  replace GB := GB.alloc GB.size (.cells #[.int .i64 a, .int .i64 b] 23)
  have z0 := K0.cell 0
  have z1 := K0.cell 1
  go_wp2_with fail
  refine (HR.out _).mono ?_
  rintro e w3 ⟨rfl, h9⟩
  clear z0 z1
  replace K0 := K0.below h9 K0.lt
  replace K7 := K7.below h9 K7.lt
  replace GB := GB.trans (h9.mono GB.size)
  clear h9
  have K9 := Blk.new w3 23 #[.int .i64 a, .int .i64 b]
  replace K0 := K0.alloc (.cells #[.int .i64 a, .int .i64 b] 23)
  replace K7 := K7.alloc (.cells #[.int .i64 a, .int .i64 b] 23)
  replace GB := GB.alloc GB.size (.cells #[.int .i64 a, .int .i64 b] 23)
  have z0 := K7.cell 0
  have z1 := K7.cell 1
  have z2 := K9.cell 0
  have z3 := K9.cell 1
  have HE := Lib.hid GB
  clear GB K0 K7 K9
  go_wp2
  go_ret
  exact ⟨rfl, HE.out⟩

end Go.Proofs.Ytcdbkfmdilimaaa
