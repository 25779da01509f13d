/-
  The laws' own first question: does the layer do anything? No statement is proved here.
-/
import Derived.Test.YtodhkdaipmeblaaFs
namespace Go.Proofs.Ytodhkdaipmeblaa
open Go.RowKit

set_option maxRecDepth 100000 in
set_option maxHeartbeats 2000000 in
theorem wakes_any (HOf : OfOk) (HOv : OverOk) (HCo : CompareOk) (w : World) : Calls Try.prog 9 #[] w (Said (.bool true) w) := by
  have HA : Hid (∀ u, Calls Try.prog 12 #[.int .u64 1, .int .u64 3] u (Said (.tuple #[.agg #[.int .u64 0, .int .u64 1, .int .u64 3], .int .i64 0]) u)) := Lib.hid fun u => HOf 1 3 u (by omega) (by omega)
  have HB : Hid (∀ u, Calls Try.prog 22 #[.agg #[.int .u64 0, .int .u64 1, .int .u64 3], .int .u64 2] u (Said (.tuple #[.agg #[.int .u64 0, .int .u64 1, .int .u64 2], .int .i64 0]) u)) := Lib.hid fun u => HOv 1 3 2 u (by omega) (by omega) (by omega)
  have HC : Hid (∀ u, Calls Try.prog 15 #[.agg #[.int .u64 0, .int .u64 1, .int .u64 3], .agg #[.int .u64 0, .int .u64 1, .int .u64 2]] u (Said (.int .i64 (-1)) u)) := Lib.hid fun u => HCo 1 3 1 2 u (by omega) (by omega) (by omega) (by omega)
  clear HOf HOv HCo
  go_enter Try.func9, Try.ntmps9
  go_wp2_with fail
  refine (HA.out _).mono ?_
  rintro e w1 ⟨rfl, h1⟩
  have K1 := Blk.new w1 26 #[.int .u64 0, .int .u64 1, .int .u64 3]
  have B1 : Below w.heap.size w (w1.alloc (.cells #[.int .u64 0, .int .u64 1, .int .u64 3] 26)) := h1.alloc h1.size _
  have c0 := K1.cell 0
  have c1 := K1.cell 1
  have c2 := K1.cell 2
  clear h1
  go_wp2_with fail
  refine (HB.out _).mono ?_
  rintro e w2 ⟨rfl, h2⟩
  have K2 := K1.below h2 K1.lt
  have B2 := B1.trans (h2.mono B1.size)
  have kl := K2.lt
  clear K1 B1 h2 c0 c1 c2
  have K3 := K2.alloc (.cells #[.int .u64 0, .int .u64 1, .int .u64 2] 26)
  have c0 := K3.cell 0
  have c1 := K3.cell 1
  have c2 := K3.cell 2
  have S3 := Blk.new w2 26 #[.int .u64 0, .int .u64 1, .int .u64 2]
  have d0 := S3.cell 0
  have d1 := S3.cell 1
  have d2 := S3.cell 2
  have B3 := B2.alloc B2.size (.cells #[.int .u64 0, .int .u64 1, .int .u64 2] 26)
  clear K2 B2 K3 S3
  go_wp2_with fail
  refine (HC.out _).mono ?_
  rintro e w3 ⟨rfl, h3⟩
  have B4 := B3.trans (h3.mono B3.size)
  clear B3 h3 c0 c1 c2 d0 d1 d2
  go_wp2
  go_ret
  exact ⟨rfl, B4⟩

end Go.Proofs.Ytodhkdaipmeblaa
