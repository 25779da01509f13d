/-
  The laws' own first question: does the layer do anything? No statement is proved here.
-/
import Derived.Test.YteglkhljenjplaaWg
import Derived.Test.YteglkhljenjplaaWc
import Derived.Deep.RegionHeld3
namespace Go.Proofs.Yteglkhljenjplaa
open Go.RowKit

/-- two cells of a block -/
def C2 (g : Nat) (a b : Value) (w : World) : Prop := w.cell? ⟨g, 0, none⟩ = some a ∧ w.cell? ⟨g, 1, none⟩ = some b
theorem C2.below {g : Nat} {a b : Value} {w w' : World} (h : C2 g a b w) (hb : Below w.heap.size w w') : C2 g a b w' :=
  ⟨(hb.cell (World.block_lt_of_cell? w _ h.1)).trans h.1, (hb.cell (World.block_lt_of_cell? w _ h.2)).trans h.2⟩
theorem Blk.two {w : World} {g : Nat} {t : TypeId} {a b : Value} (h : Blk w g t #[a, b]) : C2 g a b w := ⟨h.cell 0, h.cell 1⟩
theorem C2.drew {g : Nat} {a b : Value} {w : World} (h : C2 g a b w) : C2 g a b w.drew := h

set_option maxHeartbeats 1000000 in
theorem wakes_any (w : World) : Calls Try.prog 9 #[] w (Ans (.bool true) w) := by
  have HM : Hid (∀ u, Calls Try.prog 14 #[.int .u64 9223372036854775808, .int .u64 4] u (Ans (.agg #[.int .u64 2, .int .u64 0]) u)) :=
    Lib.hid (fun u => mul_any 9223372036854775808 4 2 0 (by omega) (by omega) (by omega) (by omega) u)
  have HD : Hid (∀ u, Calls Try.prog 21 #[.agg #[.int .u64 1, .int .u64 0], .int .u64 10] u (Ans (.tuple #[.agg #[.int .u64 0, .int .u64 1844674407370955161], .int .u64 6, .int .i64 0]) u)) :=
    Lib.hid (fun u => div_any 1 0 10 0 1844674407370955161 6 (by omega) (by omega) (by omega) (by omega) (by omega) (by omega) (by omega) u)
  have HO : Hid (∀ u, Calls Try.prog 16 #[.int .u64 1844674407370955161] u (Ans (.agg #[.int .u64 0, .int .u64 1844674407370955161]) u)) :=
    Lib.hid (fun u => of_wide 1844674407370955161 u)
  go_enter Try.func9, Try.ntmps9
  go_wp2_with fail
  refine (HM.out _).mono ?_
  rintro e w1 ⟨rfl, h1⟩
  go_wp2_with fail
  have b1 := Blk.new w1 24 #[.int .u64 2, .int .u64 0]
  have B1 : Below w.heap.size w (w1.alloc (.cells #[.int .u64 2, .int .u64 0] 24)) := h1.alloc h1.size _
  refine (HD.out _).mono ?_
  rintro e w2 ⟨rfl, h2⟩
  have b1' := b1.below h2 b1.lt
  have B2 := B1.trans (h2.mono B1.size)
  have hlt := b1'.lt
  clear b1 B1 h1 h2
  go_wp2_with fail
  have b2 := Blk.new w2 24 #[.int .u64 0, .int .u64 1844674407370955161]
  have b1 := b1'.alloc (.cells #[.int .u64 0, .int .u64 1844674407370955161] 24)
  have B3 := (B2.alloc B2.size (.cells #[.int .u64 0, .int .u64 1844674407370955161] 24)).drew
  have k1 : C2 _ _ _ (World.drew (w2.alloc _)) := b1.two
  have k2 : C2 _ _ _ (World.drew (w2.alloc _)) := b2.two
  clear b1 b2 b1' B2
  go_region_held3 (fun w' => w'.cell? ⟨w1.heap.size, 0, none⟩ = some (.int .u64 2) ∧ w'.cell? ⟨w1.heap.size, 1, none⟩ = some (.int .u64 0) ∧ w'.cell? ⟨w2.heap.size, 0, none⟩ = some (.int .u64 0) ∧ w'.cell? ⟨w2.heap.size, 1, none⟩ = some (.int .u64 1844674407370955161))
    (first | exact ⟨k3.1, k3.2, k4.1, k4.2⟩ | exact ⟨k1.1, k1.2, k2.1, k2.2⟩)
    (first
      | (go_at_call 16; (with_reducible refine (HO.out _).mono ?_); rintro e w3 ⟨rfl, h3⟩; have k3 := k1.below h3; have k4 := k2.below h3; have B4 := B3.trans (h3.mono B3.size)))
  go_wp2
  go_ret
  exact ⟨rfl, B4⟩

end Go.Proofs.Yteglkhljenjplaa
