/-
  The statements' own words for placing: wakes, why; the document's Right. No statement is proved here.
-/
import Derived.Test.YtldleijocjohgaaDoorGl
namespace Go.Proofs.YtldleijocjohgaaDoor
open Go.RowKit

theorem ones_said : placesL [⟨3, 1, 255, 0⟩, ⟨5, -1, 255, 0⟩] 3 = [(3, 1), (5, 0)] ∧ placesS [⟨3, 1, 255, 0⟩, ⟨5, -1, 255, 0⟩] 3 = 0 ∧ whyE [⟨3, 1, 255, 0⟩, ⟨5, -1, 255, 0⟩] 3 = 0 := by decide +kernel

set_option maxRecDepth 100000 in
set_option maxHeartbeats 2000000 in
theorem wakes_any (w : World) (hD : Db w) : Calls Tryd.prog 8 #[] w (Said (.bool true) w) := by
  have K := Blk.new w 43 #[.int .i64 3, .int .i64 1, .int .u32 255, .int .u32 0, .int .i64 5, .int .i64 (-1), .int .u32 255, .int .u32 0]
  have B := (Below.refl w.heap.size w).alloc (Nat.le_refl _) (.cells #[.int .i64 3, .int .i64 1, .int .u32 255, .int .u32 0, .int .i64 5, .int .i64 (-1), .int .u32 255, .int .u32 0] 43)
  have hr : Reads (w.alloc (.cells #[.int .i64 3, .int .i64 1, .int .u32 255, .int .u32 0, .int .i64 5, .int .i64 (-1), .int .u32 255, .int .u32 0] 43)) (w.alloc (.cells #[.int .i64 3, .int .i64 1, .int .u32 255, .int .u32 0, .int .i64 5, .int .i64 (-1), .int .u32 255, .int .u32 0] 43)).heap.size 4 (some ⟨w.heap.size, 0, none⟩) 2 (wivs [⟨3, 1, 255, 0⟩, ⟨5, -1, 255, 0⟩]) := reads_new w 43 4 2 _ rfl
  have HP := Lib.hid (place_any (some ⟨w.heap.size, 0, none⟩) 2 2 [⟨3, 1, 255, 0⟩, ⟨5, -1, 255, 0⟩] 3 _ ⟨by decide, by decide⟩ hr (fun k x hk => by
    match k, hk with
    | 0, hk => simp at hk; subst hk; exact ⟨⟨by decide, by decide⟩, by decide, by decide⟩
    | 1, hk => simp at hk; subst hk; exact ⟨⟨by decide, by decide⟩, by decide, by decide⟩
    | k + 2, hk => simp at hk) (by decide) (hD.below B hD.lt))
  rw [ones_said.1, ones_said.2.1, ones_said.2.2] at HP
  have HB := Lib.hid B
  clear K B hr
  go_enter Tryd.func8, Tryd.ntmps8
  go_wp2_with fail
  refine HP.out.mono ?_
  rintro e w2 ⟨v, rfl, hO, h2⟩
  obtain ⟨g, cap, rfl, hc, hlt⟩ := hO.form (by decide)
  have hcs := hO.cells (g := g) rfl
  have c0 : w2.cell? ⟨g, 0, none⟩ = some (.int .i64 3) := hcs 0 _ rfl
  have c1 : w2.cell? ⟨g, 1, none⟩ = some (.int .i64 1) := hcs 1 _ rfl
  have c2 : w2.cell? ⟨g, 2, none⟩ = some (.int .i64 5) := hcs 2 _ rfl
  have c3 : w2.cell? ⟨g, 3, none⟩ = some (.int .i64 0) := hcs 3 _ rfl
  have HB2 := Lib.hid (HB.out.trans (h2.mono HB.out.size))
  clear hO hcs h2 hc hlt
  go_wp2
  go_ret
  exact ⟨rfl, HB2.out⟩

end Go.Proofs.YtldleijocjohgaaDoor
