/-
  The statements' wakes, over the landed calls. No statement is proved here.
-/
import Derived.Test.YtkbgpmgnkegipaaDoorGo
import Derived.Test.YtkbgpmgnkegipaaDoorGh
namespace Go.Proofs.YtkbgpmgnkegipaaDoor
open Go.RowKit Go.Maps

theorem wk_unf0 : unfV [] [1, 3] = 0 := by decide
theorem wk_form0 : formG [] [1, 3] = [(1, [1, 3])] := by decide
theorem wk_gap0 : gapG [] = 0 := by decide
theorem wk_unf1 : unfV [(1, [1, 3])] [3, 4] = 5 := by decide
theorem wk_ch : choicesB [[0, 1], [0]] = true := by decide
theorem wk_match : matchR [[0, 1], [0]] [] = some [1, 0] := by decide
theorem wk_fit : fitsB [[0, 1], [0]] = true := by unfold fitsB; rw [wk_match]; rfl
theorem wk_matchL : matchL [[0, 1], [0]] = [1, 0] := by unfold matchL; rw [if_pos wk_ch, wk_match]; rfl
theorem nw_none (w : World) : NW w none 0 [] := ⟨Reads.none_, by omega, fun g hg => by cases hg⟩

set_option maxRecDepth 100000 in
set_option maxHeartbeats 8000000 in
theorem wakes_any (w : World) : Calls Tryd.prog 5 #[] w (Said (.bool true) w) := by
  have KI := Blk.new w 3 #[.int .i64 1, .int .i64 3]
  have GB := (Below.refl w.heap.size w).alloc (Nat.le_refl _) (.cells #[.int .i64 1, .int .i64 3] 3)
  have HF := Lib.hid (form_any none 0 0 [] (some ⟨w.heap.size, 0, none⟩) 2 2 [1, 3] (w.alloc (.cells #[.int .i64 1, .int .i64 3] 3)) (nw_none _) (by omega) ⟨reads_blk KI rfl rfl, by omega⟩)
  unfold FormSaid at HF
  rw [show gsM [] = [] from rfl, wk_unf0, wk_form0, wk_gap0, if_pos rfl, if_pos rfl] at HF
  have HGB := Lib.hid GB
  clear KI GB
  go_enter Tryd.func5, Tryd.ntmps5
  go_wp2_with fail
  refine HF.out.mono ?_
  rintro e w1 ⟨A1, n1, c1, G1, rfl, N1, E1, h1⟩
  have hn1 : n1 = 1 := by rw [← N1.len, ← gsM_len, E1]; rfl
  subst hn1
  have B1 := HGB.out.trans (h1.mono HGB.out.size)
  have hm : ∀ g ∈ G1, g.2.2.1 ≤ 100 := fun g hg => by
    have h2 := N1.mlen hg
    have h3 : gm g ∈ gsM G1 := List.mem_map.2 ⟨g, hg, rfl⟩
    rw [E1, List.mem_singleton] at h3
    have h4 : g.2.2.2.2 = [1, 3] := congrArg Prod.snd h3
    rw [h4] at h2
    have h5 : ([1, 3] : List Int).length = 2 := rfl
    omega
  have W1 := N1.nw (by omega) hm
  have hnc := N1.nc
  have KF := (Blk.new w1 36 #[.slice A1 1 c1])
  have hz : (w1.alloc (.cells #[.slice A1 1 c1] 36)).heap.size = w1.heap.size + 1 := by simp
  have KJ := Blk.new (w1.alloc (.cells #[.slice A1 1 c1] 36)) 3 #[.int .i64 3, .int .i64 4]
  rw [hz] at KJ
  have c0 := (KF.alloc (.cells #[.int .i64 3, .int .i64 4] 3)).cell 0
  have BA := (Below.refl w1.heap.size w1).alloc (Nat.le_refl _) (.cells #[.slice A1 1 c1] 36)
  have BB := BA.alloc BA.size (.cells #[.int .i64 3, .int .i64 4] 3)
  have HF2 := Lib.hid (form_any A1 1 c1 G1 (some ⟨w1.heap.size + 1, 0, none⟩) 2 2 [3, 4] _ (W1.below BB) hnc ⟨reads_blk KJ rfl rfl, by omega⟩)
  unfold FormSaid at HF2
  rw [E1, wk_unf1, if_neg (by omega), if_neg (by omega)] at HF2
  have HB2 := Lib.hid (B1.trans (BB.mono B1.size))
  have d0 := KF.cell 0
  clear h1 N1 E1 B1 hm W1 hnc KF KJ BA BB hz
  go_wp2_with fail
  refine HF2.out.mono ?_
  rintro e w2 ⟨A2, n2, c2, G2, rfl, _, _, h2⟩
  have HB3 := Lib.hid (HB2.out.trans (h2.mono HB2.out.size))
  clear h2 c0 d0
  have B3 := HB3.out.alloc HB3.out.size (.cells #[.slice A2 n2 c2] 36)
  have hz3 : (w2.alloc (.cells #[.slice A2 n2 c2] 36)).heap.size = w2.heap.size + 1 := by simp
  go_wp2_with fail
  generalize w2.alloc (.cells #[.slice A2 n2 c2] 36) = w3 at *
  rw [← hz3]
  clear hz3
  have KA := Blk.new w3 3 #[.int .i64 0, .int .i64 1]
  have hz1 : (w3.alloc (.cells #[.int .i64 0, .int .i64 1] 3)).heap.size = w3.heap.size + 1 := by simp
  have KC := Blk.new (w3.alloc (.cells #[.int .i64 0, .int .i64 1] 3)) 3 #[.int .i64 0]
  have hz2 : ((w3.alloc (.cells #[.int .i64 0, .int .i64 1] 3)).alloc (.cells #[.int .i64 0] 3)).heap.size = w3.heap.size + 1 + 1 := by simp
  have KD := Blk.new ((w3.alloc (.cells #[.int .i64 0, .int .i64 1] 3)).alloc (.cells #[.int .i64 0] 3)) 27 #[.slice (some ⟨w3.heap.size, 0, none⟩) 2 2, .slice (some ⟨w3.heap.size + 1, 0, none⟩) 1 1]
  rw [hz1] at KC
  rw [hz2] at KD
  have KA2 := (KA.alloc (.cells #[.int .i64 0] 3)).alloc (.cells #[.slice (some ⟨w3.heap.size, 0, none⟩) 2 2, .slice (some ⟨w3.heap.size + 1, 0, none⟩) 1 1] 27)
  have KC2 := KC.alloc (.cells #[.slice (some ⟨w3.heap.size, 0, none⟩) 2 2, .slice (some ⟨w3.heap.size + 1, 0, none⟩) 1 1] 27)
  have BD := B3.alloc B3.size (.cells #[.int .i64 0, .int .i64 1] 3)
  replace BD := BD.alloc BD.size (.cells #[.int .i64 0] 3)
  replace BD := BD.alloc BD.size (.cells #[.slice (some ⟨w3.heap.size, 0, none⟩) 2 2, .slice (some ⟨w3.heap.size + 1, 0, none⟩) 1 1] 27)
  have HMt := match_any (some ⟨w3.heap.size + 1 + 1, 0, none⟩) 2 2 [(some ⟨w3.heap.size, 0, none⟩, 2, 2, [0, 1]), (some ⟨w3.heap.size + 1, 0, none⟩, 1, 1, [0])] _ ⟨reads_blk KD rfl rfl, by omega, fun y hy => by
    rcases List.mem_cons.1 hy with rfl | hy
    · exact ⟨⟨reads_blk KA2 rfl rfl, by show 2 ≤ 1000; omega⟩, by show 2 ≤ 100; omega⟩
    · rw [List.mem_singleton] at hy
      subst hy
      exact ⟨⟨reads_blk KC2 rfl rfl, by show 1 ≤ 1000; omega⟩, by show 1 ≤ 100; omega⟩⟩ (fun e => by cases e)
  have HBD := Lib.hid BD
  clear KA KC KD KA2 KC2 hz1 hz2 BD B3
  refine HMt.mono ?_
  rintro e w4 ⟨A4, n4, c4, rfl, O4, h4⟩
  rw [show gsI [((some ⟨w3.heap.size, 0, none⟩ : Option Addr), 2, 2, [(0 : Int), 1]), (some ⟨w3.heap.size + 1, 0, none⟩, 1, 1, [0])] = [[0, 1], [0]] from rfl] at O4 ⊢
  rw [wk_matchL] at O4
  rw [wk_ch, wk_fit, Bool.and_self]
  obtain rfl : n4 = 2 := by have h1 := O4.1; rw [length_vs] at h1; have : ([1, 0] : List Int).length = 2 := rfl; omega
  obtain ⟨g, cur, rfl, _, K4, _, _, _, ht⟩ := blk_own O4 (by omega)
  have HB4 := Lib.hid (HBD.out.trans (h4.mono HBD.out.size))
  have x0 : w4.cell? ⟨g, 0, none⟩ = some (.int .i64 1) := by
    have := (Reads.of_own O4).2 (by omega)
    obtain ⟨ad, e, _, hc⟩ := this
    obtain rfl := Option.some.inj e
    have := hc 0 (.int .i64 1) rfl
    rwa [Addr.add_lit] at this
  have x1 : w4.cell? ⟨g, 1, none⟩ = some (.int .i64 0) := by
    have := (Reads.of_own O4).2 (by omega)
    obtain ⟨ad, e, _, hc⟩ := this
    obtain rfl := Option.some.inj e
    have := hc 1 (.int .i64 0) rfl
    rwa [Addr.add_lit] at this
  clear h4 O4 K4 ht
  go_wp2_with fail
  go_ret
  exact ⟨rfl, HB4.out⟩

end Go.Proofs.YtkbgpmgnkegipaaDoor
