/-
  The statements' wakes. No statement is proved here.
-/
import Derived.Test.YtniilfcbiliegaaZPa
namespace Go.Proofs.Ytniilfcbiliegaa
open Go.RowKit Go.Maps

def plE0 : List Et := [([3], (0, 5, 1), 2, false), ([2], (0, 20, 2), 1, false), ([1], (0, 10, 1), 3, false)]
def plE1 : List Et := [([2], (0, 20, 2), 1, false), ([1, 3], (0, 10, 1), 2, false)]
theorem pl_ok0 : chkO plQ plW [] = 0 := by decide +kernel
theorem pl_ok1 : chkO plQ plW [[1, 3]] = 0 := by decide +kernel
theorem pl_e0 : sortE (entsP (pts plQ plW) []) = plE0 := by decide +kernel
theorem pl_e1 : sortE (entsP (pts plQ plW) [[1, 3]]) = plE1 := by decide +kernel
theorem gw_none (w : World) : GW w none 0 [] := ⟨Reads.none_, by omega, fun g hg => by cases hg⟩
/-- the k-th entity's slice of members, and its first member -/
theorem ES.at0 {w : World} {B : Nat} {A : Option Addr} {n c : Nat} {E : List En} (h : ES w B A n c E) {k : Nat} {x : Et} {i : Int} {is : List Int} (hx : (E.map et)[k]? = some x) (hi : x.1 = i :: is) :
    ∃ g h2 n2 c2, A = some ⟨g, 0, none⟩ ∧ w.cell? ⟨g, k * 6, none⟩ = some (.slice (some ⟨h2, 0, none⟩) n2 c2) ∧ w.cell? ⟨h2, 0, none⟩ = some (.int .i64 i) ∧ n2 = is.length + 1 := by
  rw [List.getElem?_map] at hx
  obtain ⟨e, he, rfl⟩ := Option.map_eq_some_iff.1 hx
  have hm := h.mem e (List.mem_of_getElem? he)
  have h3 : e.1.2.2.2 = i :: is := hi
  have hk := (List.getElem?_eq_some_iff.1 he).1
  have hl : E.length = n := by
    have h1 := h.row.1
    rw [length_flat ev length_ev] at h1
    omega
  rcases h.row.2 with ⟨_, h0⟩ | ⟨g, cap, cur, hv, _⟩
  · omega
  injection hv with hv1 hv2 hv3
  subst hv1 hv3
  have hn2 : e.1.2.1 = is.length + 1 := by
    have := hm.1
    rw [length_vs, h3, List.length_cons] at this
    omega
  unfold slE at hm
  rcases hm.2 with ⟨_, h0⟩ | ⟨g2, cap2, cur2, hv2, _⟩
  · omega
  injection hv2 with hv1 hv4 hv5
  rw [hv1] at hm
  refine ⟨g, g2, e.1.2.1, e.1.2.2.1, rfl, ?_, ?_, hn2⟩
  · rw [h.row.cellAt (k * 6) (by rw [← hl]; omega)]
    have := flat_at ev length_ev he 0 (by omega)
    rw [Nat.add_zero] at this
    rw [this]
    show some (Value.slice e.1.1 e.1.2.1 e.1.2.2.1) = _
    rw [hv1]
  · have := hm.cellAt 0 (by omega)
    rw [this, h3]
    rfl
theorem ES.count {w : World} {B : Nat} {A : Option Addr} {n c : Nat} {E : List En} (h : ES w B A n c E) : (E.map et).length = n := by
  have h1 := h.row.1
  rw [length_flat ev length_ev] at h1
  rw [List.length_map]
  omega

set_option maxRecDepth 100000 in
set_option maxHeartbeats 4000000 in
theorem wakes_any (w : World) : Calls Try.prog 9 #[] w (Said (.bool true) w) := by
  have HPl := Lib.hid (plain_any w)
  go_enter Try.func9, Try.ntmps9
  go_wp2_with fail
  refine HPl.out.mono ?_
  rintro e w1 ⟨g, g', rfl, KA, KB, GB⟩
  have KA1 := KA.alloc (.cells #[.slice (some ⟨g, 0, none⟩) 3 3] 26)
  have KB1 := KB.alloc (.cells #[.slice (some ⟨g, 0, none⟩) 3 3] 26)
  have KQ := Blk.new w1 26 #[.slice (some ⟨g, 0, none⟩) 3 3]
  have z0 := KQ.cell 0
  replace GB := GB.alloc GB.size (.cells #[.slice (some ⟨g, 0, none⟩) 3 3] 26)
  have HEn := Lib.hid (entities_ok (some ⟨g, 0, none⟩) 3 3 plQ (some ⟨g', 0, none⟩) 3 3 plW none 0 0 [] _ (plain_q KA1) (plain_w KB1) (gw_none _) pl_ok0)
  clear KA KB
  go_wp2_with fail
  refine HEn.out.mono ?_
  rintro e w2 ⟨A1, n1, c1, E1, rfl, S1, e1, h9⟩
  rw [show gsI [] = [] from rfl, pl_e0] at e1
  replace KA1 := KA1.below h9 KA1.lt
  replace KB1 := KB1.below h9 KB1.lt
  replace KQ := KQ.below h9 KQ.lt
  replace GB := GB.trans (h9.mono GB.size)
  have hn1 : n1 = 3 := by rw [← S1.count, e1]; rfl
  subst hn1
  clear h9 z0 HEn
  have z0 := ((KQ.alloc (.cells #[.int .i64 1, .int .i64 3] 3)).alloc (.cells #[.slice (some ⟨w2.heap.size, 0, none⟩) 2 2] 40)).cell 0
  have q0 := KQ.cell 0
  have KI := Blk.new w2 3 #[.int .i64 1, .int .i64 3]
  have hz : (w2.alloc (.cells #[.int .i64 1, .int .i64 3] 3)).heap.size = w2.heap.size + 1 := by simp
  have KG := Blk.new (w2.alloc (.cells #[.int .i64 1, .int .i64 3] 3)) 40 #[.slice (some ⟨w2.heap.size, 0, none⟩) 2 2]
  rw [hz] at KG
  replace KI := KI.alloc (.cells #[.slice (some ⟨w2.heap.size, 0, none⟩) 2 2] 40)
  replace KA1 := (KA1.alloc (.cells #[.int .i64 1, .int .i64 3] 3)).alloc (.cells #[.slice (some ⟨w2.heap.size, 0, none⟩) 2 2] 40)
  replace KB1 := (KB1.alloc (.cells #[.int .i64 1, .int .i64 3] 3)).alloc (.cells #[.slice (some ⟨w2.heap.size, 0, none⟩) 2 2] 40)
  have hsz : w2.heap.size ≤ (w2.alloc (.cells #[.int .i64 1, .int .i64 3] 3)).heap.size := by omega
  have S2 := S1.below (((Below.refl _ w2).alloc (Nat.le_refl _) (.cells #[.int .i64 1, .int .i64 3] 3)).alloc hsz (.cells #[.slice (some ⟨w2.heap.size, 0, none⟩) 2 2] 40))
  have GB1 := GB.alloc GB.size (.cells #[.int .i64 1, .int .i64 3] 3)
  replace GB1 := GB1.alloc GB1.size (.cells #[.slice (some ⟨w2.heap.size, 0, none⟩) 2 2] 40)
  have hGW : GW _ (some ⟨w2.heap.size + 1, 0, none⟩) 1 [(some ⟨w2.heap.size, 0, none⟩, 2, 2, [1, 3])] := ⟨reads_blk KG rfl rfl, by omega, fun y hy => by
    rw [List.mem_singleton] at hy
    subst hy
    exact ⟨⟨reads_blk KI rfl rfl, by show 2 ≤ 1000; omega⟩, by show 2 ≤ 100; omega⟩⟩
  have HEn := Lib.hid (entities_ok (some ⟨g, 0, none⟩) 3 3 plQ (some ⟨g', 0, none⟩) 3 3 plW (some ⟨w2.heap.size + 1, 0, none⟩) 1 1 _ _ (plain_q KA1) (plain_w KB1) hGW pl_ok1)
  clear KA1 KB1 KI KG hGW hz hsz S1 GB KQ
  go_wp2_with fail
  refine HEn.out.mono ?_
  rintro e w3 ⟨A2, n2, c2, E2, rfl, S3, e2, h9⟩
  rw [show gsI [((some ⟨w2.heap.size, 0, none⟩ : Option Addr), 2, 2, [1, 3])] = [[1, 3]] from rfl, pl_e1] at e2
  replace S2 := S2.below h9
  replace GB1 := GB1.trans (h9.mono GB1.size)
  have hn2 : n2 = 2 := by rw [← S3.count, e2]; rfl
  subst hn2
  obtain ⟨p1, p2, p3, p4, rfl, d0, d1, rfl⟩ := S2.at0 (k := 0) (by rw [e1]; rfl) rfl
  obtain ⟨p1', p2', p3', p4', q1, d2, d3, rfl⟩ := S2.at0 (k := 1) (by rw [e1]; rfl) rfl
  obtain ⟨r1, r2, r3, r4, rfl, d4, d5, rfl⟩ := S3.at0 (k := 1) (by rw [e2]; rfl) rfl
  injection q1 with q1
  injection q1 with q1
  subst q1
  have HB := Lib.hid GB1
  clear h9 S2 S3 e1 e2 GB1 HEn z0 q0
  go_wp2_with fail
  go_ret
  exact ⟨rfl, HB.out⟩

end Go.Proofs.Ytniilfcbiliegaa
