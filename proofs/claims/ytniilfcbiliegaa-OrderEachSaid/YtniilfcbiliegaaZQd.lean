/-
  The library's Reverse of gangs. No statement is proved here.
-/
import Derived.Test.YtniilfcbiliegaaZQc
namespace Go.Proofs.Ytniilfcbiliegaa
open Go.RowKit Go.Maps

theorem flat_gv (G : List Gg) : flat gv G = G.map slG := flat_map slG G
/-- gangs swapped, in a row of the call's own -/
theorem gv_swap {w : World} {B g n c : Nat} {G : List Gg} (h : w.ownsRow B 40 1 (.slice (some ⟨g, 0, none⟩) n c) n (flat gv G)) {i j : Nat} {x y : Gg} (hx : G[i]? = some x) (hy : G[j]? = some y) :
    ((w.setCell ⟨g, i, none⟩ (slG y)).setCell ⟨g, j, none⟩ (slG x)).ownsRow B 40 1 (.slice (some ⟨g, 0, none⟩) n c) n (flat gv ((G.set i y).set j x)) ∧ ((G.set i y).set j x).Perm G ∧ w.grownBy ((w.setCell ⟨g, i, none⟩ (slG y)).setCell ⟨g, j, none⟩ (slG x)) (some g) := by
  have h1 := h.stored i (slG y)
  have h2 := h1.1.stored j (slG x)
  obtain ⟨hi, ei⟩ := List.getElem?_eq_some_iff.1 hx
  obtain ⟨hj, ej⟩ := List.getElem?_eq_some_iff.1 hy
  refine ⟨?_, ?_, h1.2.trans h2.2⟩
  · have h3 := h2.1
    rw [flat_gv] at h3 ⊢
    rw [List.map_set, List.map_set]
    exact h3
  · have := List.set_set_perm hi hj
    rw [ei, ej] at this
    exact this
/-- gangs turned about -/
def Turn (B g n c : Nat) (G : List Gg) (w : World) (e : Ending) (w' : World) : Prop :=
  e = .returned (.tuple #[]) ∧ ∃ G' : List Gg, w'.ownsRow B 40 1 (.slice (some ⟨g, 0, none⟩) n c) n (flat gv G') ∧ G'.Perm G ∧ w.grownBy w' (some g)

set_option maxRecDepth 100000 in
set_option maxHeartbeats 4000000 in
theorem reverse_any (B g n c m c2 : Nat) (G : List Gg) (w : World) (h : w.ownsRow B 40 1 (.slice (some ⟨g, 0, none⟩) n c) n (flat gv G)) (hm : m ≤ n) (hn : n ≤ 1000) :
    Calls Try.prog 29 #[.slice (some ⟨g, 0, none⟩) m c2] w (Turn B g n c G w) := by
  have hl : G.length = n := by
    have := h.1
    rw [length_flat gv length_gv] at this
    omega
  have HO := Lib.hid h
  obtain ⟨ad, had⟩ : ∃ ad : Addr, (⟨g, 0, none⟩ : Addr) = ad := ⟨_, rfl⟩
  have HAd : Hid (∀ k : Nat, ad.add k = ⟨g, k, none⟩) := Lib.hid (fun k => by rw [← had, Addr.add_lit, Nat.zero_add])
  have HL := Lib.hid hl
  rw [had]
  clear h hl had
  go_enter Try.func29, Try.ntmps29
  go_wp2_with fail
  go_loopw [2, 3] (fun iv jv wr => ∃ (i : Nat) (j : Int), iv = .int .i64 (i : Int) ∧ jv = .int .i64 j ∧ (i : Int) + j = (m : Int) - 1 ∧ i ≤ m ∧ Hid (∃ G' : List Gg, wr.ownsRow B 40 1 (.slice (some ⟨g, 0, none⟩) n c) n (flat gv G') ∧ G'.Perm G ∧ w.grownBy wr (some g))) (fun iv _ _ => m - (intOf iv).toNat)
  case atStart => exact ⟨0, (m : Int) - 1, rfl, by go_num, by omega, by omega, Lib.hid ⟨G, HO.out, List.Perm.refl _, World.grownBy.refl _ _⟩⟩
  case round =>
    obtain ⟨i, j, rfl, rfl, hij, him, HR⟩ := hrel
    by_cases hlt : (i : Int) < j
    · obtain ⟨k, rfl⟩ : ∃ k : Nat, j = (k : Int) := ⟨j.toNat, by omega⟩
      obtain ⟨G1, own, hp, hg⟩ := HR.out
      have hl1 : G1.length = n := hp.length_eq.trans HL.out
      obtain ⟨⟨A1, n1, c1, l1⟩, hx⟩ := elem_at (l := G1) (k := i) (by rw [hl1]; omega)
      obtain ⟨⟨A2, n2, c2', l2⟩, hy⟩ := elem_at (l := G1) (k := k) (by rw [hl1]; omega)
      have hsw := gv_swap own hx hy
      have own1 := (own.stored i (slG (A2, n2, c2', l2))).1
      have d0 : wr.cell? (ad.add i) = some (.slice A1 n1 c1) := by
        rw [HAd.out, own.cellAt i (by omega), flat_gv, List.getElem?_map, hx]; rfl
      have d1 : wr.cell? (ad.add k) = some (.slice A2 n2 c2') := by
        rw [HAd.out, own.cellAt k (by omega), flat_gv, List.getElem?_map, hy]; rfl
      have f0 : wr.frozen? (ad.add i) = false := by rw [HAd.out]; exact own.frozenAt i
      have f1 : wr.frozen? (ad.add k) = false := by rw [HAd.out]; exact own.frozenAt k
      have d2 : (wr.setCell (ad.add i) (.slice A2 n2 c2')).cell? (ad.add k) = some (.slice A2 n2 c2') := by
        rw [HAd.out, HAd.out, World.cell?_setCell_other _ _ _ _ (by intro e; injection e with _ e; omega), ← HAd.out]
        exact d1
      have HS : Hid (∃ G' : List Gg, ((wr.setCell (ad.add i) (.slice A2 n2 c2')).setCell (ad.add k) (.slice A1 n1 c1)).drew.ownsRow B 40 1 (.slice (some ⟨g, 0, none⟩) n c) n (flat gv G') ∧ G'.Perm G ∧ w.grownBy ((wr.setCell (ad.add i) (.slice A2 n2 c2')).setCell (ad.add k) (.slice A1 n1 c1)).drew (some g)) := Lib.hid (by
        rw [HAd.out, HAd.out]
        exact ⟨_, hsw.1.drew, hsw.2.1.trans hp, grown_drew' (hg.trans hsw.2.2)⟩)
      have i1 : (0 : Int) ≤ (i : Int) := by omega
      have i2 : (i : Int) < (m : Int) := by omega
      have j1 : (0 : Int) ≤ (k : Int) := by omega
      have j2 : (k : Int) < (m : Int) := by omega
      have hk1 : IntKind.i64.wrap ((k : Int) - 1) = (k : Int) - 1 := IntWalk.i64_in _ (by omega)
      clear own own1 hsw hx hy hp hg hl1
      go_wp2_with fail
      go_region
      all_goals go_wp2
      all_goals go_roundw
      all_goals first | exact ⟨i + 1, (k : Int) - 1, by go_num, by go_num, by omega, by omega, HS⟩ | (simp [intOf]; omega)
    · go_wp2_with fail
      go_end0
      exact ⟨rfl, HR.out⟩

end Go.Proofs.Ytniilfcbiliegaa
