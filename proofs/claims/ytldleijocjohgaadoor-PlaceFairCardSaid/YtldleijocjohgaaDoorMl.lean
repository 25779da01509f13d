/-
  The contracts of the landed cpuset: List, Next. No statement is proved here.
-/
import Derived.Test.YtldleijocjohgaaDoorMk
import Derived.Maps.AppendAt
namespace Go.Proofs.YtldleijocjohgaaDoor
open Go.RowKit Go.Shelf

attribute [local go_sem] Oper.semAt_some


theorem next_found {l ini : List Int} {x a : Int} (h : (ini ++ [x]) <+: l) (hi : ∀ p ∈ ini, ¬ a < p) (hx : a < x) : nextV l a = (x, true) := by
  obtain ⟨t, rfl⟩ := h
  unfold nextV
  have h1 : ini.find? (fun n => decide (a < n)) = none := List.find?_eq_none.2 (fun p hp => by simpa using hi p hp)
  have h2 : (ini ++ [x] ++ t).find? (fun n => decide (a < n)) = some x := by
    rw [List.append_assoc, List.find?_append, h1]
    simp [hx]
  rw [h2]
theorem next_missed {l : List Int} {a : Int} (h : ∀ p ∈ l, ¬ a < p) : nextV l a = (0, false) := by
  unfold nextV
  rw [List.find?_eq_none.2 (fun p hp => by simpa using h p hp)]

set_option maxRecDepth 100000 in
set_option maxHeartbeats 2000000 in
theorem next_any (s a : Int) (w : World) (s0 : 0 ≤ s) (s1 : s < 4294967296) (hT : Db w) :
    Calls Tryd.prog 59 #[.int .u32 s, .int .i64 a] w (Ans (.tuple #[.int .i64 (nextV (mem s) a).1, .bool (nextV (mem s) a).2]) w) := by
  have hg := hT.lt
  refine (callsIn_wide (n := 5)).1 ?_
  refine callsIn_of_wp_marks Tryd.func59 rfl trivial ?_ rfl
  simp only [Tryd.ntmps59, List.size_toArray, List.length_cons, List.length_nil, Nat.reduceAdd, Nat.reduceSub, Array.replicate_succ, Array.replicate_zero, List.push_toArray, List.append_toArray, List.nil_append, List.cons_append]
  gi_wp2_with (refine ⟨trivial, ?_⟩; gi_at_call 62; refine (each_in (5 - 1) s _).mono ?_; rintro e w' ⟨rfl, rfl⟩)
  obtain ⟨bA, bR, bF, hB3⟩ := blks3 w 3 3 4 #[.int .i64 a] #[.int .i64 0] #[.bool false]
  have hsz : (((w.alloc (.cells #[.int .i64 a] 3)).alloc (.cells #[.int .i64 0] 3)).alloc (.cells #[.bool false] 4)).heap.size = w.heap.size + 1 + 1 + 1 := by simp
  generalize (((w.alloc (.cells #[.int .i64 a] 3)).alloc (.cells #[.int .i64 0] 3)).alloc (.cells #[.bool false] 4)) = w3 at *
  have bN := Blk.new w3 24 #[.int .u32 s]
  have hB0 : Below w.heap.size w (w3.alloc (.cells #[.int .u32 s] 24)) := hB3.alloc (by omega) _
  rw [hsz] at bN
  have hz : (w3.alloc (.cells #[.int .u32 s] 24)).heap.size = w.heap.size + 1 + 1 + 1 + 1 := by simp [hsz]
  have bA4 := bA.alloc (.cells #[.int .u32 s] 24)
  have bR4 := bR.alloc (.cells #[.int .u32 s] 24)
  have bF4 := bF.alloc (.cells #[.int .u32 s] 24)
  generalize w3.alloc (.cells #[.int .u32 s] 24) = w4 at *
  clear bA bR bF hB3 hsz
  refine wpIn_rangeFunc_ownG rfl (by decide) (gf := 64) (lb := #[.pointer (some ⟨w.heap.size + 1 + 1 + 1, 0, none⟩)]) rfl trivial (enters_of Tryd.func64 (by kernel_rfl) rfl)
    (each_stops (5 - 1) (by decide) (w.heap.size + 1 + 1 + 1) w.heap.size s s0 s1 w4 hg (by omega) (bN.cell 0) (hT.below hB0 hg)) belowK_t (belowK_b (by omega)) (Below.refl _ _) (fun _ => rfl)
    (fun pre W => ((∀ p ∈ pre, ¬ a < p) ∧ W.cell? ⟨w.heap.size, 0, none⟩ = some (.int .i64 a) ∧ (W.cell? ⟨w.heap.size + 1, 0, none⟩ = some (.int .i64 0) ∧ W.frozen? ⟨w.heap.size + 1, 0, none⟩ = false) ∧ W.cell? ⟨w.heap.size + 1 + 1, 0, none⟩ = some (.bool false) ∧ W.frozen? ⟨w.heap.size + 1 + 1, 0, none⟩ = false) ∧ Below w.heap.size w W)
    (fun c pre W => (c = .ret ∧ ∃ ini last, pre = ini ++ [last] ∧ (∀ p ∈ ini, ¬ a < p) ∧ a < last ∧ W.cell? ⟨w.heap.size + 1, 0, none⟩ = some (.int .i64 last) ∧ W.cell? ⟨w.heap.size + 1 + 1, 0, none⟩ = some (.bool true)) ∧ Below w.heap.size w W)
    (OwnFrom.and (Own.from (fun s A B row hs hg hr => ⟨hs.1, cell_kept hs.2.1 hg hr, ⟨cell_kept hs.2.2.1.1 hg hr, (frozen_kept hs.2.2.1.1 hg hr).trans hs.2.2.1.2⟩, cell_kept hs.2.2.2.1 hg hr, (frozen_kept hs.2.2.2.1 hg hr).trans hs.2.2.2.2⟩) _) (ownFrom_below (Nat.le_refl _) (by omega)))
    (fun c => OwnFrom.and (Own.from (fun s A B row hs hg hr => by obtain ⟨hc, ini, last, e1, e2, e3, e4, e5⟩ := hs; exact ⟨hc, ini, last, e1, e2, e3, cell_kept e4 hg hr, cell_kept e5 hg hr⟩) _) (ownFrom_below (Nat.le_refl _) (by omega)))
    ⟨⟨by simp, bA4.cell 0, ⟨bR4.cell 0, bR4.frozen 0⟩, bF4.cell 0, bF4.frozen 0⟩, hB0⟩
    (fun x => { tmps := #[.int .u32 s, .int .i64 a, undef, .pointer (some ⟨w.heap.size, 0, none⟩), .pointer (some ⟨w.heap.size + 1, 0, none⟩), .pointer (some ⟨w.heap.size + 1 + 1, 0, none⟩), .int .i64 x, .int .u32 s, .func (.func 64) #[] #[.pointer (some ⟨w.heap.size + 1 + 1 + 1, 0, none⟩)], .int .i64 x, undef, undef, undef, undef], defers := [] }) ?assign ?body ?done ?stop
  case assign =>
    intro l x W K hK
    gi_wp2
    exact hK
  case body =>
    rintro l pre x W ⟨⟨hp, hca, ⟨hcr, hfr⟩, hcf, hff⟩, hB⟩ _
    by_cases hx : a < x
    · gi_wp2
      have hcf2 : (W.setCell ⟨w.heap.size + 1, 0, none⟩ (.int .i64 x)).cell? ⟨w.heap.size + 1 + 1, 0, none⟩ = some (.bool false) := by
        rw [World.cell?_setCell_other _ _ _ _ (by intro e; injection e with e1; omega)]; exact hcf
      refine ⟨((KeepsOthers.setCell _ _ _).trans (KeepsOthers.setCell _ _ _)).from _, ⟨rfl, pre, x, rfl, hp, hx, ?_, ?_⟩, (hB.setCell (p := ⟨w.heap.size + 1, 0, none⟩) (by simp) _).setCell (p := ⟨w.heap.size + 1 + 1, 0, none⟩) (by simp; omega) _⟩
      · rw [World.cell?_setCell_other _ _ _ _ (by intro e; injection e with e1; omega)]
        exact World.cell?_setCell_same' _ _ _ (by rw [hcr]; rfl)
      · exact World.cell?_setCell_same' _ _ _ (by rw [hcf2]; rfl)
    · gi_wp2
      exact ⟨KeepsFrom.refl _ _, Below.refl _ _, ⟨fun p hp' => (List.mem_append.1 hp').elim (hp p) (fun e => by simp at e; subst e; exact hx), hca, ⟨hcr, hfr⟩, hcf, hff⟩, hB⟩
  case done =>
    rintro D ys W hD rfl ⟨⟨hne, hca, ⟨hcr, hfr⟩, hcf, hff⟩, hB⟩ hK
    have HV := next_missed hne
    gi_wp2
    obtain ⟨W2, hW2⟩ : ∃ W2, (W.setCell ⟨w.heap.size + 1, 0, none⟩ (.int .i64 0)).setCell ⟨w.heap.size + 1 + 1, 0, none⟩ (.bool false) = W2 := ⟨_, rfl⟩
    have hcf2 : (W.setCell ⟨w.heap.size + 1, 0, none⟩ (.int .i64 0)).cell? ⟨w.heap.size + 1 + 1, 0, none⟩ = some (.bool false) := by
      rw [World.cell?_setCell_other _ _ _ _ (by intro e; injection e with e1; omega)]; exact hcf
    have hB2 : Below w.heap.size w W2 := by rw [← hW2]; exact (hB.setCell (p := ⟨w.heap.size + 1, 0, none⟩) (by simp) _).setCell (p := ⟨w.heap.size + 1 + 1, 0, none⟩) (by simp; omega) _
    have hK2 := ((KeepsOthers.setCell W ⟨w.heap.size + 1, 0, none⟩ (.int .i64 0)).trans (KeepsOthers.setCell _ ⟨w.heap.size + 1 + 1, 0, none⟩ (.bool false))).same D _ hK rfl
    have c1 : W2.cell? ⟨w.heap.size + 1, 0, none⟩ = some (.int .i64 0) := by
      rw [← hW2, World.cell?_setCell_other _ _ _ _ (by intro e; injection e with e1; omega)]
      exact World.cell?_setCell_same' _ _ _ (by rw [hcr]; rfl)
    have c2 : W2.cell? ⟨w.heap.size + 1 + 1, 0, none⟩ = some (.bool false) := by
      rw [← hW2]
      exact World.cell?_setCell_same' _ _ _ (by rw [hcf2]; rfl)
    rw [hW2] at hK2 ⊢
    clear hcf2 hW2
    refine ⟨by simp, .inl ⟨_, _, rfl, run_takeDeferred hK2, ?_⟩⟩
    have hc5 := cell_kept c1 (grownBy_putObj' _ D (.deferred none)) (fun r e => by cases e; exact ⟨_, hK2, rfl⟩)
    have hc6 := cell_kept c2 (grownBy_putObj' _ D (.deferred none)) (fun r e => by cases e; exact ⟨_, hK2, rfl⟩)
    refine ⟨.tuple #[.int .i64 0, .bool false], ?_, rfl, hB2.trans (belowK_b (w := w) (Nat.le_refl _) W2 D _ _ (by omega) hK2 rfl rfl)⟩
    simp [results, Tryd.f59, go_sem, hc5, hc6]
  case stop =>
    rintro D c pre W hD hpre ⟨⟨rfl, ini, last, rfl, e2, e3, hcr, hcf⟩, hB⟩ hK
    have HV := next_found hpre e2 e3
    gi_wp2
    refine ⟨by simp, .inl ⟨_, _, rfl, run_takeDeferred hK, ?_⟩⟩
    have hc5 := cell_kept hcr (grownBy_putObj' _ D (.deferred none)) (fun r e => by cases e; exact ⟨_, hK, rfl⟩)
    have hc6 := cell_kept hcf (grownBy_putObj' _ D (.deferred none)) (fun r e => by cases e; exact ⟨_, hK, rfl⟩)
    refine ⟨.tuple #[.int .i64 last, .bool true], ?_, rfl, hB.trans (belowK_b (w := w) (Nat.le_refl _) W D _ _ (by omega) hK rfl rfl)⟩
    simp [results, Tryd.f59, go_sem, hc5, hc6]

end Go.Proofs.YtldleijocjohgaaDoor
