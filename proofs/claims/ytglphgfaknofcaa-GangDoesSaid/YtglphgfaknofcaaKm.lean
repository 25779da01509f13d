/-
  Rows of gangs as they came in; the gangs' order as the document tells it (mathematics). No statement is proved here.
-/
import Derived.Test.YtglphgfaknofcaaKl
import Derived.Test.YtglphgfaknofcaaKh
import Derived.Test.YtglphgfaknofcaaKg
namespace Go.Proofs.Ytglphgfaknofcaa
open Go.RowKit Go.Maps

/-- rows of gangs that came in -/
abbrev Gz := Option Addr × Nat × Nat × List Gn
def gzv (x : Gz) : List Value := [.slice x.1 x.2.1 x.2.2.1]
theorem length_gzv (x : Gz) : (gzv x).length = 1 := rfl
structure LA (w : World) (A : Option Addr) (n : Nat) (l : List Gz) : Prop where
  row : Reads w w.heap.size 1 A n (flat gzv l)
  big : n ≤ maxLen
  mem : ∀ x ∈ l, NA w x.1 x.2.1 x.2.2.2
theorem LA.below {w w' : World} {A : Option Addr} {n : Nat} {l : List Gz} (h : LA w A n l) (hb : Below w.heap.size w w') : LA w' A n l :=
  ⟨(h.row.below hb).more hb.size, h.big, fun x hx => (h.mem x hx).below hb⟩
theorem LA.len {w : World} {A : Option Addr} {n : Nat} {l : List Gz} (h : LA w A n l) : l.length = n := by
  have h1 := h.row.1
  rw [length_flat gzv length_gzv] at h1
  omega
theorem LA.at_ {w : World} {A : Option Addr} {n : Nat} {l : List Gz} (h : LA w A n l) {k : Nat} {x : Gz} (hx : l[k]? = some x) :
    ∃ ad, A = some ad ∧ ad.block < w.heap.size ∧ w.cell? (ad.add k) = some (.slice x.1 x.2.1 x.2.2.1) := by
  obtain ⟨ad, e, hb, hc⟩ := h.row.elem gzv length_gzv hx (by omega)
  have := hc 0 _ rfl
  rw [Nat.mul_one, Nat.add_zero] at this
  exact ⟨ad, e, hb, this⟩

/-- gangs that the statements cut to -/
theorem short_nw {w : World} {B n c : Nat} {A : Option Addr} {G : List Gn} (h : NO w B A n c G) (hn : n ≤ 9) (hm : ∀ g ∈ G, g.2.2.1 ≤ 17) : NW w A n G :=
  ⟨Reads.of_own h.row, by omega, fun g hg => ⟨⟨Reads.of_own (h.mem g hg), by have := hm g hg; omega⟩, by have := hm g hg; omega⟩⟩

/-- the numbers ahead are above nought -/
theorem right_pos {l : List Gm} : ∀ {k : Nat}, rightK l k = true → 0 ≤ lastG l k
  | 0, _ => Int.le_refl _
  | k + 1, h => by
    by_cases hk : k < l.length
    · obtain ⟨g, hg⟩ := elem_at hk
      rw [rightK_step hg, Bool.and_eq_true] at h
      have h1 := (okG_iff.1 h.2).1
      have h2 := right_pos h.1
      rw [lastG_at hg]
      omega
    · show 0 ≤ (l.getD k (0, [])).1
      rw [List.getD_eq_getElem?_getD, List.getElem?_eq_none (by omega)]
      exact Int.le_refl _
theorem rightK_ids {l : List Gm} {k : Nat} (h : rightK l k = true) {g : Gm} (hg : g ∈ l.take k) : 0 < g.1 := by
  obtain ⟨j, hj⟩ := List.mem_iff_getElem?.1 hg
  rw [List.getElem?_take] at hj
  split at hj
  · rename_i hlt
    unfold rightK at h
    have h1 := List.all_eq_true.1 h j (List.mem_range.2 hlt)
    rw [List.getD_eq_getElem?_getD, hj] at h1
    have h2 := (okG_iff.1 h1).1
    have : rightK l j = true := by
      unfold rightK
      refine List.all_eq_true.2 fun i hi => List.all_eq_true.1 h i (List.mem_range.2 ?_)
      have := List.mem_range.1 hi
      omega
    have := right_pos this
    show 0 < g.1
    have h2 : lastG l j < g.1 := h2
    omega
  · cases hj
/-- is one of the numbers in a gang ahead -/
theorem dof_pos {l : List Gm} (h : ∀ g ∈ l, 0 < g.1) (v : Int) : (0 < dofV l v) ↔ ∃ g ∈ l, v ∈ g.2 := by
  unfold dofV
  cases hf : l.find? (hasV v) with
  | none =>
    dsimp only
    constructor
    · intro h; omega
    · rintro ⟨g, hg, hv⟩
      have := List.find?_eq_none.1 hf g hg
      exact absurd (has_iff.2 hv) this
  | some g =>
    dsimp only
    have h1 := List.find?_some hf
    have h2 := List.mem_of_find?_eq_some hf
    exact ⟨fun _ => ⟨g, h2, has_iff.1 h1⟩, fun _ => h g h2⟩
theorem dof_same {l : List Gm} (h : rightG l = true) (v : Int) : ofV l v = (dofV l v, decide (0 < dofV l v)) := by
  unfold ofV fndV dofV
  rw [if_pos h]
  cases hf : l.find? (hasV v) with
  | none => rfl
  | some g =>
    dsimp only
    have h2 := List.mem_of_find?_eq_some hf
    have := ((right_all h).1 g h2).1
    rw [decide_eq_true this]
theorem okG_doc {l : List Gm} {k : Nat} {g : Gm} (hR : rightK l k = true) : okG l k g = (decide (lastG l k < g.1) && decide (g.1 ≤ 8) && membersB g.2 && g.2.all fun v => !decide (0 < dofV (l.take k) v)) := by
  rw [Bool.eq_iff_iff, okG_iff]
  simp only [Bool.and_eq_true, decide_eq_true_eq, List.all_eq_true, Bool.not_eq_true', decide_eq_false_iff_not, dof_pos (fun g hg => rightK_ids hR hg)]
  constructor
  · rintro ⟨h1, h2, h3, h4⟩
    exact ⟨⟨⟨h1, h2⟩, h3⟩, fun v hv ⟨x, hx, hvx⟩ => h4 x hx v hvx hv⟩
  · rintro ⟨⟨⟨h1, h2⟩, h3⟩, h4⟩
    exact ⟨h1, h2, h3, fun x hx v hvx hv => h4 v hv ⟨x, hx, hvx⟩⟩

end Go.Proofs.Ytglphgfaknofcaa
