/-
  Words for a block that is known whole. No statement is proved here.
-/
import Derived.Test.YtkbgpmgnkegipaaDoorRows
import Derived.WalkKit
import Derived.WalkSmall
import Derived.Deep.Draws
import Derived.Laws.AppendOwn
import Derived.Laws.Tables
import Derived.Laws.Rows
namespace Go.Proofs.YtkbgpmgnkegipaaDoor
open Go.RowKit

def Blk (w : World) (g : Nat) (t : TypeId) (cs : Array Value) : Prop := w.heap[g]? = some (.cells cs t (0, 0))
section
variable {w w' : World} {g : Nat} {t : TypeId} {cs : Array Value}
theorem Blk.lt (h : Blk w g t cs) : g < w.heap.size := by
  rcases Nat.lt_or_ge g w.heap.size with hlt | hge
  · exact hlt
  · unfold Blk at h; rw [Array.getElem?_eq_none hge] at h; cases h
theorem Blk.cell (h : Blk w g t cs) (i : Nat) : w.cell? ⟨g, i, none⟩ = cs[i]? := cell_of_row w g i cs t (0, 0) h
theorem Blk.frozen (h : Blk w g t cs) (i : Nat) : w.frozen? ⟨g, i, none⟩ = false := by
  unfold Blk at h
  simp [World.frozen?, h]
theorem Blk.new (w : World) (t : TypeId) (cs : Array Value) : Blk (w.alloc (.cells cs t)) w.heap.size t cs := heap_alloc_new w _
theorem Blk.drewN (h : Blk w g t cs) (n : Nat) : Blk (w.drewN n) g t cs := h
theorem Blk.alloc (h : Blk w g t cs) (o : Obj) : Blk (w.alloc o) g t cs := (Below.heap_alloc w o g h.lt).trans h
theorem Blk.set_ (h : Blk w g t cs) (i : Nat) (u : Value) : Blk (w.setCell ⟨g, i, none⟩ u) g t (cs.setIfInBounds i u) := by
  unfold Blk at h ⊢
  simp [World.setCell, Array.getElem?_modify, h]
theorem Blk.below {B : Nat} (h : Blk w g t cs) (hb : Below B w w') (hg : g < B) : Blk w' g t cs := (hb.block g hg).trans h
theorem Blk.row {cs' : Array Value} (h : Blk w g t cs) : Blk (w.setRow g cs') g t cs' := by
  unfold Blk at h ⊢
  simp [World.setRow, Array.getElem?_modify, h]
theorem Blk.other {g' : Nat} {cs' : Array Value} (h : Blk w g t cs) (hg : g ≠ g') : Blk (w.setRow g' cs') g t cs := by
  unfold Blk at h ⊢
  simp [World.setRow, Array.getElem?_modify, h]
  intro e; exact absurd e.symm hg
theorem Blk.far (h : Blk w g t cs) {p : Addr} (hp : g ≠ p.block) (u : Value) : Blk (w.setCell p u) g t cs := (Below.heap_setCell w p u g hp).trans h
theorem below_row {B g' : Nat} {cs' : Array Value} {a : World} (h : Below B a w) (hg : B ≤ g') : Below B a (w.setRow g' cs') :=
  ⟨h.os, h.tape, h.output, by have := h.size; simpa [World.setRow] using this, fun k hk => by
    have : (w.setRow g' cs').heap[k]? = w.heap[k]? := by
      simp only [World.setRow, Array.getElem?_modify]
      rw [if_neg (by omega)]
    rw [this]; exact h.block k hk⟩
theorem Blk.set2 {a b x y : Value} (h : Blk w g t #[a, b]) : Blk ((w.setCell ⟨g, 0, none⟩ x).setCell ⟨g, 1, none⟩ y) g t #[x, y] := by
  have := (h.set_ 0 x).set_ 1 y
  simpa using this
theorem Blk.set3 {a b x y z : Value} (h : Blk w g t #[a, b]) : Blk (((w.setCell ⟨g, 0, none⟩ x).setCell ⟨g, 1, none⟩ y).setCell ⟨g, 1, none⟩ z) g t #[x, z] := by
  have := ((h.set_ 0 x).set_ 1 y).set_ 1 z
  simpa using this
theorem blks2 (w : World) (t1 t2 : TypeId) (a b : Array Value) : Blk ((w.alloc (.cells a t1)).alloc (.cells b t2)) w.heap.size t1 a ∧ Blk ((w.alloc (.cells a t1)).alloc (.cells b t2)) (w.heap.size + 1) t2 b ∧
    Below w.heap.size w ((w.alloc (.cells a t1)).alloc (.cells b t2)) :=
  ⟨(Blk.new w t1 a).alloc _, by have := Blk.new (w.alloc (.cells a t1)) t2 b; simpa using this, ((Below.refl _ _).alloc (Nat.le_refl _) _).alloc (by simp) _⟩
theorem blks3 (w : World) (t1 t2 t3 : TypeId) (a b c : Array Value) : Blk (((w.alloc (.cells a t1)).alloc (.cells b t2)).alloc (.cells c t3)) w.heap.size t1 a ∧
    Blk (((w.alloc (.cells a t1)).alloc (.cells b t2)).alloc (.cells c t3)) (w.heap.size + 1) t2 b ∧ Blk (((w.alloc (.cells a t1)).alloc (.cells b t2)).alloc (.cells c t3)) (w.heap.size + 1 + 1) t3 c ∧
    Below w.heap.size w (((w.alloc (.cells a t1)).alloc (.cells b t2)).alloc (.cells c t3)) :=
  ⟨((Blk.new w t1 a).alloc _).alloc _, by have := (Blk.new (w.alloc (.cells a t1)) t2 b).alloc (.cells c t3); simpa using this,
    by have := Blk.new ((w.alloc (.cells a t1)).alloc (.cells b t2)) t3 c; simpa using this,
    (((Below.refl _ _).alloc (Nat.le_refl _) _).alloc (by simp) _).alloc (by simp; omega) _⟩
theorem blks4 (w : World) (t1 t2 t3 t4 : TypeId) (a b c d : Array Value) : Blk ((((w.alloc (.cells a t1)).alloc (.cells b t2)).alloc (.cells c t3)).alloc (.cells d t4)) w.heap.size t1 a ∧
    Blk ((((w.alloc (.cells a t1)).alloc (.cells b t2)).alloc (.cells c t3)).alloc (.cells d t4)) (w.heap.size + 1) t2 b ∧ Blk ((((w.alloc (.cells a t1)).alloc (.cells b t2)).alloc (.cells c t3)).alloc (.cells d t4)) (w.heap.size + 1 + 1) t3 c ∧
    Blk ((((w.alloc (.cells a t1)).alloc (.cells b t2)).alloc (.cells c t3)).alloc (.cells d t4)) (w.heap.size + 1 + 1 + 1) t4 d ∧
    Below w.heap.size w ((((w.alloc (.cells a t1)).alloc (.cells b t2)).alloc (.cells c t3)).alloc (.cells d t4)) := by
  obtain ⟨h1, h2, h3, hb⟩ := blks3 w t1 t2 t3 a b c
  exact ⟨h1.alloc _, h2.alloc _, h3.alloc _, by have := Blk.new (((w.alloc (.cells a t1)).alloc (.cells b t2)).alloc (.cells c t3)) t4 d; simpa using this, hb.alloc hb.size _⟩
theorem blks6 (w : World) (t : TypeId) (a b c d e f : Array Value) : Blk ((((((w.alloc (.cells a t)).alloc (.cells b t)).alloc (.cells c t)).alloc (.cells d t)).alloc (.cells e t)).alloc (.cells f t)) (w.heap.size) t a ∧
    Blk ((((((w.alloc (.cells a t)).alloc (.cells b t)).alloc (.cells c t)).alloc (.cells d t)).alloc (.cells e t)).alloc (.cells f t)) (w.heap.size + 1) t b ∧
    Blk ((((((w.alloc (.cells a t)).alloc (.cells b t)).alloc (.cells c t)).alloc (.cells d t)).alloc (.cells e t)).alloc (.cells f t)) (w.heap.size + 1 + 1) t c ∧
    Blk ((((((w.alloc (.cells a t)).alloc (.cells b t)).alloc (.cells c t)).alloc (.cells d t)).alloc (.cells e t)).alloc (.cells f t)) (w.heap.size + 1 + 1 + 1) t d ∧
    Blk ((((((w.alloc (.cells a t)).alloc (.cells b t)).alloc (.cells c t)).alloc (.cells d t)).alloc (.cells e t)).alloc (.cells f t)) (w.heap.size + 1 + 1 + 1 + 1) t e ∧
    Blk ((((((w.alloc (.cells a t)).alloc (.cells b t)).alloc (.cells c t)).alloc (.cells d t)).alloc (.cells e t)).alloc (.cells f t)) (w.heap.size + 1 + 1 + 1 + 1 + 1) t f ∧ Below w.heap.size w ((((((w.alloc (.cells a t)).alloc (.cells b t)).alloc (.cells c t)).alloc (.cells d t)).alloc (.cells e t)).alloc (.cells f t)) := by
  obtain ⟨h1, h2, h3, h4, hb⟩ := blks4 w t t t t a b c d
  have h5 := Blk.new ((((w.alloc (.cells a t)).alloc (.cells b t)).alloc (.cells c t)).alloc (.cells d t)) t e
  have h6 := Blk.new (((((w.alloc (.cells a t)).alloc (.cells b t)).alloc (.cells c t)).alloc (.cells d t)).alloc (.cells e t)) t f
  have s5 : ((((w.alloc (.cells a t)).alloc (.cells b t)).alloc (.cells c t)).alloc (.cells d t)).heap.size = w.heap.size + 1 + 1 + 1 + 1 := by simp
  have s6 : (((((w.alloc (.cells a t)).alloc (.cells b t)).alloc (.cells c t)).alloc (.cells d t)).alloc (.cells e t)).heap.size = w.heap.size + 1 + 1 + 1 + 1 + 1 := by simp
  rw [s5] at h5
  rw [s6] at h6
  exact ⟨(h1.alloc _).alloc _, (h2.alloc _).alloc _, (h3.alloc _).alloc _, (h4.alloc _).alloc _, h5.alloc _, h6, (hb.alloc hb.size _).alloc (by rw [s6]; omega) _⟩
end

end Go.Proofs.YtkbgpmgnkegipaaDoor
