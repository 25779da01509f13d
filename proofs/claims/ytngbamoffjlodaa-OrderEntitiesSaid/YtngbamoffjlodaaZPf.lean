/-
  OrderOne's walk: Ahead is one order. No statement is proved here.
-/
import Derived.Test.YtngbamoffjlodaaZPc
import Derived.Test.YtngbamoffjlodaaZPe
namespace Go.Proofs.Ytngbamoffjlodaa
open Go.RowKit Go.Maps

/-- entities that can be asked -/
structure EQ (w : World) (A : Option Addr) (n : Nat) (E : List En) : Prop where
  row : Reads w w.heap.size 6 A n (flat ev E)
  small : n ≤ 100
  mem : ∀ e ∈ E, Reads w w.heap.size 1 e.1.1 e.1.2.1 (vs e.1.2.2.2)
  u64 : ∀ e ∈ E, e.2.1.1 < 2 ^ 64 ∧ e.2.1.2.1 < 2 ^ 64 ∧ e.2.1.2.2 < 2 ^ 64
theorem EQ.below {w w' : World} {A : Option Addr} {n : Nat} {l : List En} (h : EQ w A n l) (hb : Below w.heap.size w w') : EQ w' A n l :=
  ⟨(h.row.below hb).more hb.size, h.small, fun e he => ((h.mem e he).below hb).more hb.size, h.u64⟩
theorem EQ.len {w : World} {A : Option Addr} {n : Nat} {l : List En} (h : EQ w A n l) : l.length = n := by
  have h1 := h.row.1
  rw [length_flat ev length_ev] at h1
  omega
theorem EQ.at_ {w : World} {A : Option Addr} {n : Nat} {l : List En} (h : EQ w A n l) {k : Nat} {A2 : Option Addr} {n2 c2 : Nat} {is : List Int} {a b x o : Nat} {f : Bool} (hx : l[k]? = some ((A2, n2, c2, is), (a, b, x), o, f)) :
    ∃ ad, A = some ad ∧ ad.block < w.heap.size ∧ w.cell? (ad.add (k * 6)) = some (.slice A2 n2 c2) ∧ w.cell? ⟨(ad.add (k * 6)).block, (ad.add (k * 6)).off + 1, none⟩ = some (.int .u64 (a : Int)) ∧ w.cell? ⟨(ad.add (k * 6)).block, (ad.add (k * 6)).off + 2, none⟩ = some (.int .u64 (b : Int)) ∧
      w.cell? ⟨(ad.add (k * 6)).block, (ad.add (k * 6)).off + 3, none⟩ = some (.int .u64 (x : Int)) ∧ w.cell? ⟨(ad.add (k * 6)).block, (ad.add (k * 6)).off + 4, none⟩ = some (.int .u64 (o : Int)) ∧ w.cell? ⟨(ad.add (k * 6)).block, (ad.add (k * 6)).off + 5, none⟩ = some (.bool f) := by
  obtain ⟨ad, e, hb, hc⟩ := h.row.elem ev length_ev hx (by omega)
  have s0 := hc 0 _ rfl
  have s1 := hc 1 _ rfl
  have s2 := hc 2 _ rfl
  have s3 := hc 3 _ rfl
  have s4 := hc 4 _ rfl
  have s5 := hc 5 _ rfl
  rw [Nat.add_zero] at s0
  rw [add_past ad (k * 6) 0] at s1
  rw [add_past ad (k * 6) 1] at s2
  rw [add_past ad (k * 6) 2] at s3
  rw [add_past ad (k * 6) 3] at s4
  rw [add_past ad (k * 6) 4] at s5
  exact ⟨ad, e, hb, s0, s1, s2, s3, s4, s5⟩
theorem EQ.len_mem {w : World} {A : Option Addr} {n : Nat} {E : List En} (h : EQ w A n E) {e : En} (he : e ∈ E) : e.1.2.2.2.length = e.1.2.1 := by have := (h.mem e he).1; rw [length_vs] at this; omega
theorem ES.eq {w : World} {B : Nat} {A : Option Addr} {n c : Nat} {E : List En} (h : ES w B A n c E) (hn : n ≤ 100) (hu : ∀ e ∈ E, e.2.1.1 < 2 ^ 64 ∧ e.2.1.2.1 < 2 ^ 64 ∧ e.2.1.2.2 < 2 ^ 64) : EQ w A n E := ⟨Reads.of_own h.row, hn, fun e he => Reads.of_own (h.mem e he), hu⟩
end Go.Proofs.Ytngbamoffjlodaa
