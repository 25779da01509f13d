/-
  The contract of the document's Bytes, of pools that may be. No statement is proved here.
-/
import Derived.Test.YtnckfgnhlnichaaDoorVe
namespace Go.Proofs.YtnckfgnhlnichaaDoor
open Go.RowKit

/-- bytes as values -/
def ub (l : List Nat) : List Value := l.map fun (x : Nat) => .int .u8 (x : Int)
theorem length_ub (l : List Nat) : (ub l).length = l.length := by simp [ub]
theorem ub_append (a b : List Nat) : ub (a ++ b) = ub a ++ ub b := by simp [ub]
theorem ub_ones (l : List Nat) : ∀ u ∈ ub l, u.oneCell' = true := by
  intro u hu
  unfold ub at hu
  obtain ⟨x, _, rfl⟩ := List.mem_map.1 hu
  rfl
theorem ub_at {l : List Nat} {k : Nat} {v : Value} (h : (ub l)[k]? = some v) : ∃ x, l[k]? = some x ∧ v = .int .u8 ((x : Nat) : Int) := by
  unfold ub at h
  rw [List.getElem?_map] at h
  cases hl : l[k]? with
  | none => rw [hl] at h; cases h
  | some x => rw [hl] at h; injection h with h; exact ⟨x, rfl, h.symm⟩
theorem ubytes_len {w : World} {B n : Nat} {A : Option Addr} {l : List Nat} (h : Reads w B 1 A n (ub l)) : l.length = n := by
  have := h.1
  rw [length_ub] at this
  omega
theorem ubyte_at {w : World} {B n : Nat} {A : Option Addr} {l : List Nat} (h : Reads w B 1 A n (ub l)) {k : Nat} (hk : k < n) :
    ∃ ad x, A = some ad ∧ ad.block < B ∧ l[k]? = some x ∧ w.cell? (ad.add k) = some (.int .u8 ((x : Nat) : Int)) := by
  obtain ⟨ad, u, e, hb, hu, hc⟩ := h.at_ hk
  obtain ⟨x, hx, rfl⟩ := ub_at hu
  exact ⟨ad, x, e, hb, hx, hc⟩
theorem byte_info8 : (Tryd.prog.info? 5).map (fun i => (i.zero, i.size, i.bytes)) = some (some (.int .u8 0), 1, 1) := by kernel_rfl
theorem u8_nat {x : Nat} (h : x < 256) : IntKind.u8.wrap (x : Int) = (x : Int) := by simp [IntKind.wrap, IntKind.bits, IntKind.signed]; omega
theorem own_built {w : World} {base : Nat} {e : TypeId} (cur : Array Value) (n : Nat) (hb : base ≤ w.heap.size) (hn : cur.size = n) (hm : n ≤ maxLen) : (w.alloc (.cells cur e)).ownsRow base e 1 (.slice (some ⟨w.heap.size, 0, none⟩) n n) n cur.toList :=
  ⟨by simp [hn], .inr ⟨w.heap.size, n, cur, rfl, hb, heap_alloc_new w _, Nat.le_refl _, hm, by omega, by rw [Nat.mul_one, ← hn]; exact List.take_length⟩⟩
theorem reads_b1 (w : World) (t : TypeId) (x : Nat) {g : Nat} (hg : g = w.heap.size) : Reads (w.alloc (.cells #[.int .u8 (x : Int)] t)) (w.alloc (.cells #[.int .u8 (x : Int)] t)).heap.size 1 (some ⟨g, 0, none⟩) 1 (ub [x]) := by
  subst hg
  refine ⟨rfl, fun _ => ⟨_, rfl, by simp, fun j u hu => ?_⟩⟩
  have hb := Blk.new w t #[.int .u8 (x : Int)]
  match j, hu with
  | 0, hu => simp [ub] at hu; subst hu; exact hb.cell 0
  | j + 1, hu => simp [ub] at hu
/-- a call answers a row of bytes in memory of its own -/
def TellsU (w : World) (l : List Nat) (e : Ending) (w' : World) : Prop :=
  ∃ A c, e = .returned (.slice A l.length c) ∧ w'.ownsRow w.heap.size 5 1 (.slice A l.length c) l.length (ub l) ∧ Below w.heap.size w w'
/-- pools' bytes -/
def bytesP (l : List Nat) : List Nat := l.length :: l


end Go.Proofs.YtnckfgnhlnichaaDoor
