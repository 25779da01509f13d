/-
  The contract of the document's Decode. No statement is proved here.
-/
import Derived.Test.YtnckfgnhlnichaaDoorVh
namespace Go.Proofs.YtnckfgnhlnichaaDoor
open Go.RowKit

theorem reads_behind1 {w : World} {B n c : Nat} {ad : Addr} {l : List Nat} (h : Reads w B 1 (some ad) n (ub l)) (hC : n ≤ c) : Reads w B 1 (if c = 1 then some ad else some (⟨ad.block, ad.off + 1, none⟩ : Addr)) (n - 1) (ub (l.drop 1)) := by
  have hl := ubytes_len h
  refine ⟨by rw [length_ub, List.length_drop, hl]; omega, fun h0 => ?_⟩
  obtain ⟨ad', e, hb, hc⟩ := h.2 (by omega)
  obtain rfl := Option.some.inj e
  rw [if_neg (by omega)]
  refine ⟨ad.add 1, rfl, by rw [block_of_add]; exact hb, fun i u hu => ?_⟩
  rw [add_of_add]
  refine hc _ u ?_
  unfold ub at hu ⊢
  rw [List.map_drop, List.getElem?_drop] at hu
  exact hu
theorem own_reads' {w : World} {base n c size : Nat} {e : TypeId} {A : Option Addr} {xs : List Value} (h : w.ownsRow base e size (.slice A n c) n xs) : Reads w w.heap.size size A n xs := Reads.of_own h
/-- the pools of bytes -/
def decodeP (bs : List Nat) : List Nat × Int :=
  if bs.length < 1 ∨ bs.length < 1 + bs.getD 0 0 then ([], 7)
  else if bs.length ≠ 1 + bs.getD 0 0 ∨ rightP (bs.drop 1) = false then ([], 180)
  else (bs.drop 1, 0)


end Go.Proofs.YtnckfgnhlnichaaDoor
