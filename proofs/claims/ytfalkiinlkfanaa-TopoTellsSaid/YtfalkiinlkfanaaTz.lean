/-
  Rows that lie apart from a block. No statement is proved here.
-/
import Derived.Test.YtfalkiinlkfanaaTp
namespace Go.Proofs.Ytfalkiinlkfanaa
open Go.RowKit

/-- no part of the row lies in block g -/
def NotIn (A : Option Addr) (n g : Nat) : Prop := ∀ ad, A = some ad → 0 < n → ad.block ≠ g
theorem NotIn.far {V w' : World} {size n g : Nat} {A : Option Addr} {xs : List Value} (h : FarReads V w' size A n xs) (hg : g < V.heap.size) : NotIn A n g := fun ad hA h0 => by have := h.2 ad hA h0; omega
theorem NotIn.new {V : World} {A : Option Addr} {n c : Nat} {l : List (Int × Int)} (h : At V A n c l) : NotIn A n V.heap.size := fun ad hA h0 => by
  obtain ⟨ad', e, hb, _⟩ := h.1.2 h0
  rw [hA] at e
  obtain rfl := Option.some.inj e
  omega
theorem At.set {w : World} {A : Option Addr} {n c g : Nat} {l : List (Int × Int)} (h : At w A n c l) (hx : NotIn A n g) (u : Value) : At (w.setCell ⟨g, 0, none⟩ u) A n c l := by
  refine ⟨⟨h.1.1, fun h0 => ?_⟩, h.2⟩
  obtain ⟨ad, e, hb, hc⟩ := h.1.2 h0
  refine ⟨ad, e, by simpa [World.setCell] using hb, fun j v hv => ?_⟩
  refine (World.cell?_setCell_other w ⟨g, 0, none⟩ _ u (fun he => ?_)).trans (hc j v hv)
  have h1 := congrArg Addr.block he
  rw [block_of_add] at h1
  first | exact hx ad e h0 h1 | exact hx ad e h0 h1.symm
theorem at_far {V w' : World} {A : Option Addr} {n c : Nat} {l : List (Int × Int)} (h : FarReads V w' 2 A n (svs l)) (hc : n ≤ c) (hl : n = l.length) (h9 : l.length ≤ 9) : At w' A n c l := ⟨h.1, hc, by omega⟩

end Go.Proofs.Ytfalkiinlkfanaa
