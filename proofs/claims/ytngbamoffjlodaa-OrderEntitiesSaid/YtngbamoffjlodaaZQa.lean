/-
  What is laid in memory of its own as what may be asked; entities without gangs; the map of who is fresh. No statement is proved here.
-/
import Derived.Test.YtngbamoffjlodaaZPf
import Derived.Test.YtngbamoffjlodaaZUf
namespace Go.Proofs.Ytngbamoffjlodaa
open Go.RowKit Go.Maps

theorem own_nc {w : World} {base k n m c : Nat} {e : TypeId} {A : Option Addr} {xs : List Value} (h : w.ownsRow base e k (.slice A m c) n xs) : m ≤ c := by
  rcases h.2 with ⟨h2, h3⟩ | ⟨g, cap, cur, h2, _, _, h3, _⟩
  · injection h2 with _ h4 h5; omega
  · injection h2 with _ h4 h5; omega
theorem qr_own {w : World} {base n c : Nat} {A : Option Addr} {l : List Rn} (h : w.ownsRow base 59 5 (.slice A n c) n (flat rv l)) (hn : n ≤ 1000) (hU : UQ l) : QR w A n c l := ⟨Reads.of_own h, own_nc h, hn, hU⟩
theorem wt_own {w : World} {base n c : Nat} {A : Option Addr} {l : List Wt} (h : w.ownsRow base 67 3 (.slice A n c) n (flat wtv l)) (hn : n ≤ 1000) (hU : ∀ x ∈ l, x.2.1 < 2 ^ 64) : WT w A n c l := ⟨Reads.of_own h, own_nc h, hn, hU⟩
theorem take_uq {l : List Rn} (h : UQ l) (k : Nat) : UQ (l.take k) := fun r hr => h r (List.mem_of_mem_take hr)
theorem take_wu {l : List Wt} (h : ∀ x ∈ l, x.2.1 < 2 ^ 64) (k : Nat) : ∀ x ∈ l.take k, x.2.1 < 2 ^ 64 := fun r hr => h r (List.mem_of_mem_take hr)
theorem gw_own {w : World} {B n c : Nat} {A : Option Addr} {G : List Gg} (h : GO w B A n c G) (hn : n ≤ 17) (hm : ∀ g ∈ G, g.2.1 ≤ 17) : GW w A n G :=
  ⟨Reads.of_own h.row, by omega, fun g hg => ⟨⟨Reads.of_own (h.mem g hg), by have := hm g hg; omega⟩, by have := hm g hg; omega⟩⟩

/-! ### without gangs -/
/-! ### the map of who is fresh -/
/-- block b is a map of at most n entries: who of L is fresh -/
def FM (w : World) (b n : Nat) (L : List Pt) : Prop :=
  ∃ D : DataW Value, w.ownsMap Try.prog 3 heldE b n D ∧ n ≤ 1000 ∧ ∀ i : Int, has D (.int .i64 i) = (kf L i).isSome ∧ ∀ p, kf L i = some p → ∀ z, D.atKey (.int .i64 i) z = .held (.bool p.2.2.2)
section
variable {w w' : World} {b n : Nat} {L : List Pt}
theorem FM.made (w : World) : FM (w.alloc (.map #[] 0)) w.heap.size 0 [] := ⟨_, World.ownsMap_made _ _ _ _, by omega, fun i => ⟨rfl, fun p h => by cases h⟩⟩
theorem FM.lt (h : FM w b n L) : b < w.heap.size := h.choose_spec.1.lt
theorem FM.below (h : FM w b n L) (hb : Below w.heap.size w w') : FM w' b n L := by
  have hlt := h.lt
  obtain ⟨D, ⟨es, clock, hh, F, hs, hD⟩, h2⟩ := h
  exact ⟨D, ⟨es, clock, (hb.block b hlt).trans hh, F, hs, hD⟩, h2⟩
theorem FM.put_view {D : DataW Value} (hD : IsMap D) (hv : ∀ i : Int, has D (.int .i64 i) = (kf L i).isSome ∧ ∀ p, kf L i = some p → ∀ z, D.atKey (.int .i64 i) z = .held (.bool p.2.2.2)) {p : Pt} (hn : kf L p.1 = none) (i : Int) :
    has (D.put (.int .i64 p.1) (.held (.bool p.2.2.2))) (.int .i64 i) = (kf (L ++ [p]) i).isSome ∧ ∀ q, kf (L ++ [p]) i = some q → ∀ z, (D.put (.int .i64 p.1) (.held (.bool p.2.2.2))).atKey (.int .i64 i) z = .held (.bool q.2.2.2) := by
  have hk : kf (L ++ [p]) i = (kf L i).or (if p.1 = i then some p else none) := by
    unfold kf
    rw [List.find?_append]
    congr 1
    rw [List.find?_cons]
    by_cases e : p.1 = i
    · rw [if_pos e, show (p.1 == i) = true from by simpa using e]
    · rw [if_neg e, show (p.1 == i) = false from by simpa using e]
      rfl
  rw [hk]
  by_cases e : p.1 = i
  · subst e
    rw [hn, if_pos rfl, has_put_same hD (key_int _ _)]
    refine ⟨rfl, fun q hq z => ?_⟩
    rw [atKey_put_same hD (key_int _ _)]
    rw [show p = q from Option.some.inj hq]
  · rw [if_neg e, has_put_other (int_lit fun h => e h.symm), Option.or_none]
    refine ⟨(hv i).1, fun q hq z => ?_⟩
    rw [atKey_put_other (int_lit fun h => e h.symm)]
    exact (hv i).2 q hq z
end

end Go.Proofs.Ytngbamoffjlodaa
