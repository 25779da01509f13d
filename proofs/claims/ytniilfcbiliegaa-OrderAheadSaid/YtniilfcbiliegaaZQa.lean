/-
  What is laid in memory of its own as what may be asked; entities without gangs; the map of who is fresh. No statement is proved here.
-/
import Derived.Test.YtniilfcbiliegaaZPf
import Derived.Test.YtniilfcbiliegaaZOr
namespace Go.Proofs.Ytniilfcbiliegaa
open Go.RowKit Go.Maps

theorem own_nc {w : World} {base k n m c : Nat} {e : TypeId} {A : Option Addr} {xs : List Value} (h : w.ownsRow base e k (.slice A m c) n xs) : m ≤ c := by
  rcases h.2 with ⟨h2, h3⟩ | ⟨g, cap, cur, h2, _, _, h3, _⟩
  · injection h2 with _ h4 h5; omega
  · injection h2 with _ h4 h5; omega
theorem qr_own {w : World} {base n c : Nat} {A : Option Addr} {l : List Rn} (h : w.ownsRow base 59 5 (.slice A n c) n (flat rv l)) (hn : n ≤ 1000) (hU : UQ l) : QR w A n c l := ⟨Reads.of_own h, own_nc h, hn, hU⟩
theorem wt_own {w : World} {base n c : Nat} {A : Option Addr} {l : List Wt} (h : w.ownsRow base 67 3 (.slice A n c) n (flat wtv l)) (hn : n ≤ 1000) (hU : ∀ x ∈ l, x.2.1 < 2 ^ 64) : WT w A n c l := ⟨Reads.of_own h, own_nc h, hn, hU⟩
theorem take_uq {l : List Rn} (h : UQ l) (k : Nat) : UQ (l.take k) := fun r hr => h r (List.mem_of_mem_take hr)
theorem take_wu {l : List Wt} (h : ∀ x ∈ l, x.2.1 < 2 ^ 64) (k : Nat) : ∀ x ∈ l.take k, x.2.1 < 2 ^ 64 := fun r hr => h r (List.mem_of_mem_take hr)
theorem gw_own {w : World} {B n c : Nat} {A : Option Addr} {G : List Gg} (h : GO w B A n c G) (hn : n ≤ 17) (hm : ∀ g ∈ G, g.2.1 ≤ 17) : GW w A n G :=
  ⟨Reads.of_own h.row, by omega, fun g hg => ⟨⟨Reads.of_own (h.mem g hg), by have := hm g hg; omega⟩, by have := hm g hg; omega⟩⟩

/-! ### without gangs -/
theorem gr_nil : GR [] := ⟨(fun g hg => by cases hg), (fun g hg => by cases hg), (fun g hg => by cases hg), List.Pairwise.nil⟩
theorem sing_nil : ∀ L : List Pt, singE [] L = L.map fun p => joinP [p]
  | [] => rfl
  | p :: L => by
    have ih := sing_nil L
    unfold singE at ih ⊢
    rw [List.flatMap_cons, ih, if_pos (show aloneB [] p.1 = true from rfl)]
    rfl
theorem ents_nil (L : List Pt) : entsP L [] = L.map fun p => joinP [p] := by
  unfold entsP
  rw [sing_nil]
  rfl
/-- entities of one member each, in order -/
structure Sing (L : List Pt) (E : List Et) : Prop where
  len : E.length = L.length
  one : ∀ x ∈ E, ∃ p ∈ L, x.1 = [p.1] ∧ x.2.2.2 = p.2.2.2 ∧ x.2.1.1 < 2 ^ 64 ∧ x.2.1.2.1 < 2 ^ 64 ∧ x.2.1.2.2 < 2 ^ 64
  next : ∀ (k : Nat) (x y : Et), E[k]? = some x → E[k + 1]? = some y → (y.2.2.2 = true → x.2.2.2 = true) ∧ (y.2.2.2 = x.2.2.2 → cmpT x.2.1 y.2.1 ≤ 0)
theorem sing_of {L : List Pt} (hL : LG L) : Sing L (sortE (entsP L [])) := by
  have hf : ∀ y ∈ entsP L [], canE y = true := fun y hy => (ents_facts hL hy).1
  have hA := sorted_ahead (ents_diff hL gr_nil) (ents_nodup hL gr_nil) hf
  refine ⟨?_, fun x hx => ?_, fun k x y hx hy => ?_⟩
  · rw [(sortE_perm _).length_eq, ents_nil, List.length_map]
  · have hm := (sortE_perm _).mem_iff.1 hx
    have hu := (ents_facts hL hm).2
    rw [ents_nil] at hm
    obtain ⟨p, hp, rfl⟩ := List.mem_map.1 hm
    exact ⟨p, hp, rfl, by simp [joinP, freshP], hu⟩
  · obtain ⟨h1, e1⟩ := List.getElem?_eq_some_iff.1 hx
    obtain ⟨h2, e2⟩ := List.getElem?_eq_some_iff.1 hy
    have h := (List.pairwise_iff_getElem.1 hA) k (k + 1) h1 h2 (by omega)
    rw [e1, e2] at h
    unfold standI at h
    have hc := lex_le (Int.le_of_lt h)
    refine ⟨fun hy1 => ?_, fun e => ?_⟩
    · cases hx1 : x.2.2.2 with
      | true => rfl
      | false =>
        rw [hx1, hy1] at hc
        exact absurd hc (by decide)
    · rw [lex_zero (cmpF_zero.2 e.symm)] at h
      exact lex_le (Int.le_of_lt h)

/-! ### the map of who is fresh -/
set_option maxRecDepth 100000 in
theorem zero_bool (w : World) : (zeroValue 4).run Try.prog w = .ok (.bool false) w := by kernel_rfl
/-- block b is a map of at most n entries: who of L is fresh -/
def FM (w : World) (b n : Nat) (L : List Pt) : Prop :=
  ∃ D : DataW Value, w.ownsMap Try.prog 3 heldE b n D ∧ n ≤ 1000 ∧ ∀ i : Int, has D (.int .i64 i) = (kf L i).isSome ∧ ∀ p, kf L i = some p → ∀ z, D.atKey (.int .i64 i) z = .held (.bool p.2.2.2)
section
variable {w w' : World} {b n : Nat} {L : List Pt}
theorem FM.made (w : World) : FM (w.alloc (.map #[] 0)) w.heap.size 0 [] := ⟨_, World.ownsMap_made _ _ _ _, by omega, fun i => ⟨rfl, fun p h => by cases h⟩⟩
theorem FM.lt (h : FM w b n L) : b < w.heap.size := h.choose_spec.1.lt
theorem FM.below (h : FM w b n L) (hb : Below w.heap.size w w') : FM w' b n L := by
  have hlt := h.lt
  obtain ⟨D, ⟨es, clock, hh, F, hs, hD⟩, h2⟩ := h
  exact ⟨D, ⟨es, clock, (hb.block b hlt).trans hh, F, hs, hD⟩, h2⟩
theorem FM.put_view {D : DataW Value} (hD : IsMap D) (hv : ∀ i : Int, has D (.int .i64 i) = (kf L i).isSome ∧ ∀ p, kf L i = some p → ∀ z, D.atKey (.int .i64 i) z = .held (.bool p.2.2.2)) {p : Pt} (hn : kf L p.1 = none) (i : Int) :
    has (D.put (.int .i64 p.1) (.held (.bool p.2.2.2))) (.int .i64 i) = (kf (L ++ [p]) i).isSome ∧ ∀ q, kf (L ++ [p]) i = some q → ∀ z, (D.put (.int .i64 p.1) (.held (.bool p.2.2.2))).atKey (.int .i64 i) z = .held (.bool q.2.2.2) := by
  have hk : kf (L ++ [p]) i = (kf L i).or (if p.1 = i then some p else none) := by
    unfold kf
    rw [List.find?_append]
    congr 1
    rw [List.find?_cons]
    by_cases e : p.1 = i
    · rw [if_pos e, show (p.1 == i) = true from by simpa using e]
    · rw [if_neg e, show (p.1 == i) = false from by simpa using e]
      rfl
  rw [hk]
  by_cases e : p.1 = i
  · subst e
    rw [hn, if_pos rfl, has_put_same hD (key_int _ _)]
    refine ⟨rfl, fun q hq z => ?_⟩
    rw [atKey_put_same hD (key_int _ _)]
    rw [show p = q from Option.some.inj hq]
  · rw [if_neg e, has_put_other (int_lit fun h => e h.symm), Option.or_none]
    refine ⟨(hv i).1, fun q hq z => ?_⟩
    rw [atKey_put_other (int_lit fun h => e h.symm)]
    exact (hv i).2 q hq z
theorem FM.look (h : FM w b n L) {i : Int} {p : Pt} (hp : kf L i = some p) (hkey : keyOf Try.prog 3 (.int .i64 i) = some (.int .i64 i)) :
    (Instr.lookup 65 (.map (some b)) (.int .i64 i) false).run Try.prog w = .ok (.bool p.2.2.2) w := by
  obtain ⟨D, own, _, hv⟩ := h
  obtain ⟨v, ps, hrun, hR⟩ := own.lookup (int_keyed Try.underlying3) Try.underlying65 (zero_bool w) (zp := []) rfl hkey
  rw [(hv i).2 p hp] at hR
  have e := heldE_inj hR
  subst e
  exact hrun
end

end Go.Proofs.Ytniilfcbiliegaa
