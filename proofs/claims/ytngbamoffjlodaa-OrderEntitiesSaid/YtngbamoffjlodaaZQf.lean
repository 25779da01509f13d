/-
  OrderTurned's walk: whatever the order in which gangs are handed in, the entities are the same. No statement is proved here.
-/
import Derived.Test.YtngbamoffjlodaaZQe
namespace Go.Proofs.Ytngbamoffjlodaa
open Go.RowKit Go.Maps

theorem mem_flat_len : ∀ {l : List Et} {x : Et}, x ∈ l → x.1.length ≤ (l.flatMap fun x => x.1).length
  | y :: l, x, h => by
    rw [List.flatMap_cons, List.length_append]
    rcases List.mem_cons.1 h with e | e
    · subst e; omega
    · have := mem_flat_len e; omega
theorem entR_mem_len {qs : List Rn} {ws : List Wt} {gs : List (List Int)} (hU : UQ qs) {x : Et} (hx : x ∈ entR qs ws gs) : x.1.length ≤ 16 := by
  unfold entR at hx
  split at hx
  · rename_i h
    obtain ⟨q1, q2, q3⟩ := chkO_ok h
    have hL := lg_of hU q1 q2
    have h1 := mem_flat_len ((sortE_perm _).mem_iff.1 hx)
    rw [(ents_ids hL q3).length_eq] at h1
    unfold idsP at h1
    rw [List.length_map, pts_len q2.len] at h1
    have := q1.len
    omega
  · cases hx
theorem ES.kept {w w' : World} {B : Nat} {A : Option Addr} {n c : Nat} {E : List En} (h : ES w B A n c E) {g N : Nat} (hg : w.grownBy w' (some g)) (hN : N ≤ g) (hl : ∀ j, (Value.slice A n c).ownBlock = some j → j < N) (hm : ∀ e ∈ E, ∀ j, (slE e).ownBlock = some j → j < N) : ES w' B A n c E := by
  refine ⟨h.row.kept hg ?_, fun e he => (h.mem e he).kept hg ?_, h.ne⟩
  · cases ho : (Value.slice A n c).ownBlock with
    | none => exact .inl rfl
    | some k => exact .inr (fun e2 => by have := hl k ho; have := Option.some.inj e2; omega)
  · cases ho : (slE e).ownBlock with
    | none => exact .inl rfl
    | some k => exact .inr (fun e2 => by have := hm e he k ho; have := Option.some.inj e2; omega)

end Go.Proofs.Ytngbamoffjlodaa
