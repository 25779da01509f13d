/-
  Several texts as one.
-/
import Derived.Test.YtngbamoffjlodaaZQa
/-
  Gangs handed in in another order: plain mathematics; the library's Equal of equal numbers, Reverse of gangs. No statement is proved here.
-/
namespace Go.Proofs.Ytngbamoffjlodaa
open Go.RowKit Go.Maps

end Go.Proofs.Ytngbamoffjlodaa
/-
  Entities, whatever is handed in: one contract; how many there are, whose members they have. No statement is proved here.
-/
namespace Go.Proofs.Ytngbamoffjlodaa
open Go.RowKit Go.Maps

theorem ents_ids {L : List Pt} (hL : LG L) {gs : List (List Int)} (hG : GR gs) : ((entsP L gs).flatMap fun x => x.1).Perm (idsP L) :=
  (List.perm_ext_iff_of_nodup (ids_nodup hL hG) (rise_nodup (rise_ids.1 hL.rise))).2 fun _ => ids_mem hL
theorem flat_ids_len : ∀ {l : List Et}, (∀ x ∈ l, 0 < x.1.length) → l.length ≤ (l.flatMap fun x => x.1).length
  | [], _ => by simp
  | x :: l, h => by
    have ih := flat_ids_len (l := l) fun y hy => h y (by simp [hy])
    have h0 := h x (by simp)
    rw [List.flatMap_cons, List.length_append, List.length_cons]
    omega
theorem ents_len {L : List Pt} (hL : LG L) {gs : List (List Int)} (hG : GR gs) : (entsP L gs).length ≤ L.length := by
  have h1 := flat_ids_len (l := entsP L gs) fun x hx => (canE_iff.1 (ents_facts hL hx).1).1
  rw [(ents_ids hL hG).length_eq] at h1
  unfold idsP at h1
  rwa [List.length_map] at h1
/-- what Entities answers -/
def entR (qs : List Rn) (ws : List Wt) (gs : List (List Int)) : List Et := if chkO qs ws gs = 0 then sortE (entsP (pts qs ws) gs) else []
theorem entR_facts {qs : List Rn} {ws : List Wt} {gs : List (List Int)} (hU : UQ qs) : (∀ x ∈ entR qs ws gs, canE x = true ∧ x.2.1.1 < 2 ^ 64 ∧ x.2.1.2.1 < 2 ^ 64 ∧ x.2.1.2.2 < 2 ^ 64) ∧ (entR qs ws gs).length ≤ 16 := by
  unfold entR
  split
  · rename_i h
    obtain ⟨q1, q2, q3⟩ := chkO_ok h
    have hL := lg_of hU q1 q2
    refine ⟨fun x hx => ents_facts hL ((sortE_perm _).mem_iff.1 hx), ?_⟩
    rw [(sortE_perm _).length_eq]
    have h1 := ents_len hL q3
    rw [pts_len q2.len] at h1
    have h2 := q1.len
    omega
  · exact ⟨(fun x hx => by cases hx), by simp⟩
/-- entities in memory of their own, and why none -/
def EntAny (qs : List Rn) (ws : List Wt) (gs : List (List Int)) (w : World) (e : Ending) (w' : World) : Prop :=
  ∃ A n c E, e = .returned (.tuple #[.slice A n c, .int .i64 (chkO qs ws gs)]) ∧ ES w' w.heap.size A n c E ∧ E.map et = entR qs ws gs ∧ n ≤ 16 ∧ Below w.heap.size w w'
theorem entities_any (A : Option Addr) (n c : Nat) (qs : List Rn) (A' : Option Addr) (n' c' : Nat) (ws : List Wt) (A2 : Option Addr) (n2 c2 : Nat) (gs : List Gg) (w : World) (hG : QR w A n c qs) (hW : WT w A' n' c' ws) (hS : GW w A2 n2 gs) :
    Calls Try.prog 12 #[.agg #[.slice A n c], .slice A' n' c', .slice A2 n2 c2] w (EntAny qs ws (gsI gs) w) := by
  have hf := (entR_facts (qs := qs) (ws := ws) (gs := gsI gs) hG.ur).2
  by_cases hok : chkO qs ws (gsI gs) = 0
  · refine (entities_ok A n c qs A' n' c' ws A2 n2 c2 gs w hG hW hS hok).mono ?_
    rintro e w1 ⟨A9, n9, c9, E, rfl, hES, hE, h9⟩
    have hE2 : E.map et = entR qs ws (gsI gs) := by unfold entR; rw [if_pos hok]; exact hE
    rw [← hE2, hES.count] at hf
    exact ⟨A9, n9, c9, E, by rw [hok], hES, hE2, hf, h9⟩
  · refine (entities_no A n c qs A' n' c' ws A2 n2 c2 gs w hG hW hS hok).mono ?_
    rintro e w1 ⟨rfl, h9⟩
    exact ⟨none, 0, 0, [], rfl, ⟨World.ownsRow_nil _ _ _ _, (fun e he => by cases he), (fun e he => by cases he)⟩, by unfold entR; rw [if_neg hok]; rfl, by omega, h9⟩
theorem ES.eqq {w : World} {B : Nat} {A : Option Addr} {n c : Nat} {E : List En} {qs : List Rn} {ws : List Wt} {gs : List (List Int)} (h : ES w B A n c E) (hU : UQ qs) (hE : E.map et = entR qs ws gs) (hn : n ≤ 16) : EQ w A n E :=
  h.eq (by omega) fun e he => ((entR_facts hU).1 (et e) (by rw [← hE]; exact List.mem_map.2 ⟨e, he, rfl⟩)).2
theorem ES.set {w : World} {B : Nat} {A : Option Addr} {n c : Nat} {E : List En} (h : ES w B A n c E) {g : Nat} (hg : g < B) (j : Nat) (v : Value) : ES (w.setCell ⟨g, j, none⟩ v) B A n c E :=
  ⟨own_set h.row hg j v, fun e he => own_set (h.mem e he) hg j v, h.ne⟩

end Go.Proofs.Ytngbamoffjlodaa
/-
  The library's Reverse of gangs. No statement is proved here.
-/
namespace Go.Proofs.Ytngbamoffjlodaa
open Go.RowKit Go.Maps

end Go.Proofs.Ytngbamoffjlodaa
