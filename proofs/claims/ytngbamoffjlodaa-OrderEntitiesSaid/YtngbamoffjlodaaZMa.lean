/-
  Who stands ahead: plain mathematics of entities, their comparison and how they are sorted. No statement is proved here.
-/
import Derived.Test.YtngbamoffjlodaaZOe
import Derived.Test.YtngbamoffjlodaaZVd
namespace Go.Proofs.Ytngbamoffjlodaa
open Go.RowKit

/-- a comparison of those of which V holds -/
structure Cmp {α : Type} (V : α → Prop) (c : α → α → Int) : Prop where
  neg : ∀ a b, c a b = - c b a
  tr : ∀ a b d, V a → V b → V d → c a b ≤ 0 → c b d ≤ 0 → c a d ≤ 0 ∧ (c a b < 0 ∨ c b d < 0 → c a d < 0)
def lex (x y : Int) : Int := if x ≠ 0 then x else y
theorem lex_le {x y : Int} (h : lex x y ≤ 0) : x ≤ 0 := by unfold lex at h; split at h <;> omega
theorem lex_zero {x y : Int} (h : x = 0) : lex x y = y := if_neg (by omega)
theorem lex_neg {x y : Int} (h : x < 0) : lex x y < 0 := by unfold lex; rw [if_pos (by omega)]; exact h
theorem Cmp.lex_ {α : Type} {V : α → Prop} {c d : α → α → Int} (hc : Cmp V c) (hd : Cmp V d) : Cmp V (fun a b => lex (c a b) (d a b)) where
  neg a b := by
    have h1 := hc.neg a b
    have h2 := hd.neg a b
    show lex (c a b) (d a b) = - lex (c b a) (d b a)
    unfold lex
    split <;> split <;> omega
  tr a b e ha hb he h1 h2 := by
    have q1 := lex_le h1
    have q2 := lex_le h2
    obtain ⟨q3, q4⟩ := hc.tr a b e ha hb he q1 q2
    by_cases hs : c a b < 0 ∨ c b e < 0
    · have q5 := lex_neg (y := d a e) (q4 hs)
      exact ⟨by show lex (c a e) (d a e) ≤ 0; omega, fun _ => q5⟩
    · have z1 : c a b = 0 := by omega
      have z2 : c b e = 0 := by omega
      have r := hc.tr e b a he hb ha (by rw [hc.neg]; omega) (by rw [hc.neg]; omega)
      have r2 := hc.neg a e
      have z3 : c a e = 0 := by omega
      have h1' : d a b ≤ 0 := by have := h1; rw [lex_zero z1] at this; exact this
      have h2' : d b e ≤ 0 := by have := h2; rw [lex_zero z2] at this; exact this
      show lex (c a e) (d a e) ≤ 0 ∧ (lex (c a b) (d a b) < 0 ∨ lex (c b e) (d b e) < 0 → lex (c a e) (d a e) < 0)
      rw [lex_zero z1, lex_zero z2, lex_zero z3]
      exact hd.tr a b e ha hb he h1' h2'

/-- an entity: its members, its time, its order number, whether it is fresh -/
abbrev Et := List Int × (Nat × Nat × Nat) × Nat × Bool
def et (e : En) : Et := (e.1.2.2.2, e.2)
def firstE (e : Et) : Int := e.1.getD 0 0
def canE (e : Et) : Bool := decide (0 < e.1.length) && rightN (fN e.2.1) (fW e.2.1)
def cmpF (f g : Bool) : Int := if f = g then 0 else if f = true then -1 else 1
def cmpT (s t : Nat × Nat × Nat) : Int := cmpR (fN s) (fW s) (fN t) (fW t)
def standI (a b : Et) : Int := lex (cmpF a.2.2.2 b.2.2.2) (lex (cmpT a.2.1 b.2.1) (lex (cmpW a.2.2.1 b.2.2.1) (cmpY (firstE a) (firstE b))))
def aheadE (a b : Et) : Bool := canE a && canE b && decide (standI a b < 0)

theorem canE_iff {e : Et} : canE e = true ↔ 0 < e.1.length ∧ rightN (fN e.2.1) (fW e.2.1) = true := by
  unfold canE; simp
theorem cmpF_zero {f g : Bool} : cmpF f g = 0 ↔ f = g := by cases f <;> cases g <;> decide
theorem cmpY_zero {a b : Int} : cmpY a b = 0 ↔ a = b := by
  unfold cmpY
  constructor
  · intro h; split at h
    · omega
    · split at h <;> omega
  · intro h; rw [if_neg (by omega), if_neg (by omega)]
theorem cmpW_zero {a b : Nat} : cmpW a b = 0 ↔ a = b := by
  unfold cmpW
  constructor
  · intro h; split at h
    · omega
    · split at h <;> omega
  · intro h; rw [if_neg (by omega), if_neg (by omega)]
theorem cmpF_cmp : Cmp (fun _ : Et => True) (fun a b => cmpF a.2.2.2 b.2.2.2) where
  neg a b := by show cmpF _ _ = - cmpF _ _; cases a.2.2.2 <;> cases b.2.2.2 <;> decide
  tr a b d _ _ _ := by show cmpF _ _ ≤ 0 → cmpF _ _ ≤ 0 → _; cases a.2.2.2 <;> cases b.2.2.2 <;> cases d.2.2.2 <;> decide
theorem cmpW_cmp : Cmp (fun _ : Et => True) (fun a b => cmpW a.2.2.1 b.2.2.1) where
  neg a b := cmpW_neg _ _
  tr a b d _ _ _ := by
    show cmpW _ _ ≤ 0 → cmpW _ _ ≤ 0 → cmpW _ _ ≤ 0 ∧ (cmpW _ _ < 0 ∨ cmpW _ _ < 0 → cmpW _ _ < 0)
    generalize a.2.2.1 = x
    generalize b.2.2.1 = y
    generalize d.2.2.1 = z
    unfold cmpW
    intro h1 h2
    (repeat' split at h1) <;> (repeat' split at h2) <;> (repeat' split) <;> first | omega | (refine ⟨by omega, fun h => ?_⟩; omega)
theorem cmpY_cmp : Cmp (fun _ : Et => True) (fun a b => cmpY (firstE a) (firstE b)) where
  neg a b := by
    show cmpY _ _ = - cmpY _ _
    generalize firstE a = x
    generalize firstE b = y
    unfold cmpY
    (repeat' split) <;> omega
  tr a b d _ _ _ := by
    show cmpY _ _ ≤ 0 → cmpY _ _ ≤ 0 → cmpY _ _ ≤ 0 ∧ (cmpY _ _ < 0 ∨ cmpY _ _ < 0 → cmpY _ _ < 0)
    generalize firstE a = x
    generalize firstE b = y
    generalize firstE d = z
    unfold cmpY
    intro h1 h2
    (repeat' split at h1) <;> (repeat' split at h2) <;> (repeat' split) <;> first | omega | (refine ⟨by omega, fun h => ?_⟩; omega)
theorem cmpR_neg (N x M y : Nat) : cmpR N x M y = - cmpR M y N x := by
  unfold cmpR
  rw [Bool.and_comm (rightN N x)]
  split
  · exact cmpW_neg _ _
  · rfl
theorem cmpW_le {x y : Nat} : cmpW x y ≤ 0 ↔ x ≤ y := by unfold cmpW; (repeat' split) <;> omega
theorem cmpW_neg_iff {x y : Nat} : cmpW x y < 0 ↔ x < y := by unfold cmpW; (repeat' split) <;> omega
theorem frac_le_le {p x q y r z : Nat} (hy : 0 < y) (h1 : p * y ≤ q * x) (h2 : q * z ≤ r * y) : p * z ≤ r * x := by
  have m1 := Nat.mul_le_mul_right z h1
  have m2 := Nat.mul_le_mul_right x h2
  have e1 : p * y * z = p * z * y := by rw [Nat.mul_assoc, Nat.mul_comm y z, ← Nat.mul_assoc]
  have e2 : q * x * z = q * z * x := by rw [Nat.mul_assoc, Nat.mul_comm x z, ← Nat.mul_assoc]
  have e3 : r * y * x = r * x * y := by rw [Nat.mul_assoc, Nat.mul_comm y x, ← Nat.mul_assoc]
  exact Nat.le_of_mul_le_mul_right (show p * z * y ≤ r * x * y by omega) hy
theorem cmpT_cmp : Cmp (fun e : Et => canE e = true) (fun a b => cmpT a.2.1 b.2.1) where
  neg a b := cmpR_neg _ _ _ _
  tr a b d ha hb hd := by
    have h1 := (canE_iff.1 ha).2
    have h2 := (canE_iff.1 hb).2
    have h3 := (canE_iff.1 hd).2
    show cmpT _ _ ≤ 0 → cmpT _ _ ≤ 0 → cmpT _ _ ≤ 0 ∧ (cmpT _ _ < 0 ∨ cmpT _ _ < 0 → cmpT _ _ < 0)
    unfold cmpT cmpR
    rw [h1, h2, h3]
    have p1 := (rightN_true h1).1
    have p2 := (rightN_true h2).1
    have p3 := (rightN_true h3).1
    simp only [Bool.and_self, if_true, cmpW_le, cmpW_neg_iff]
    intro q1 q2
    refine ⟨frac_le_le (by omega) q1 q2, fun h => ?_⟩
    rcases h with h | h
    · exact frac_lt_le (by omega) h q2
    · exact frac_le_lt (by omega) q1 h
theorem Cmp.weaken {α : Type} {V V' : α → Prop} {c : α → α → Int} (h : Cmp V c) (hV : ∀ a, V' a → V a) : Cmp V' c := ⟨h.neg, fun a b d ha hb hd => h.tr a b d (hV a ha) (hV b hb) (hV d hd)⟩
theorem stand_cmp : Cmp (fun e : Et => canE e = true) standI :=
  (cmpF_cmp.weaken fun _ _ => trivial).lex_ (cmpT_cmp.lex_ ((cmpW_cmp.weaken fun _ _ => trivial).lex_ (cmpY_cmp.weaken fun _ _ => trivial)))
theorem lex_eq0 {x y : Int} : lex x y = 0 ↔ x = 0 ∧ y = 0 := by unfold lex; split <;> omega
/-- of one place -/
def likeE (a b : Et) : Bool := a.2.2.2 == b.2.2.2 && (cmpT a.2.1 b.2.1 == 0) && a.2.2.1 == b.2.2.1 && (firstE a == firstE b)
theorem stand_zero {a b : Et} : standI a b = 0 ↔ likeE a b = true := by
  unfold standI likeE
  rw [lex_eq0, lex_eq0, lex_eq0, cmpF_zero, cmpW_zero, cmpY_zero]
  simp [and_assoc]

/-! ### sorted -/
def insE (x : Et) : List Et → List Et
  | [] => [x]
  | y :: l => if aheadE x y = true then x :: y :: l else y :: insE x l
def sortE (l : List Et) : List Et := l.foldl (fun out x => insE x out) []
def leE (a b : Et) : Prop := standI a b ≤ 0
theorem insE_perm (x : Et) : ∀ l, (insE x l).Perm (x :: l)
  | [] => List.Perm.refl _
  | y :: l => by
    unfold insE
    split
    · exact List.Perm.refl _
    · exact ((insE_perm x l).cons y).trans (List.Perm.swap x y l)
theorem fold_perm : ∀ (l out : List Et), (l.foldl (fun out x => insE x out) out).Perm (l ++ out)
  | [], out => List.Perm.refl _
  | x :: l, out => by
    rw [List.foldl_cons]
    refine (fold_perm l _).trans ?_
    refine ((insE_perm x out).append_left l).trans ?_
    rw [List.cons_append]
    exact List.perm_middle
theorem sortE_perm (l : List Et) : (sortE l).Perm l := by
  have h := fold_perm l []
  rwa [List.append_nil] at h
theorem aheadE_yes {a b : Et} (ha : canE a = true) (hb : canE b = true) : aheadE a b = decide (standI a b < 0) := by unfold aheadE; rw [ha, hb]; rfl
theorem insE_sorted {x : Et} (hx : canE x = true) : ∀ {l : List Et}, (∀ y ∈ l, canE y = true) → l.Pairwise leE → (insE x l).Pairwise leE
  | [], _, _ => by simp [insE]
  | y :: l, hl, hs => by
    have hy := hl y (by simp)
    obtain ⟨s1, s2⟩ := List.pairwise_cons.1 hs
    unfold insE
    rw [aheadE_yes hx hy]
    by_cases h : standI x y < 0
    · rw [if_pos (by simpa using h)]
      refine List.pairwise_cons.2 ⟨fun z hz => ?_, hs⟩
      rcases List.mem_cons.1 hz with e | e
      · subst e; show standI _ _ ≤ 0; omega
      · exact (stand_cmp.tr x y z hx hy (hl z (by simp [e])) (by omega) (s1 z e)).1
    · rw [if_neg (by simpa using h)]
      refine List.pairwise_cons.2 ⟨fun z hz => ?_, insE_sorted hx (fun z hz => hl z (by simp [hz])) s2⟩
      rcases List.mem_cons.1 ((insE_perm x l).mem_iff.1 hz) with e | e
      · subst e; have := stand_cmp.neg y z; show standI _ _ ≤ 0; omega
      · exact s1 z e
theorem fold_sorted : ∀ (l out : List Et), (∀ y ∈ l, canE y = true) → (∀ y ∈ out, canE y = true) → out.Pairwise leE → (l.foldl (fun out x => insE x out) out).Pairwise leE
  | [], _, _, _, h => h
  | x :: l, out, hl, ho, h => by
    rw [List.foldl_cons]
    refine fold_sorted l _ (fun y hy => hl y (by simp [hy])) (fun y hy => ?_) (insE_sorted (hl x (by simp)) ho h)
    rcases List.mem_cons.1 ((insE_perm x out).mem_iff.1 hy) with e | e
    · subst e; exact hl _ (by simp)
    · exact ho y e
theorem sortE_sorted {l : List Et} (h : ∀ y ∈ l, canE y = true) : (sortE l).Pairwise leE := fold_sorted l [] h (by simp) List.Pairwise.nil
/-- no two have one place -/
def Diff (l : List Et) : Prop := ∀ a ∈ l, ∀ b ∈ l, standI a b = 0 → a = b
/-- what is sorted, and holds the same, is the same -/
theorem sorted_eq {l m : List Et} (hD : Diff l) (hp : m.Perm l) (hs : m.Pairwise leE) (hc : ∀ y ∈ l, canE y = true) : m = sortE l := by
  refine List.Perm.eq_of_pairwise (le := leE) (fun a b ha hb h1 h2 => ?_) hs (sortE_sorted hc) (hp.trans (sortE_perm l).symm)
  refine hD a (hp.mem_iff.1 ha) b ((sortE_perm l).mem_iff.1 hb) ?_
  have := stand_cmp.neg a b
  have q1 : standI a b ≤ 0 := h1
  have q2 : standI b a ≤ 0 := h2
  omega
end Go.Proofs.Ytngbamoffjlodaa
