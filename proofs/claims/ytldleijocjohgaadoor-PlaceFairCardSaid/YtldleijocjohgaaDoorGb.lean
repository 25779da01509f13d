/-
  Placements as plain mathematics: who holds what, what is fair, told twice. No statement is proved here.
-/
import Derived.Test.YtldleijocjohgaaDoorGa
namespace Go.Proofs.YtldleijocjohgaaDoor
open Go.RowKit

/-! ### who holds what -/
def updH (F : Nat → Int) (c : Nat) (v : Int) : Nat → Int := fun k => if k = c then v else F k
theorem updH_same (F : Nat → Int) (c : Nat) (v : Int) : updH F c v c = v := if_pos rfl
theorem updH_other {F : Nat → Int} {c k : Nat} {v : Int} (h : k ≠ c) : updH F c v k = F k := if_neg h
/-- may it be held? -/
def freeB (F : Nat → Int) (c : Int) : Bool := decide (0 ≤ c) && decide (c < 8) && F c.toNat == 0
theorem free_parts {F : Nat → Int} {c : Int} (h : freeB F c = true) : 0 ≤ c ∧ c < 8 ∧ F c.toNat = 0 := by
  unfold freeB at h
  simp only [Bool.and_eq_true, decide_eq_true_eq, beq_iff_eq] at h
  exact ⟨h.1.1, h.1.2, h.2⟩
theorem free_yes {F : Nat → Int} {c : Int} (h0 : 0 ≤ c) (h1 : c < 8) (h2 : F c.toNat = 0) : freeB F c = true := by unfold freeB; simp [h0, h1, h2]
def ofV (F : Nat → Int) (v : Int) : Int × Bool := if v = 0 then (0, false) else match (List.range 8).find? (fun c => F c == v) with
  | some c => ((c : Int), true)
  | none => (0, false)
theorem of_yes {F : Nat → Int} {v c : Int} (h : ofV F v = (c, true)) : v ≠ 0 ∧ ∃ k : Nat, c = (k : Int) ∧ k < 8 ∧ F k = v := by
  unfold ofV at h
  split at h
  · cases h
  · rename_i hv
    refine ⟨hv, ?_⟩
    split at h
    · rename_i k hk
      injection h with h1 _
      have h2 := List.find?_some hk
      have h3 := List.mem_range.1 (List.mem_of_find?_eq_some hk)
      exact ⟨k, h1.symm, h3, by simpa using h2⟩
    · cases h
theorem of_no {F : Nat → Int} {v : Int} (hv : v ≠ 0) (h : (ofV F v).2 = false) : ∀ k : Nat, k < 8 → F k ≠ v := by
  unfold ofV at h
  rw [if_neg hv] at h
  split at h
  · cases h
  · rename_i hk
    intro k hlt e
    rw [List.find?_eq_none] at hk
    exact hk k (List.mem_range.2 hlt) (by simp [e])
theorem of_none {F : Nat → Int} {v : Int} (h : ∀ k : Nat, k < 8 → F k ≠ v) : ofV F v = (0, false) := by
  unfold ofV
  split
  · rfl
  · split
    · rename_i k hk
      have h2 := List.find?_some hk
      have h3 := List.mem_range.1 (List.mem_of_find?_eq_some hk)
      exact absurd (by simpa using h2) (h k h3)
    · rfl
theorem of_one {F : Nat → Int} {v : Int} {k : Nat} (hv : v ≠ 0) (hk : k < 8) (h : F k = v) (hu : ∀ j : Nat, j < 8 → F j = v → j = k) : ofV F v = ((k : Int), true) := by
  cases h2 : (ofV F v).2 with
  | false => exact absurd h (of_no hv h2 k hk)
  | true =>
    obtain ⟨_, j, hj, hj8, hF⟩ := of_yes (F := F) (v := v) (c := (ofV F v).1) (by rw [← h2])
    have := hu j hj8 hF
    subst this
    exact Prod.ext hj h2

/-- the placements' holders -/
def heldS (o : Option (Nat → Int)) (p : Int × Int) : Option (Nat → Int) := match o with
  | some F => if freeB F p.2 = true then some (updH F p.2.toNat p.1) else none
  | none => none
def heldO (ps : List (Int × Int)) : Option (Nat → Int) := ps.foldl heldS (some fun _ => 0)
theorem held_snoc (ps : List (Int × Int)) (p : Int × Int) : heldO (ps ++ [p]) = heldS (heldO ps) p := by unfold heldO; rw [List.foldl_append]; rfl
theorem held_step {ps : List (Int × Int)} {k : Nat} {p : Int × Int} (hk : ps[k]? = some p) : heldO (ps.take (k + 1)) = heldS (heldO (ps.take k)) p := by
  rw [List.take_add_one, hk]; exact held_snoc _ _
theorem held_none {ps : List (Int × Int)} {k : Nat} (h : heldO (ps.take k) = none) : heldO ps = none := by
  have e : heldO ps = (ps.drop k).foldl heldS (heldO (ps.take k)) := by
    unfold heldO
    rw [← List.foldl_append, List.take_append_drop]
  rw [e, h]
  generalize ps.drop k = r
  induction r with
  | nil => rfl
  | cons x r ih => exact ih
/-- whoever was put to a pCPU holds it, if it has an Id -/
theorem held_holds : ∀ (n : Nat) {ps : List (Int × Int)} {F : Nat → Int}, ps.length = n → heldO ps = some F → ∀ p ∈ ps, p.1 ≠ 0 → ∃ k : Nat, p.2 = (k : Int) ∧ k < 8 ∧ F k = p.1 := by
  intro n
  induction n with
  | zero => intro ps F hn _ p hp; rw [List.eq_nil_of_length_eq_zero hn] at hp; cases hp
  | succ n ih =>
    intro ps F hn h p hp hp0
    have hne : ps ≠ [] := by intro e; rw [e] at hn; cases hn
    have e := (List.dropLast_concat_getLast hne).symm
    generalize ps.getLast hne = q at e
    generalize hr : ps.dropLast = r at e
    have hl : r.length = n := by rw [← hr, List.length_dropLast]; omega
    rw [e, held_snoc] at h
    cases hF : heldO r with
    | none => rw [hF] at h; cases h
    | some G =>
      rw [hF] at h
      have h : (if freeB G q.2 = true then some (updH G q.2.toNat q.1) else none) = some F := h
      split at h
      · rename_i hf
        obtain ⟨f0, f1, f2⟩ := free_parts hf
        injection h with h
        subst h
        rw [e] at hp
        rcases List.mem_append.1 hp with hp | hp
        · obtain ⟨k, hk, hk8, hG⟩ := ih hl hF p hp hp0
          refine ⟨k, hk, hk8, ?_⟩
          rw [updH_other (fun e => by rw [e, f2] at hG; exact hp0 hG.symm)]
          exact hG
        · rw [List.mem_singleton] at hp
          subst hp
          exact ⟨p.2.toNat, by omega, by omega, updH_same _ _ _⟩
      · cases h
/-- of placements on pCPUs of their own who holds what is told -/
theorem held_all : ∀ (n : Nat) {ps : List (Int × Int)}, ps.length = n → (∀ (j : Nat) p, ps[j]? = some p → cpuB p.2 = true ∧ (ps.take j).any (fun q => q.2 == p.2) = false) →
    ∃ F, heldO ps = some F ∧ (∀ k : Nat, k < 8 → F k = 0 ∨ ∃ p ∈ ps, p.2 = (k : Int) ∧ F k = p.1) ∧ ∀ k : Nat, k < 8 → ps.any (fun q => q.2 == (k : Int)) = false → F k = 0 := by
  intro n
  induction n with
  | zero =>
    intro ps hn _
    rw [List.eq_nil_of_length_eq_zero hn]
    exact ⟨fun _ => 0, rfl, fun k _ => .inl rfl, fun k _ _ => rfl⟩
  | succ n ih =>
    intro ps hn h
    have hne : ps ≠ [] := by intro e; rw [e] at hn; cases hn
    have e := (List.dropLast_concat_getLast hne).symm
    generalize ps.getLast hne = q at e
    generalize hr : ps.dropLast = r at e
    have hl : r.length = n := by rw [← hr, List.length_dropLast]; omega
    subst e
    have hq := h r.length q (by simp)
    rw [List.take_left' rfl] at hq
    obtain ⟨F, hF, h1, h2⟩ := ih hl (fun j p hj => by
      have hlt := (List.getElem?_eq_some_iff.1 hj).1
      have := h j p (by rw [List.getElem?_append_left hlt]; exact hj)
      rwa [List.take_append_of_le_length (by omega)] at this)
    obtain ⟨q0, q1⟩ := cpuB_true hq.1
    obtain ⟨i, hi⟩ := Int.eq_ofNat_of_zero_le q0
    have hfree : F q.2.toNat = 0 := h2 q.2.toNat (by omega) (by rw [show ((q.2.toNat : Nat) : Int) = q.2 by omega]; exact hq.2)
    refine ⟨updH F q.2.toNat q.1, ?_, ?_, ?_⟩
    · rw [held_snoc, hF]
      show (if freeB F q.2 = true then some (updH F q.2.toNat q.1) else none) = _
      rw [if_pos (free_yes q0 q1 hfree)]
    · intro k hk
      by_cases e : k = q.2.toNat
      · subst e
        exact .inr ⟨q, by simp, by omega, updH_same _ _ _⟩
      · rw [updH_other e]
        rcases h1 k hk with h1 | ⟨p, hp, hp2⟩
        · exact .inl h1
        · exact .inr ⟨p, List.mem_append_left _ hp, hp2⟩
    · intro k hk ha
      rw [List.any_append] at ha
      simp only [Bool.or_eq_false_iff] at ha
      have e : k ≠ q.2.toNat := by
        intro e
        have := ha.2
        simp only [List.any_cons, List.any_nil, Bool.or_false, beq_eq_false_iff_ne, ne_eq] at this
        omega
      rw [updH_other e]
      exact h2 k hk ha.1

/-! ### fair, as the code asks it, and as the document says it -/
def alW (w : Wi) (S : Nat) : Nat := allowsR (w.h, w.s) (S : Int)
theorem alW_has {w : Wi} {S : Nat} (_hw : UW w) (hr : rightM (w.h, w.s) = true) (hS : S < 256) (k : Nat) (hk : k < 8) : hasB (alW w S : Int) (k : Int) = (w.h.toNat.testBit k && S.testBit k) := by
  unfold alW allowsR
  rw [if_pos (by rw [hr]; simp; omega), has_bit hk]
  unfold alN
  rw [Nat.testBit_and, Int.toNat_natCast]
theorem alW_lt {w : Wi} {S : Nat} (hw : UW w) : alW w S < 256 := al_small hw.1.1
theorem alW_zero {w : Wi} {S : Nat} (hw : UW w) (h : ∀ k : Nat, k < 8 → hasB (alW w S : Int) (k : Int) = false) : alW w S = 0 := by
  apply Nat.eq_of_testBit_eq
  intro i
  rw [Nat.zero_testBit]
  by_cases hi : i < 8
  · rw [← has_bit hi]; exact h i hi
  · exact Nat.testBit_lt_two_pow (Nat.lt_of_lt_of_le (alW_lt hw) (by rw [show (256 : Nat) = 2 ^ 8 by decide]; exact Nat.pow_le_pow_right (by decide) (by omega)))
def okT (t : Tu) : Bool := if t.p = true then hasB (alW t.w t.left : Int) t.c else alW t.w t.left == 0
def toldW (F : Nat → Int) (w : Wi) (_ : Nat) : Int × Bool := ofV F w.v
def fairP (l : List Wi) (S : Nat) (ps : List (Int × Int)) : Bool := match heldO ps with
  | none => false
  | some F => (tus (toldW F) l S).all okT && decide (putsOf (tus (toldW F) l S) = ps)
def waitB (w : Wi) (S : Nat) (qs : List (Int × Int)) : Bool := (List.range 8).all fun c => !(hasB (alW w S : Int) (c : Int)) || qs.any (fun q => q.2 == (c : Int))
def fairR (S : Nat) (ps : List (Int × Int)) : List Wi → Nat → Bool
  | [], n => n == ps.length
  | w :: l, n => match ps[n]? with
    | some p => if p.1 = w.v then hasB (alW w S : Int) p.2 && !((ps.take n).any (fun q => q.2 == p.2)) && fairR S ps l (n + 1) else waitB w S (ps.take n) && fairR S ps l n
    | none => waitB w S (ps.take n) && fairR S ps l n

section
variable {S L : Nat} {ps : List (Int × Int)} {F : Nat → Int}
theorem has_cpu {s c : Int} (h : hasB s c = true) : cpuB c = true := by unfold hasB at h; simp only [Bool.and_eq_true] at h; exact h.1
theorem any_take {p : Int × Int} {n : Nat} (hn : ps[n]? = some p) (c : Int) : (ps.take (n + 1)).any (fun q => q.2 == c) = ((ps.take n).any (fun q => q.2 == c) || p.2 == c) := by
  rw [List.take_add_one, hn, List.any_append]
  simp
theorem drop_cons {n : Nat} {p : Int × Int} {r : List (Int × Int)} (h : ps.drop n = p :: r) : ps[n]? = some p ∧ ps.drop (n + 1) = r := by
  constructor
  · have := congrArg (fun l => l[0]?) h
    simpa using this
  · have := congrArg (fun l => l.drop 1) h
    simpa using this
theorem drop_of {n : Nat} {p : Int × Int} (h : ps[n]? = some p) : ps.drop n = p :: ps.drop (n + 1) := by
  obtain ⟨hl, e⟩ := List.getElem?_eq_some_iff.1 h
  rw [← e]
  exact List.drop_eq_getElem_cons hl

/-- of what is free still: the set without what was taken -/
def Still (S L : Nat) (qs : List (Int × Int)) : Prop := ∀ k : Nat, k < 8 → hasB (L : Int) (k : Int) = (hasB (S : Int) (k : Int) && !(qs.any (fun q => q.2 == (k : Int))))
theorem still_more {n : Nat} {p : Int × Int} (hL : L < 256) (h : Still S L (ps.take n)) (hn : ps[n]? = some p) (hc : hasB (L : Int) p.2 = true) : Still S (outN L p.2) (ps.take (n + 1)) := by
  intro k hk
  rw [out_has hL hc, h k hk, any_take hn]
  have : ((k : Int) == p.2) = (p.2 == (k : Int)) := by
    by_cases e : (k : Int) = p.2
    · rw [e]
    · have e' : ¬ p.2 = (k : Int) := fun h => e h.symm
      rw [beq_eq_false_iff_ne.2 e, beq_eq_false_iff_ne.2 e']
  rw [this]
  cases hasB (S : Int) (k : Int) <;> cases (ps.take n).any (fun q => q.2 == (k : Int)) <;> cases (p.2 == (k : Int)) <;> rfl
theorem al_sub {w : Wi} {n : Nat} (hw : UW w) (hr : rightM (w.h, w.s) = true) (hS : S < 256) (hL : L < 256) (h : Still S L (ps.take n)) (k : Nat) (hk : k < 8) :
    hasB (alW w L : Int) (k : Int) = (hasB (alW w S : Int) (k : Int) && !((ps.take n).any (fun q => q.2 == (k : Int)))) := by
  have := h k hk
  rw [has_bit hk, has_bit hk] at this
  rw [alW_has hw hr hL k hk, alW_has hw hr hS k hk, this]
  cases w.h.toNat.testBit k <;> simp
theorem al_in {w : Wi} (hw : UW w) (hr : rightM (w.h, w.s) = true) (hL : L < 256) {c : Int} (h : hasB (alW w L : Int) c = true) : hasB (L : Int) c = true := by
  obtain ⟨c0, c1⟩ := cpuB_true (has_cpu h)
  obtain ⟨k, rfl⟩ := Int.eq_ofNat_of_zero_le c0
  rw [alW_has hw hr hL k (by omega)] at h
  rw [has_bit (by omega)]
  simp only [Bool.and_eq_true] at h
  exact h.2

/-- what the code finds fair is fair -/
theorem fair_forward (hS : S < 256) (hF : heldO ps = some F) : ∀ (l : List Wi) (n L : Nat), (∀ w ∈ l, UW w ∧ wiB w = true) → L < 256 → n ≤ ps.length → Still S L (ps.take n) →
    (tus (toldW F) l L).all okT = true → putsOf (tus (toldW F) l L) = ps.drop n → fairR S ps l n = true := by
  intro l
  induction l with
  | nil =>
    intro n L _ _ hn _ _ hp
    have hp : [] = ps.drop n := hp
    have := congrArg List.length hp
    rw [List.length_drop, List.length_nil] at this
    show (n == ps.length) = true
    rw [beq_iff_eq]
    omega
  | cons w l ih =>
    intro n L hw hL hn hst hok hp
    obtain ⟨hu, hb⟩ := hw w (List.mem_cons_self)
    obtain ⟨v1, _, _, _, hr⟩ := wi_parts hb
    have hok : (okT ⟨w, (ofV F w.v).1, (ofV F w.v).2, L⟩ && (tus (toldW F) l (afterS L (ofV F w.v).1 (ofV F w.v).2)).all okT) = true := hok
    have hp : putsOf ([⟨w, (ofV F w.v).1, (ofV F w.v).2, L⟩] ++ tus (toldW F) l (afterS L (ofV F w.v).1 (ofV F w.v).2)) = ps.drop n := hp
    simp only [Bool.and_eq_true] at hok
    obtain ⟨ho, hoks⟩ := hok
    cases hq : (ofV F w.v).2 with
    | true =>
      obtain ⟨c, hc⟩ : ∃ c, (ofV F w.v).1 = c := ⟨_, rfl⟩
      rw [hq, hc] at ho hp hoks
      have ho : hasB (alW w L : Int) c = true := ho
      rw [List.singleton_append, puts_cons, if_pos rfl, after_yes] at hp
      have hp : (w.v, c) :: putsOf (tus (toldW F) l (outN L c)) = ps.drop n := hp
      rw [after_yes] at hoks
      have hoks : (tus (toldW F) l (outN L c)).all okT = true := hoks
      obtain ⟨hg, hd⟩ := drop_cons hp.symm
      obtain ⟨c0, c1⟩ := cpuB_true (has_cpu ho)
      obtain ⟨k, rfl⟩ := Int.eq_ofNat_of_zero_le c0
      have hs := al_sub hu hr hS hL hst k (by omega)
      have ho2 := ho
      rw [hs] at ho2
      simp only [Bool.and_eq_true] at ho2
      show (match ps[n]? with
        | some p => if p.1 = w.v then hasB (alW w S : Int) p.2 && !((ps.take n).any (fun q => q.2 == p.2)) && fairR S ps l (n + 1) else waitB w S (ps.take n) && fairR S ps l n
        | none => waitB w S (ps.take n) && fairR S ps l n) = true
      rw [hg]
      show (if w.v = w.v then _ else _) = true
      rw [if_pos rfl]
      have hlt := (List.getElem?_eq_some_iff.1 hg).1
      have := ih (n + 1) (outN L (k : Int)) (fun x hx => hw x (List.mem_cons_of_mem _ hx)) (out_small _ hL) (by omega) (still_more (p := (w.v, (k : Int))) hL hst hg (al_in hu hr hL ho)) hoks hd.symm
      rw [this, Bool.and_true, Bool.and_eq_true]
      exact ho2
    | false =>
      rw [hq] at ho hp hoks
      have ho : (alW w L == 0) = true := ho
      have hp : putsOf (tus (toldW F) l L) = ps.drop n := hp
      have hoks : (tus (toldW F) l L).all okT = true := hoks
      rw [beq_iff_eq] at ho
      have hrec := ih n L (fun x hx => hw x (List.mem_cons_of_mem _ hx)) hL hn hst hoks hp
      have hwait : waitB w S (ps.take n) = true := by
        unfold waitB
        rw [List.all_eq_true]
        intro k hk
        have hk := List.mem_range.1 hk
        have hs := al_sub hu hr hS hL hst k hk
        rw [ho, has_bit hk, Nat.zero_testBit] at hs
        cases h1 : hasB (alW w S : Int) (k : Int) <;> cases h2 : (ps.take n).any (fun q => q.2 == (k : Int)) <;> rw [h1, h2] at hs <;> first | rfl | cases hs
      show (match ps[n]? with
        | some p => if p.1 = w.v then hasB (alW w S : Int) p.2 && !((ps.take n).any (fun q => q.2 == p.2)) && fairR S ps l (n + 1) else waitB w S (ps.take n) && fairR S ps l n
        | none => waitB w S (ps.take n) && fairR S ps l n) = true
      rw [hwait, hrec]
      cases hg : ps[n]? with
      | none => rfl
      | some p =>
        show (if p.1 = w.v then _ else _) = true
        rw [if_neg]
        · rfl
        · intro e
          obtain ⟨k, hk, hk8, hFk⟩ := held_holds _ rfl hF p (List.mem_of_getElem? hg) (by omega)
          exact of_no (by omega) hq k hk8 (hFk.trans e)

/-- what is fair is of wishes, each on a pCPU of its own -/
theorem fair_parts : ∀ (l : List Wi) (n : Nat), n ≤ ps.length → fairR S ps l n = true → ∀ (j : Nat) p, n ≤ j → ps[j]? = some p →
    (∃ w ∈ l, w.v = p.1) ∧ cpuB p.2 = true ∧ (ps.take j).any (fun q => q.2 == p.2) = false := by
  intro l
  induction l with
  | nil =>
    intro n _ hf j p hj hp
    have hf : (n == ps.length) = true := hf
    rw [beq_iff_eq] at hf
    have := (List.getElem?_eq_some_iff.1 hp).1
    omega
  | cons w l ih =>
    intro n hn hf j p hj hp
    have hf : (match ps[n]? with
        | some p => if p.1 = w.v then hasB (alW w S : Int) p.2 && !((ps.take n).any (fun q => q.2 == p.2)) && fairR S ps l (n + 1) else waitB w S (ps.take n) && fairR S ps l n
        | none => waitB w S (ps.take n) && fairR S ps l n) = true := hf
    have go : fairR S ps l n = true → (∃ w' ∈ w :: l, w'.v = p.1) ∧ cpuB p.2 = true ∧ (ps.take j).any (fun q => q.2 == p.2) = false := fun h => by
      obtain ⟨⟨x, hx, e⟩, h2⟩ := ih n hn h j p hj hp
      exact ⟨⟨x, List.mem_cons_of_mem _ hx, e⟩, h2⟩
    cases hg : ps[n]? with
    | none => rw [hg] at hf; simp only [Bool.and_eq_true] at hf; exact go hf.2
    | some q =>
      rw [hg] at hf
      have hf : (if q.1 = w.v then hasB (alW w S : Int) q.2 && !((ps.take n).any (fun r => r.2 == q.2)) && fairR S ps l (n + 1) else waitB w S (ps.take n) && fairR S ps l n) = true := hf
      split at hf
      · rename_i hv
        simp only [Bool.and_eq_true, Bool.not_eq_true'] at hf
        by_cases e : j = n
        · subst e
          rw [hg] at hp
          injection hp with hp
          subst hp
          exact ⟨⟨w, List.mem_cons_self, hv.symm⟩, has_cpu hf.1.1, hf.1.2⟩
        · have hlt := (List.getElem?_eq_some_iff.1 hg).1
          obtain ⟨⟨x, hx, e⟩, h2⟩ := ih (n + 1) (by omega) hf.2 j p (by omega) hp
          exact ⟨⟨x, List.mem_cons_of_mem _ hx, e⟩, h2⟩
      · simp only [Bool.and_eq_true] at hf
        exact go hf.2

/-- .. and no two are of one wish -/
theorem fair_once : ∀ (l : List Wi) (n : Nat), n ≤ ps.length → l.Pairwise (fun x y => x.v ≠ y.v) → fairR S ps l n = true → (ps.drop n).Pairwise (fun p q => p.1 ≠ q.1) := by
  intro l
  induction l with
  | nil =>
    intro n _ _ hf
    have hf : (n == ps.length) = true := hf
    rw [beq_iff_eq] at hf
    subst hf
    rw [List.drop_length]
    exact List.Pairwise.nil
  | cons w l ih =>
    intro n hn hl hf
    have hl' := List.pairwise_cons.1 hl
    have hf : (match ps[n]? with
        | some p => if p.1 = w.v then hasB (alW w S : Int) p.2 && !((ps.take n).any (fun q => q.2 == p.2)) && fairR S ps l (n + 1) else waitB w S (ps.take n) && fairR S ps l n
        | none => waitB w S (ps.take n) && fairR S ps l n) = true := hf
    cases hg : ps[n]? with
    | none => rw [hg] at hf; simp only [Bool.and_eq_true] at hf; exact ih n hn hl'.2 hf.2
    | some q =>
      rw [hg] at hf
      have hf : (if q.1 = w.v then hasB (alW w S : Int) q.2 && !((ps.take n).any (fun r => r.2 == q.2)) && fairR S ps l (n + 1) else waitB w S (ps.take n) && fairR S ps l n) = true := hf
      split at hf
      · rename_i hv
        simp only [Bool.and_eq_true, Bool.not_eq_true'] at hf
        have hlt := (List.getElem?_eq_some_iff.1 hg).1
        rw [drop_of hg]
        refine List.pairwise_cons.2 ⟨fun r hr e => ?_, ih (n + 1) (by omega) hl'.2 hf.2⟩
        obtain ⟨j, hj⟩ := List.mem_iff_getElem?.1 hr
        rw [List.getElem?_drop] at hj
        obtain ⟨⟨x, hx, ex⟩, _⟩ := fair_parts l (n + 1) (by omega) hf.2 (n + 1 + j) r (by omega) hj
        exact hl'.1 x hx (by rw [ex, ← e, hv])
      · simp only [Bool.and_eq_true] at hf
        exact ih n hn hl'.2 hf.2

/-- what is fair the code finds so -/
theorem fair_backward (hS : S < 256) (hF : ∀ p ∈ ps, p.1 ≠ 0 → ∃ k : Nat, p.2 = (k : Int) ∧ k < 8 ∧ F k = p.1) (hG : ∀ k : Nat, k < 8 → F k = 0 ∨ ∃ p ∈ ps, p.2 = (k : Int) ∧ F k = p.1)
    (hN : ps.Pairwise (fun p q => p.1 ≠ q.1)) : ∀ (l : List Wi) (n L : Nat), (∀ w ∈ l, UW w ∧ wiB w = true) → l.Pairwise (fun x y => x.v ≠ y.v) → (∀ p ∈ ps.take n, ∀ w ∈ l, p.1 ≠ w.v) → L < 256 → n ≤ ps.length →
    Still S L (ps.take n) → fairR S ps l n = true → (tus (toldW F) l L).all okT = true ∧ putsOf (tus (toldW F) l L) = ps.drop n := by
  have hone : ∀ p ∈ ps, ∀ q ∈ ps, p.1 = q.1 → p = q := by
    intro p hp q hq e
    obtain ⟨i, hi⟩ := List.mem_iff_getElem?.1 hp
    obtain ⟨j, hj⟩ := List.mem_iff_getElem?.1 hq
    obtain ⟨hi1, hi2⟩ := List.getElem?_eq_some_iff.1 hi
    obtain ⟨hj1, hj2⟩ := List.getElem?_eq_some_iff.1 hj
    have hpw := List.pairwise_iff_getElem.1 hN
    rcases Nat.lt_trichotomy i j with h | h | h
    · exact absurd (by rw [hi2, hj2]; exact e) (hpw i j hi1 hj1 h)
    · subst h; rw [← hi2, ← hj2]
    · exact absurd (by rw [hi2, hj2]; exact e.symm) (hpw j i hj1 hi1 h)
  intro l
  induction l with
  | nil =>
    intro n L _ _ _ _ _ _ hf
    have hf : (n == ps.length) = true := hf
    rw [beq_iff_eq] at hf
    subst hf
    rw [List.drop_length]
    exact ⟨rfl, rfl⟩
  | cons w l ih =>
    intro n L hw hl hH hL hn hst hf
    have hl' := List.pairwise_cons.1 hl
    obtain ⟨hu, hb⟩ := hw w (List.mem_cons_self)
    obtain ⟨v1, _, _, _, hr⟩ := wi_parts hb
    have hf : (match ps[n]? with
        | some p => if p.1 = w.v then hasB (alW w S : Int) p.2 && !((ps.take n).any (fun q => q.2 == p.2)) && fairR S ps l (n + 1) else waitB w S (ps.take n) && fairR S ps l n
        | none => waitB w S (ps.take n) && fairR S ps l n) = true := hf
    have hw' : ∀ x ∈ l, UW x ∧ wiB x = true := fun x hx => hw x (List.mem_cons_of_mem _ hx)
    have wait : (∀ p, ps[n]? = some p → p.1 ≠ w.v) → waitB w S (ps.take n) = true → fairR S ps l n = true → (tus (toldW F) (w :: l) L).all okT = true ∧ putsOf (tus (toldW F) (w :: l) L) = ps.drop n := by
      intro hnot hwt hfr
      obtain ⟨r1, r2⟩ := ih n L hw' hl'.2 (fun p hp x hx => hH p hp x (List.mem_cons_of_mem _ hx)) hL hn hst hfr
      have hno : ofV F w.v = (0, false) := of_none fun k hk e => by
        rcases hG k hk with h0 | ⟨p, hp, hpk, hpF⟩
        · omega
        · have e1 : p.1 = w.v := by rw [← hpF]; exact e
          obtain ⟨j, hj⟩ := List.mem_iff_getElem?.1 hp
          by_cases h1 : j < n
          · exact hH p (List.mem_of_getElem? (i := j) (by rw [List.getElem?_take_of_lt h1]; exact hj)) w List.mem_cons_self e1
          · obtain ⟨⟨x, hx, ex⟩, _⟩ := fair_parts l n hn hfr j p (by omega) hj
            exact hl'.1 x hx (by rw [ex, e1])
      have ha : alW w L = 0 := alW_zero hu fun k hk => by
        rw [al_sub hu hr hS hL hst k hk]
        unfold waitB at hwt
        rw [List.all_eq_true] at hwt
        have := hwt k (List.mem_range.2 hk)
        cases h1 : hasB (alW w S : Int) (k : Int) <;> cases h2 : (ps.take n).any (fun q => q.2 == (k : Int)) <;> rw [h1, h2] at this <;> first | rfl | cases this
      have e : tus (toldW F) (w :: l) L = ⟨w, 0, false, L⟩ :: tus (toldW F) l L := by
        show _ :: _ = _
        show (⟨w, (ofV F w.v).1, (ofV F w.v).2, L⟩ : Tu) :: tus (toldW F) l (afterS L (ofV F w.v).1 (ofV F w.v).2) = _
        rw [hno, after_no]
      rw [e]
      refine ⟨?_, ?_⟩
      · show (okT ⟨w, 0, false, L⟩ && (tus (toldW F) l L).all okT) = true
        rw [r1, Bool.and_true]
        show (alW w L == 0) = true
        rw [ha]; rfl
      · rw [← r2]; rfl
    cases hg : ps[n]? with
    | none => rw [hg] at hf; simp only [Bool.and_eq_true] at hf; exact wait (fun p h => by rw [hg] at h; cases h) hf.1 hf.2
    | some q =>
      rw [hg] at hf
      have hf : (if q.1 = w.v then hasB (alW w S : Int) q.2 && !((ps.take n).any (fun r => r.2 == q.2)) && fairR S ps l (n + 1) else waitB w S (ps.take n) && fairR S ps l n) = true := hf
      split at hf
      · rename_i hv
        simp only [Bool.and_eq_true, Bool.not_eq_true'] at hf
        obtain ⟨⟨f1, f2⟩, f3⟩ := hf
        have hlt := (List.getElem?_eq_some_iff.1 hg).1
        obtain ⟨k, hk, hk8, hFk⟩ := hF q (List.mem_of_getElem? hg) (by omega)
        have hof : ofV F w.v = ((k : Int), true) := of_one (by omega) hk8 (hFk.trans hv) fun j hj8 hj => by
          rcases hG j hj8 with h0 | ⟨p, hp, hpk, hpF⟩
          · omega
          · have := hone p hp q (List.mem_of_getElem? hg) (by omega)
            subst this
            omega
        rw [hk] at f1 f2
        have ho : hasB (alW w L : Int) (k : Int) = true := by rw [al_sub hu hr hS hL hst k hk8, f1, f2]; rfl
        have hst2 : Still S (outN L (k : Int)) (ps.take (n + 1)) := by
          have := still_more (p := q) hL hst hg (by rw [hk]; exact al_in hu hr hL ho)
          rwa [hk] at this
        obtain ⟨r1, r2⟩ := ih (n + 1) (outN L (k : Int)) hw' hl'.2 (fun p hp x hx => by
          rw [List.take_add_one, hg] at hp
          rcases List.mem_append.1 hp with hp | hp
          · exact hH p hp x (List.mem_cons_of_mem _ hx)
          · have : p = q := by simpa using hp
            subst this
            rw [hv]
            exact hl'.1 x hx) (out_small _ hL) (by omega) hst2 f3
        have e : tus (toldW F) (w :: l) L = ⟨w, (k : Int), true, L⟩ :: tus (toldW F) l (outN L (k : Int)) := by
          show (⟨w, (ofV F w.v).1, (ofV F w.v).2, L⟩ : Tu) :: tus (toldW F) l (afterS L (ofV F w.v).1 (ofV F w.v).2) = _
          rw [hof, after_yes]
        rw [e]
        refine ⟨?_, ?_⟩
        · show (okT ⟨w, (k : Int), true, L⟩ && (tus (toldW F) l (outN L (k : Int))).all okT) = true
          rw [r1, Bool.and_true]
          exact ho
        · rw [drop_of hg, ← r2]
          show (w.v, (k : Int)) :: putsOf (tus (toldW F) l (outN L (k : Int))) = _
          rw [← hv, ← hk]
      · rename_i hv
        simp only [Bool.and_eq_true] at hf
        exact wait (fun p h => by rw [hg] at h; injection h with h; subst h; exact hv) hf.1 hf.2
end

theorem right_all {l : List Wi} (hr : rightW l = true) (hU : ∀ (k : Nat) (w : Wi), l[k]? = some w → UW w) : ∀ w ∈ l, UW w ∧ wiB w = true := fun w hw => by
  obtain ⟨k, hk⟩ := List.mem_iff_getElem?.1 hw
  exact ⟨hU k w hk, (right_wish hr hk).1⟩
theorem right_apart {l : List Wi} (hr : rightW l = true) : l.Pairwise (fun x y => x.v ≠ y.v) := by
  rw [List.pairwise_iff_getElem]
  intro i j hi hj h e
  have := (right_wish hr (List.getElem?_eq_getElem hj)).2
  unfold fitB at this
  rw [List.all_eq_true] at this
  have := this l[i] (List.mem_of_getElem? (i := i) (by rw [List.getElem?_take_of_lt h]; exact List.getElem?_eq_getElem hi))
  simp [e] at this

/-- the two are one -/
theorem fair_same {l : List Wi} (hr : rightW l = true) (hU : ∀ (k : Nat) (w : Wi), l[k]? = some w → UW w) {S : Nat} (hS : S < 256) (ps : List (Int × Int)) : fairP l S ps = fairR S ps l 0 := by
  have hst : Still S S (ps.take 0) := fun k hk => by simp
  cases hR : fairR S ps l 0 with
  | true =>
    have hparts := fair_parts l 0 (Nat.zero_le _) hR
    obtain ⟨F, hF, h1, h2⟩ := held_all ps.length rfl (fun j p hj => (hparts j p (Nat.zero_le _) hj).2)
    have hN := fair_once l 0 (Nat.zero_le _) (right_apart hr) hR
    rw [List.drop_zero] at hN
    obtain ⟨q1, q2⟩ := fair_backward hS (held_holds _ rfl hF) h1 hN l 0 S (right_all hr hU) (right_apart hr) (fun p hp => by simp at hp) hS (Nat.zero_le _) hst hR
    unfold fairP
    rw [hF]
    show (_ && decide _) = true
    rw [q1, q2, List.drop_zero]
    simp
  | false =>
    cases hP : fairP l S ps with
    | false => rfl
    | true =>
      unfold fairP at hP
      cases hF : heldO ps with
      | none => rw [hF] at hP; cases hP
      | some F =>
        rw [hF] at hP
        have hP : ((tus (toldW F) l S).all okT && decide (putsOf (tus (toldW F) l S) = ps)) = true := hP
        simp only [Bool.and_eq_true, decide_eq_true_eq] at hP
        have := fair_forward hS hF l 0 S (right_all hr hU) hS (Nat.zero_le _) hst hP.1 (by rw [List.drop_zero]; exact hP.2)
        rw [hR] at this
        cases this

end Go.Proofs.YtldleijocjohgaaDoor
