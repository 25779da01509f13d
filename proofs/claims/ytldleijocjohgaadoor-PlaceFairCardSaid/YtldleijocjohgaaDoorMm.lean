/-
  Plain mathematics: how many of some masks have a choice at most, by the document's own way; the first choice. No statement is proved here.
-/
import Derived.Test.YtldleijocjohgaaDoorHm
namespace Go.Proofs.YtldleijocjohgaaDoor

/-- by one mask more: B is what the others have, of each set; c places looked at -/
def upTo (B : Nat → Nat) (h s : Nat) : Nat → Nat
  | 0 => B s
  | c + 1 => if (h &&& s).testBit c = true then (if upTo B h s c < 1 + B (s - 2 ^ c) then 1 + B (s - 2 ^ c) else upTo B h s c) else upTo B h s c
/-- how many of the masks have a choice of the set at most -/
def mostN : List Nat → Nat → Nat
  | [], _ => 0
  | h :: t, s => upTo (mostN t) h s 8
/-- so many of the masks have a choice -/
inductive Part : List Nat → Nat → Nat → Prop
  | nil (s : Nat) : Part [] s 0
  | skip {h : Nat} {t : List Nat} {s k : Nat} : Part t s k → Part (h :: t) s k
  | take {h : Nat} {t : List Nat} {s k : Nat} (c : Nat) : c < 8 → (h &&& s).testBit c = true → Part t (s - 2 ^ c) k → Part (h :: t) s (k + 1)

theorem less_bit {s c : Nat} (h : s.testBit c = true) (b : Nat) : (s - 2 ^ c).testBit b = (s.testBit b && !(b == c)) := by
  rw [Nat.testBit_eq_decide_div_mod_eq, decide_eq_true_eq] at h
  have h1 : s % 2 ^ (c + 1) = s % 2 ^ c + 2 ^ c := by rw [Nat.mod_pow_succ, h, Nat.mul_one]
  have h2 := Nat.div_add_mod s (2 ^ (c + 1))
  have h3 : s % 2 ^ c < 2 ^ c := Nat.mod_lt _ (Nat.two_pow_pos c)
  have h4 : s % 2 ^ c < 2 ^ (c + 1) := by rw [Nat.pow_succ]; omega
  have h5 : 2 ^ c + s % 2 ^ c < 2 ^ (c + 1) := by rw [Nat.pow_succ]; omega
  generalize s / 2 ^ (c + 1) = q at *
  generalize s % 2 ^ c = r at *
  have e1 : s = 2 ^ (c + 1) * q + (2 ^ c + r) := by omega
  have e2 : s - 2 ^ c = 2 ^ (c + 1) * q + r := by omega
  rw [e2, e1, Nat.testBit_two_pow_mul_add _ h4, Nat.testBit_two_pow_mul_add _ h5]
  by_cases hb : b < c + 1
  · rw [if_pos hb, if_pos hb]
    by_cases hc : b = c
    · subst hc
      rw [Nat.testBit_lt_two_pow h3]
      simp
    · rw [Nat.testBit_two_pow_add_gt (by omega)]
      simp [hc]
  · rw [if_neg hb, if_neg hb]
    have : (b == c) = false := by simp; omega
    rw [this]
    simp
theorem upTo_ge (B : Nat → Nat) (h s c : Nat) : B s ≤ upTo B h s c := by
  induction c with
  | zero => exact Nat.le_refl _
  | succ c ih => unfold upTo; split <;> (try split) <;> omega
theorem upTo_take {B : Nat → Nat} {h s c m : Nat} (hc : c < m) (hb : (h &&& s).testBit c = true) : 1 + B (s - 2 ^ c) ≤ upTo B h s m := by
  induction m with
  | zero => omega
  | succ m ih =>
    unfold upTo
    by_cases h1 : c = m
    · subst h1
      rw [if_pos hb]
      split <;> omega
    · have := ih (by omega)
      split <;> (try split) <;> omega
theorem upTo_cases (B : Nat → Nat) (h s m : Nat) : upTo B h s m = B s ∨ ∃ c, c < m ∧ (h &&& s).testBit c = true ∧ upTo B h s m = 1 + B (s - 2 ^ c) := by
  induction m with
  | zero => exact .inl rfl
  | succ m ih =>
    unfold upTo
    by_cases hb : (h &&& s).testBit m = true
    · rw [if_pos hb]
      split
      · exact .inr ⟨m, by omega, hb, rfl⟩
      · rcases ih with h1 | ⟨c, h1, h2, h3⟩
        · exact .inl h1
        · exact .inr ⟨c, by omega, h2, h3⟩
    · rw [if_neg hb]
      rcases ih with h1 | ⟨c, h1, h2, h3⟩
      · exact .inl h1
      · exact .inr ⟨c, by omega, h2, h3⟩
theorem part_most (l : List Nat) (s : Nat) : Part l s (mostN l s) := by
  induction l generalizing s with
  | nil => exact .nil s
  | cons h t ih =>
    unfold mostN
    rcases upTo_cases (mostN t) h s 8 with e | ⟨c, hc, hb, e⟩
    · rw [e]; exact .skip (ih s)
    · rw [e, Nat.add_comm]; exact .take c hc hb (ih _)
theorem part_le {l : List Nat} {s k : Nat} (h : Part l s k) : k ≤ mostN l s := by
  induction h with
  | nil s => exact Nat.le_refl _
  | skip _ ih => exact Nat.le_trans ih (upTo_ge _ _ _ _)
  | take c hc hb _ ih => unfold mostN; exact Nat.le_trans (by omega) (upTo_take hc hb)
theorem part_len {l : List Nat} {s k : Nat} (h : Part l s k) : k ≤ l.length := by
  induction h with
  | nil s => exact Nat.le_refl _
  | skip _ ih => simp; omega
  | take c _ _ _ ih => simp; omega
theorem most_len (l : List Nat) (s : Nat) : mostN l s ≤ l.length := part_len (part_most l s)
theorem part_more {l : List Nat} {s s' k : Nat} (h : Part l s k) (hs : ∀ b, s.testBit b = true → s'.testBit b = true) : Part l s' k := by
  induction h generalizing s' with
  | nil s => exact .nil s'
  | skip _ ih => exact .skip (ih hs)
  | take c hc hb _ ih =>
    rw [Nat.testBit_and, Bool.and_eq_true] at hb
    refine .take c hc (by rw [Nat.testBit_and, hb.1, hs _ hb.2]; rfl) (ih fun b h => ?_)
    rw [less_bit hb.2, Bool.and_eq_true] at h
    rw [less_bit (hs _ hb.2), Bool.and_eq_true]
    exact ⟨hs b h.1, h.2⟩
theorem most_more {l : List Nat} {s s' : Nat} (hs : ∀ b, s.testBit b = true → s'.testBit b = true) : mostN l s ≤ mostN l s' := part_le (part_more (part_most l s) hs)
/-- a set's pCPUs counted -/
def popN (s : Nat) : Nat := cnt (fun b => s.testBit b) 8
theorem pop_less {s c : Nat} (hc : c < 8) (h : s.testBit c = true) : popN s = popN (s - 2 ^ c) + 1 := by
  unfold popN
  rw [cnt_one hc h]
  congr 1
  exact cnt_ext fun b _ => (less_bit h b).symm
theorem part_pop {l : List Nat} {s k : Nat} (h : Part l s k) : k ≤ popN s := by
  induction h with
  | nil s => exact Nat.zero_le _
  | skip _ ih => exact ih
  | take c hc hb _ ih =>
    rw [Nat.testBit_and, Bool.and_eq_true] at hb
    have := pop_less hc hb.2
    omega
theorem most_pop (l : List Nat) (s : Nat) : mostN l s ≤ popN s := part_pop (part_most l s)
theorem part_other {l : List Nat} {s' k : Nat} (h : Part l s' k) : ∀ s m, (∀ b, b < 8 → s'.testBit b = (s.testBit b || m.testBit b)) → ∃ k', k ≤ k' + popN m ∧ Part l s k' := by
  induction h with
  | nil _ => exact fun s m _ => ⟨0, Nat.zero_le _, .nil s⟩
  | skip _ ih => exact fun s m hs => let ⟨k', h1, h2⟩ := ih s m hs; ⟨k', h1, .skip h2⟩
  | take c hc hb _ ih =>
    intro s m hs
    rw [Nat.testBit_and, Bool.and_eq_true] at hb
    by_cases hsc : s.testBit c = true
    · by_cases hmc : m.testBit c = true
      · obtain ⟨k', h1, h2⟩ := ih (s - 2 ^ c) (m - 2 ^ c) (fun b h8 => by rw [less_bit hb.2, less_bit hsc, less_bit hmc, hs b h8]; cases s.testBit b <;> cases m.testBit b <;> cases (b == c) <;> rfl)
        have := pop_less hc hmc
        exact ⟨k' + 1, by omega, .take c hc (by rw [Nat.testBit_and, hb.1, hsc]; rfl) h2⟩
      · have hmc : m.testBit c = false := by simpa using hmc
        obtain ⟨k', h1, h2⟩ := ih (s - 2 ^ c) m (fun b h8 => by
          rw [less_bit hb.2, less_bit hsc, hs b h8]
          by_cases e : b = c
          · subst e; rw [hmc]; simp
          · have : (b == c) = false := by simpa using e
            rw [this]; simp)
        exact ⟨k' + 1, by omega, .take c hc (by rw [Nat.testBit_and, hb.1, hsc]; rfl) h2⟩
    · have hsc : s.testBit c = false := by simpa using hsc
      have hmc : m.testBit c = true := by
        have := hs c hc
        rw [hb.2, hsc, Bool.false_or] at this
        exact this.symm
      obtain ⟨k', h1, h2⟩ := ih s (m - 2 ^ c) (fun b h8 => by
        rw [less_bit hb.2, less_bit hmc, hs b h8]
        by_cases e : b = c
        · subst e; rw [hsc]; simp
        · have : (b == c) = false := by simpa using e
          rw [this]; simp)
      have := pop_less hc hmc
      exact ⟨k', by omega, .skip h2⟩
theorem most_other (l : List Nat) (s m : Nat) : mostN l (s ||| m) ≤ mostN l s + popN m := by
  obtain ⟨k', h1, h2⟩ := part_other (part_most l (s ||| m)) s m (fun b _ => Nat.testBit_or ..)
  have := part_le h2
  omega
theorem part_without {l : List Nat} {s k : Nat} (h : Part l s k) : ∀ i, ∃ k', k ≤ k' + 1 ∧ Part (l.eraseIdx i) s k' := by
  induction h with
  | nil s => exact fun i => ⟨0, by omega, .nil s⟩
  | skip hp ih =>
    intro i
    cases i with
    | zero => exact ⟨_, by omega, hp⟩
    | succ i => obtain ⟨k', h1, h2⟩ := ih i; exact ⟨k', h1, .skip h2⟩
  | @take h t s k c hc hb hp ih =>
    intro i
    cases i with
    | zero => exact ⟨k, by omega, part_more hp fun b hb' => by
        rw [Nat.testBit_and, Bool.and_eq_true] at hb
        rw [less_bit hb.2, Bool.and_eq_true] at hb'
        exact hb'.1⟩
    | succ i => obtain ⟨k', h1, h2⟩ := ih i; exact ⟨k' + 1, by omega, .take c hc hb h2⟩
theorem part_back {l : List Nat} {s k : Nat} : ∀ i, Part (l.eraseIdx i) s k → Part l s k := by
  induction l generalizing s k with
  | nil => exact fun i h => by simpa using h
  | cons h t ih =>
    intro i hp
    cases i with
    | zero => exact .skip hp
    | succ i =>
      rw [List.eraseIdx_cons_succ] at hp
      cases hp with
      | skip hp => exact .skip (ih i hp)
      | take c hc hb hp => exact .take c hc hb (ih i hp)
theorem most_without (l : List Nat) (s i : Nat) : mostN (l.eraseIdx i) s ≤ mostN l s ∧ mostN l s ≤ mostN (l.eraseIdx i) s + 1 := by
  obtain ⟨k', h1, h2⟩ := part_without (part_most l s) i
  have := part_le h2
  exact ⟨part_le (part_back i (part_most _ s)), by omega⟩

/-! ### all of them -/
theorem part_own {l : List Nat} {s : Nat} (h : Part l s l.length) : Own (fun i b => (l.getD i 0 &&& s).testBit b) l.length 8 := by
  induction l generalizing s with
  | nil => exact ⟨fun _ => 0, fun i hi => by simp at hi, fun i j hi => by simp at hi⟩
  | cons a t ih =>
    cases h with
    | skip hp => have := part_len hp; simp at this; omega
    | take c hc hb hp =>
      obtain ⟨f, h1, h2⟩ := ih hp
      rw [Nat.testBit_and, Bool.and_eq_true] at hb
      have hne : ∀ i, i < t.length → f i ≠ c := fun i hi e => by
        have h3 : (t.getD i 0 &&& (s - 2 ^ c)).testBit (f i) = true := (h1 i hi).2
        rw [Nat.testBit_and, less_bit hb.2, e] at h3
        simp at h3
      refine ⟨fun i => match i with | 0 => c | j + 1 => f j, fun i hi => ?_, fun i j hi hj he => ?_⟩
      · cases i with
        | zero => exact ⟨hc, by simp [Nat.testBit_and, hb.1, hb.2]⟩
        | succ i =>
          have h3 := h1 i (by simpa using hi)
          refine ⟨h3.1, ?_⟩
          have h4 : (t.getD i 0 &&& (s - 2 ^ c)).testBit (f i) = true := h3.2
          show (t.getD i 0 &&& s).testBit (f i) = true
          rw [Nat.testBit_and, less_bit hb.2] at h4
          rw [Nat.testBit_and]
          simp only [Bool.and_eq_true] at h4 ⊢
          exact ⟨h4.1, h4.2.1⟩
      · cases i with
        | zero =>
          cases j with
          | zero => rfl
          | succ j => exact absurd he.symm (hne j (by simpa using hj))
        | succ i =>
          cases j with
          | zero => exact absurd he (hne i (by simpa using hi))
          | succ j => rw [h2 i j (by simpa using hi) (by simpa using hj) he]
theorem hall_part {l : List Nat} {s : Nat} (h : Hall (fun i b => (l.getD i 0 &&& s).testBit b) l.length 8) : Part l s l.length := by
  induction l generalizing s with
  | nil => exact .nil s
  | cons a t ih =>
    obtain ⟨c, hc, ha, hr⟩ := hall_step h
    have ha' : (a &&& s).testBit c = true := ha
    have hsc : s.testBit c = true := by rw [Nat.testBit_and, Bool.and_eq_true] at ha'; exact ha'.2
    refine .take c hc ha' (ih fun K => ?_)
    have := hr K
    refine Nat.le_trans this (cnt_mono fun b _ hb => ?_)
    obtain ⟨i, hi, hk, hx⟩ := union_iff.1 hb
    refine union_iff.2 ⟨i, hi, hk, ?_⟩
    rw [Bool.and_eq_true] at hx
    have h1 : (t.getD i 0 &&& s).testBit b = true := hx.1
    rw [Nat.testBit_and, less_bit hsc]
    rw [Nat.testBit_and, Bool.and_eq_true] at h1
    rw [h1.1, h1.2, hx.2]
    rfl
theorem most_hall (l : List Nat) (s : Nat) : mostN l s = l.length ↔ Hall (fun i b => (l.getD i 0 &&& s).testBit b) l.length 8 := by
  constructor
  · intro h
    exact own_hall (part_own (by have := part_most l s; rwa [h] at this))
  · intro h
    have := part_le (hall_part h)
    have := most_len l s
    omega

/-- the least pCPU for the first mask that leaves the others one each -/
def firstC (h : Nat) (t : List Nat) (s : Nat) : Option Nat := (List.range 8).find? fun c => (h &&& s).testBit c && mostN t (s - 2 ^ c) == t.length
/-- the first choice -/
def firstL : List Nat → Nat → List Nat
  | [], _ => []
  | h :: t, s => match firstC h t s with
    | none => []
    | some c => c :: firstL t (s - 2 ^ c)
theorem first_there {h : Nat} {t : List Nat} {s : Nat} (hm : mostN (h :: t) s = t.length + 1) : ∃ c, firstC h t s = some c := by
  have hp := part_most (h :: t) s
  rw [hm] at hp
  cases hp with
  | skip hp => have := part_len hp; omega
  | take c hc hb hp =>
    have h1 := part_le hp
    have h2 := most_len t (s - 2 ^ c)
    have : firstC h t s ≠ none := by
      unfold firstC
      rw [Ne, List.find?_eq_none]
      intro hn
      have := hn c (List.mem_range.2 hc)
      rw [hb, show mostN t (s - 2 ^ c) = t.length by omega] at this
      simp at this
    exact Option.ne_none_iff_exists'.1 this
theorem first_facts {h : Nat} {t : List Nat} {s c : Nat} (hf : firstC h t s = some c) : c < 8 ∧ (h &&& s).testBit c = true ∧ mostN t (s - 2 ^ c) = t.length ∧ ∀ b, b < c → (h &&& s).testBit b = true → mostN t (s - 2 ^ b) ≠ t.length := by
  unfold firstC at hf
  rw [List.find?_range_eq_some] at hf
  obtain ⟨h1, h2, h3⟩ := hf
  rw [Bool.and_eq_true, beq_iff_eq] at h1
  refine ⟨List.mem_range.1 h2, h1.1, h1.2, fun b hb hbt e => ?_⟩
  have := h3 b hb
  rw [hbt, e] at this
  simp at this
theorem length_firstL {l : List Nat} {s : Nat} (h : mostN l s = l.length) : (firstL l s).length = l.length := by
  induction l generalizing s with
  | nil => rfl
  | cons a t ih =>
    obtain ⟨c, hc⟩ := first_there (by simpa using h)
    unfold firstL
    rw [hc]
    simp [ih (first_facts hc).2.2.1]

end Go.Proofs.YtldleijocjohgaaDoor
