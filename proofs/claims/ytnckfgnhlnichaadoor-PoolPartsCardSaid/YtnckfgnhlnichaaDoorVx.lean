/-
  Plain mathematics: pools part the first pCPUs; what keeps each pCPU's number of pools keeps them pools. No statement is proved here.
-/
import Derived.Test.YtnckfgnhlnichaaDoorVp
namespace Go.Proofs.YtnckfgnhlnichaaDoor
open Go.RowKit

theorem add_or (a : Nat) : ∀ b, a &&& b = 0 → a + b = a ||| b := by
  induction a using Nat.strongRecOn with
  | ind a ih =>
    intro b h
    by_cases ha : a = 0
    · subst ha; simp
    · have h1 := ih (a / 2) (by omega) (b / 2) (by rw [← Nat.and_div_two, h])
      have hd : (a ||| b) / 2 = a / 2 ||| b / 2 := Nat.or_div_two
      have hm1 : ¬ (a % 2 = 1 ∧ b % 2 = 1) := fun hh => by
        have := Nat.and_mod_two_eq_one.2 hh
        rw [h] at this
        cases this
      have hm2 : (a ||| b) % 2 = 1 ↔ a % 2 = 1 ∨ b % 2 = 1 := Nat.or_mod_two_eq_one
      rw [← h1] at hd
      generalize a ||| b = q at *
      rcases Nat.mod_two_eq_zero_or_one a with a0 | a0 <;> rcases Nat.mod_two_eq_zero_or_one b with b0 | b0
      · have : ¬ q % 2 = 1 := fun hh => by rcases hm2.1 hh with h' | h' <;> omega
        omega
      · have := hm2.2 (.inr b0); omega
      · have := hm2.2 (.inl a0); omega
      · exact absurd ⟨a0, b0⟩ hm1
theorem add_bit {a b : Nat} (h : a &&& b = 0) (c : Nat) : (a + b).testBit c = (a.testBit c || b.testBit c) := by rw [add_or a b h, Nat.testBit_or]
theorem sub_eq {x s : Nat} (h : s &&& x = s) : x - s = x ^^^ s := by
  have hb : ∀ c, s.testBit c = true → x.testBit c = true := fun c hc => by
    rw [← h, Nat.testBit_and, Bool.and_eq_true] at hc
    exact hc.2
  have h1 : (x ^^^ s) &&& s = 0 := by
    apply Nat.eq_of_testBit_eq
    intro c
    rw [Nat.testBit_and, Nat.testBit_xor, Nat.zero_testBit]
    cases hs : s.testBit c with
    | false => simp
    | true => rw [hb c hs]; rfl
  have h2 : (x ^^^ s) ||| s = x := by
    apply Nat.eq_of_testBit_eq
    intro c
    rw [Nat.testBit_or, Nat.testBit_xor]
    cases hs : s.testBit c with
    | false => simp
    | true => rw [hb c hs]; rfl
  have h3 := add_or _ _ h1
  rw [h2] at h3
  omega
theorem sub_bit {x s : Nat} (h : s &&& x = s) (c : Nat) : (x - s).testBit c = (x.testBit c && !s.testBit c) := by
  rw [sub_eq h, Nat.testBit_xor]
  cases hs : s.testBit c with
  | false => simp
  | true =>
    have : x.testBit c = true := by
      rw [← h, Nat.testBit_and, Bool.and_eq_true] at hs
      exact hs.2
    rw [this]; rfl

/-! ### in how many pools a pCPU is -/
def cntL (l : List Nat) (c : Nat) : Nat := l.countP fun s => s.testBit c
theorem cntL_nil (c : Nat) : cntL [] c = 0 := rfl
theorem cntL_append (a b : List Nat) (c : Nat) : cntL (a ++ b) c = cntL a c + cntL b c := by unfold cntL; rw [List.countP_append]
theorem cntL_one (x c : Nat) : cntL [x] c = if x.testBit c = true then 1 else 0 := by unfold cntL; rw [List.countP_singleton]
theorem cntL_step {l : List Nat} {k x : Nat} (hx : l[k]? = some x) (c : Nat) : cntL (l.take (k + 1)) c = cntL (l.take k) c + if x.testBit c = true then 1 else 0 := by
  rw [List.take_add_one, hx, cntL_append]
  exact congrArg _ (cntL_one x c)
theorem in_cnt {l : List Nat} {c : Nat} (hc : c < 8) : ∀ k, k ≤ l.length → inK l (c : Int) k = cntL (l.take k) c
  | 0, _ => rfl
  | k + 1, h => by
    have hx := at_getD (l := l) (k := k) (by omega)
    have ih := in_cnt (l := l) hc k (by omega)
    rw [cntL_step hx]
    cases hb : (l.getD k 0).testBit c with
    | true => rw [(inK_yes hx (by rw [has_bit hc]; exact hb)).1, ih]; rfl
    | false => rw [(inK_no hx (by rw [has_bit hc]; exact hb)).1, ih]; rfl
theorem of_cnt {l : List Nat} {c : Nat} (hc : c < 8) : (ofV l (c : Int)).2 = true ↔ cntL l c = 1 := by
  have h := in_cnt (l := l) hc l.length (Nat.le_refl _)
  rw [List.take_length] at h
  unfold ofV
  rw [h]
  split
  · rename_i h1; simp [h1]
  · rename_i h1; simp [h1]
theorem of_far {l : List Nat} {c : Int} (hc : cpuB c = false) : (ofV l c).2 = false := by
  have : ∀ k, inK l c k = 0 := fun k => by
    induction k with
    | zero => rfl
    | succ k ih =>
      show (if hasB (l.getD k 0 : Nat) c = true then _ else _) = _
      rw [if_neg (by unfold hasB; rw [hc]; simp), ih]
  unfold ofV
  rw [this, if_neg (by omega)]
def tot8 (l : List Nat) : Nat := cntL l 0 + cntL l 1 + cntL l 2 + cntL l 3 + cntL l 4 + cntL l 5 + cntL l 6 + cntL l 7
def bitN (x c : Nat) : Nat := if x.testBit c = true then 1 else 0
def cardB (x : Nat) : Bool := cardN x == bitN x 0 + bitN x 1 + bitN x 2 + bitN x 3 + bitN x 4 + bitN x 5 + bitN x 6 + bitN x 7
theorem card_all : (List.range 256).all cardB = true := by kernel_rfl
theorem card_bits {x : Nat} (h : x < 256) : cardN x = bitN x 0 + bitN x 1 + bitN x 2 + bitN x 3 + bitN x 4 + bitN x 5 + bitN x 6 + bitN x 7 := by
  have := List.all_eq_true.1 card_all x (List.mem_range.2 h)
  unfold cardB at this
  simpa using this
theorem sum_tot {l : List Nat} (hs : setsB l = true) : ∀ k, k ≤ l.length → sumK l k = tot8 (l.take k)
  | 0, _ => rfl
  | k + 1, h => by
    have hx := at_getD (l := l) (k := k) (by omega)
    have ih := sum_tot (l := l) hs k (by omega)
    have h8 := (sets_at hs hx).1
    rw [sumK_step hx, ih, card_bits h8]
    unfold tot8 bitN
    simp only [cntL_step hx]
    omega

/-- the first T pCPUs are in one pool each, no other in any -/
def Parted (l : List Nat) (T : Nat) : Prop := T ≤ 8 ∧ ∀ c, c < 8 → cntL l c = if c < T then 1 else 0
theorem parted_tot {l : List Nat} {T : Nat} (h : Parted l T) : tot8 l = T := by
  obtain ⟨h8, hc⟩ := h
  unfold tot8
  rw [hc 0 (by omega), hc 1 (by omega), hc 2 (by omega), hc 3 (by omega), hc 4 (by omega), hc 5 (by omega), hc 6 (by omega), hc 7 (by omega)]
  have : T = 0 ∨ T = 1 ∨ T = 2 ∨ T = 3 ∨ T = 4 ∨ T = 5 ∨ T = 6 ∨ T = 7 ∨ T = 8 := by omega
  rcases this with rfl | rfl | rfl | rfl | rfl | rfl | rfl | rfl | rfl <;> rfl
theorem each_parted {l : List Nat} (h : eachB l (tot8 l) = true) : Parted l (tot8 l) := by
  have he := each_iff.1 h
  have h8 : tot8 l ≤ 8 := by
    rcases Nat.lt_or_ge 8 (tot8 l) with hlt | hge
    · have := he 8 hlt
      rw [of_far (by decide)] at this
      cases this
    · exact hge
  have h1 : ∀ c, c < tot8 l → cntL l c = 1 := fun c hc => (of_cnt (by omega)).1 (he c hc)
  refine ⟨h8, ?_⟩
  have ht : tot8 l = cntL l 0 + cntL l 1 + cntL l 2 + cntL l 3 + cntL l 4 + cntL l 5 + cntL l 6 + cntL l 7 := rfl
  generalize tot8 l = T at *
  have hT : T = 0 ∨ T = 1 ∨ T = 2 ∨ T = 3 ∨ T = 4 ∨ T = 5 ∨ T = 6 ∨ T = 7 ∨ T = 8 := by omega
  have ones : ∀ c, c < 8 → c < T → cntL l c = 1 := fun c _ hc => h1 c hc
  have o0 := ones 0 (by omega)
  have o1 := ones 1 (by omega)
  have o2 := ones 2 (by omega)
  have o3 := ones 3 (by omega)
  have o4 := ones 4 (by omega)
  have o5 := ones 5 (by omega)
  have o6 := ones 6 (by omega)
  have o7 := ones 7 (by omega)
  intro c hc
  have hcc : c = 0 ∨ c = 1 ∨ c = 2 ∨ c = 3 ∨ c = 4 ∨ c = 5 ∨ c = 6 ∨ c = 7 := by omega
  rcases hcc with rfl | rfl | rfl | rfl | rfl | rfl | rfl | rfl <;> (split <;> omega)
theorem right_iff {l : List Nat} : rightP l = true ↔ (1 ≤ l.length ∧ l.length ≤ 4) ∧ setsB l = true ∧ ∃ T, Parted l T := by
  constructor
  · intro h
    obtain ⟨h1, h4, hs, he⟩ := right_parts8 h
    have ht := sum_tot hs l.length (Nat.le_refl _)
    rw [List.take_length] at ht
    rw [ht] at he
    exact ⟨⟨h1, h4⟩, hs, _, each_parted he⟩
  · rintro ⟨⟨h1, h4⟩, hs, T, hp⟩
    have ht := sum_tot hs l.length (Nat.le_refl _)
    rw [List.take_length, parted_tot hp] at ht
    unfold rightP
    rw [decide_eq_true h1, decide_eq_true h4, hs, ht]
    simp only [Bool.true_and]
    refine each_iff.2 fun c hc => (of_cnt (by have := hp.1; omega)).2 ?_
    rw [hp.2 c (by have := hp.1; omega), if_pos hc]
/-- pools in which each pCPU is as often as it was may be -/
theorem right_same {l l' : List Nat} (h : rightP l = true) (hc : ∀ c, c < 8 → cntL l' c = cntL l c) (h1 : 1 ≤ l'.length) (h4 : l'.length ≤ 4) (hs : setsB l' = true) : rightP l' = true := by
  obtain ⟨_, _, T, hT⟩ := right_iff.1 h
  exact right_iff.2 ⟨⟨h1, h4⟩, hs, T, hT.1, fun c h8 => by rw [hc c h8]; exact hT.2 c h8⟩
theorem cnt_one8 {l : List Nat} (h : rightP l = true) {c : Nat} (hc : c < 8) : cntL l c ≤ 1 := by
  obtain ⟨_, _, T, hT⟩ := right_iff.1 h
  rw [hT.2 c hc]
  split <;> omega

end Go.Proofs.YtnckfgnhlnichaaDoor
