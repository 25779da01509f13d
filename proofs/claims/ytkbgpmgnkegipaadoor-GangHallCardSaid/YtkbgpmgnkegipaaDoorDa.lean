/-
  Rows of rising places: the shorter ones first; and the search for the first of them. Plain mathematics; no statement is proved here.
-/
import Derived.Test.YtkbgpmgnkegipaaDoorGb
namespace Go.Proofs.YtkbgpmgnkegipaaDoor

/-- the place behind the last one -/
def nxt (p : List Int) : Nat := match p.getLast? with
  | none => 0
  | some x => (x + 1).toNat
/-- the rows that are one place longer, the places below j -/
def kidsTo (p : List Int) (j : Nat) : List (List Int) := ((List.range j).drop (nxt p)).map fun (i : Nat) => p ++ [(i : Int)]
def kids (N : Nat) (p : List Int) : List (List Int) := kidsTo p N
def lev (N : Nat) : Nat → List (List Int)
  | 0 => [[]]
  | k + 1 => (lev N k).flatMap (kids N)
/-- the rows behind one, d places longer -/
def desc (N : Nat) : Nat → List Int → List (List Int)
  | 0, p => [p]
  | d + 1, p => (kids N p).flatMap (desc N d)
theorem desc_more (N : Nat) : ∀ (d : Nat) (p : List Int), desc N (d + 1) p = (desc N d p).flatMap (kids N)
  | 0, p => by simp [desc]
  | d + 1, p => by
    show (kids N p).flatMap (desc N (d + 1)) = ((kids N p).flatMap (desc N d)).flatMap (kids N)
    rw [List.flatMap_assoc]
    congr 1
    funext q
    exact desc_more N d q
theorem lev_desc (N : Nat) : ∀ k, lev N k = desc N k []
  | 0 => rfl
  | k + 1 => by rw [desc_more, ← lev_desc N k]; rfl
theorem kidsTo_zero (p : List Int) {j : Nat} (h : j ≤ nxt p) : kidsTo p j = [] := by
  unfold kidsTo
  rw [List.drop_of_length_le (by rw [List.length_range]; exact h)]
  rfl
theorem kidsTo_step (p : List Int) {j : Nat} (h : nxt p ≤ j) : kidsTo p (j + 1) = kidsTo p j ++ [p ++ [(j : Int)]] := by
  unfold kidsTo
  rw [List.range_succ, List.drop_append_of_le_length (by rw [List.length_range]; exact h), List.map_append]
  rfl
theorem kidsTo_len (p : List Int) (j : Nat) : (kidsTo p j).length = j - nxt p := by unfold kidsTo; rw [List.length_map, List.length_drop, List.length_range]
/-- what is still to come of a row: itself, and all that are longer -/
def wt (N : Nat) (p : List Int) : Nat := 2 ^ (N - nxt p)
def wts (N : Nat) (Q : List (List Int)) : Nat := (Q.map (wt N)).sum
theorem nxt_snoc (p : List Int) (i : Nat) : nxt (p ++ [(i : Int)]) = i + 1 := by
  unfold nxt
  rw [List.getLast?_append]
  simp
theorem wts_append (N : Nat) (A B : List (List Int)) : wts N (A ++ B) = wts N A + wts N B := by unfold wts; rw [List.map_append, List.sum_append]
theorem wts_kidsTo (N : Nat) (p : List Int) : ∀ {j : Nat}, nxt p ≤ j → j ≤ N → wts N (kidsTo p j) + 2 ^ (N - j) = 2 ^ (N - nxt p)
  | j, h1, h2 => by
    obtain ⟨d, rfl⟩ : ∃ d, j = nxt p + d := ⟨j - nxt p, by omega⟩
    induction d with
    | zero => rw [kidsTo_zero p (by omega)]; simp [wts]
    | succ d ih =>
      have h := ih (by omega) (by omega)
      rw [show nxt p + (d + 1) = (nxt p + d) + 1 by omega, kidsTo_step p (by omega), wts_append]
      have e : wts N [p ++ [((nxt p + d : Nat) : Int)]] = 2 ^ (N - (nxt p + d + 1)) := by unfold wts wt; simp only [List.map_cons, List.map_nil, List.sum_cons, List.sum_nil]; rw [nxt_snoc]; simp
      rw [e]
      have e2 : 2 ^ (N - (nxt p + d)) = 2 * 2 ^ (N - (nxt p + d + 1)) := by
        rw [show N - (nxt p + d) = (N - (nxt p + d + 1)) + 1 by omega, Nat.pow_succ]
        omega
      omega
/-- one row taken, those that are one place longer laid behind all others -/
theorem wts_turn (N : Nat) (p : List Int) (Q : List (List Int)) (h : nxt p ≤ N) : wts N (Q ++ kids N p) + 1 = wts N (p :: Q) := by
  have h1 := wts_kidsTo N p h (Nat.le_refl N)
  have e : wts N (p :: Q) = wt N p + wts N Q := by unfold wts; rw [List.map_cons, List.sum_cons]
  rw [wts_append, e]
  unfold wt kids
  rw [Nat.sub_self] at h1
  omega
theorem wts_len (N : Nat) : ∀ Q : List (List Int), Q.length ≤ wts N Q
  | [] => Nat.le_refl _
  | p :: Q => by
    have := wts_len N Q
    have e : wts N (p :: Q) = wt N p + wts N Q := by unfold wts; rw [List.map_cons, List.sum_cons]
    have h : 1 ≤ wt N p := Nat.one_le_two_pow
    rw [e, List.length_cons]
    omega
/-- rising places below N, and no more of them than N -/
structure Rising (N : Nat) (p : List Int) : Prop where
  place : ∀ x ∈ p, 0 ≤ x ∧ x < (nxt p : Int)
  rise : p.Pairwise (· < ·)
  len : p.length ≤ nxt p
  low : nxt p ≤ N
theorem rising_nil (N : Nat) : Rising N [] := ⟨fun x h => (by cases h), List.Pairwise.nil, Nat.le_refl _, Nat.zero_le _⟩
theorem rising_kid {N : Nat} {p : List Int} (h : Rising N p) {i : Nat} (h1 : nxt p ≤ i) (h2 : i < N) : Rising N (p ++ [(i : Int)]) := by
  have e := nxt_snoc p i
  refine ⟨fun x hx => ?_, ?_, ?_, ?_⟩
  · rw [e]
    rcases List.mem_append.1 hx with hx | hx
    · have := h.place x hx; omega
    · rw [List.mem_singleton] at hx; omega
  · rw [List.pairwise_append]
    refine ⟨h.rise, List.pairwise_singleton _ _, fun x hx y hy => ?_⟩
    rw [List.mem_singleton] at hy
    have := h.place x hx
    omega
  · rw [e, List.length_append, List.length_singleton]
    have := h.len
    omega
  · omega
theorem mem_kidsTo {p q : List Int} {j : Nat} (h : q ∈ kidsTo p j) : ∃ i : Nat, nxt p ≤ i ∧ i < j ∧ q = p ++ [(i : Int)] := by
  unfold kidsTo at h
  obtain ⟨i, hi, rfl⟩ := List.mem_map.1 h
  obtain ⟨k, hk⟩ := List.mem_iff_getElem?.1 hi
  rw [List.getElem?_drop] at hk
  have hl := (List.getElem?_eq_some_iff.1 hk).1
  rw [List.length_range] at hl
  have e := (List.getElem?_eq_some_iff.1 hk).2
  rw [List.getElem_range] at e
  exact ⟨i, by omega, by omega, rfl⟩
theorem rising_kids {N : Nat} {p q : List Int} (h : Rising N p) (hq : q ∈ kids N p) : Rising N q ∧ q.length = p.length + 1 := by
  obtain ⟨i, h1, h2, rfl⟩ := mem_kidsTo hq
  exact ⟨rising_kid h h1 h2, by simp⟩
theorem lev_rising (N : Nat) : ∀ (k : Nat) (p : List Int), p ∈ lev N k → Rising N p ∧ p.length = k
  | 0, p, h => by
    rw [show p = [] by simpa [lev] using h]
    exact ⟨rising_nil N, rfl⟩
  | k + 1, p, h => by
    obtain ⟨q, hq, hp⟩ := List.mem_flatMap.1 (show p ∈ (lev N k).flatMap (kids N) from h)
    obtain ⟨h1, h2⟩ := lev_rising N k q hq
    have h3 := rising_kids h1 hp
    exact ⟨h3.1, by rw [h3.2, h2]⟩
theorem lev_past (N : Nat) {k : Nat} (h : N < k) : lev N k = [] := by
  rw [List.eq_nil_iff_forall_not_mem]
  intro p hp
  obtain ⟨h1, h2⟩ := lev_rising N k p hp
  have := h1.len
  have := h1.low
  omega
/-- all of them, level by level -/
def selTo (N k : Nat) : List (List Int) := (List.range k).flatMap (lev N)
theorem selTo_step (N k : Nat) : selTo N (k + 1) = selTo N k ++ lev N k := by unfold selTo; rw [List.range_succ, List.flatMap_append]; simp
def selL (N : Nat) : List (List Int) := selTo N (N + 1)
theorem selTo_past (N : Nat) : ∀ d, selTo N (N + 1 + d) = selL N
  | 0 => rfl
  | d + 1 => by
    rw [show N + 1 + (d + 1) = (N + 1 + d) + 1 by omega, selTo_step, lev_past N (by omega), List.append_nil]
    exact selTo_past N d
/-- what has been handed out, and the rows that wait -/
def Ahead (N : Nat) (pre Q : List (List Int)) : Prop := ∃ (k : Nat) (done rest : List (List Int)), lev N k = done ++ rest ∧ pre = selTo N k ++ done ∧ Q = rest ++ done.flatMap (kids N)
theorem ahead_zero (N : Nat) : Ahead N [] [[]] := ⟨0, [], [[]], rfl, rfl, rfl⟩
theorem ahead_turn {N : Nat} {pre Q : List (List Int)} {p : List Int} (h : Ahead N pre (p :: Q)) : Ahead N (pre ++ [p]) (Q ++ kids N p) := by
  obtain ⟨k, done, rest, h1, h2, h3⟩ := h
  cases rest with
  | cons q rest =>
    rw [List.cons_append] at h3
    injection h3 with e h3
    subst e
    refine ⟨k, done ++ [p], rest, by rw [h1]; simp, by rw [h2]; simp, by rw [h3]; simp⟩
  | nil =>
    rw [List.append_nil] at h1
    rw [List.nil_append, ← h1] at h3
    have h4 : lev N (k + 1) = p :: Q := h3.symm
    refine ⟨k + 1, [p], Q, h4, by rw [selTo_step, h2, h1], by simp⟩
theorem ahead_mem {N : Nat} {pre Q : List (List Int)} (h : Ahead N pre Q) : ∀ p ∈ Q, Rising N p := by
  obtain ⟨k, done, rest, h1, _, h3⟩ := h
  intro p hp
  rw [h3] at hp
  rcases List.mem_append.1 hp with hp | hp
  · exact (lev_rising N k p (by rw [h1]; exact List.mem_append_right _ hp)).1
  · obtain ⟨q, hq, hpq⟩ := List.mem_flatMap.1 hp
    exact (rising_kids (lev_rising N k q (by rw [h1]; exact List.mem_append_left _ hq)).1 hpq).1
theorem selTo_prefix (N k : Nat) : ∀ d, selTo N k <+: selTo N (k + d)
  | 0 => List.prefix_refl _
  | d + 1 => (selTo_prefix N k d).trans (by rw [show k + (d + 1) = (k + d) + 1 by omega, selTo_step]; exact List.prefix_append _ _)
theorem ahead_prefix {N : Nat} {pre Q : List (List Int)} (h : Ahead N pre Q) : pre <+: selL N := by
  obtain ⟨k, done, rest, h1, h2, _⟩ := h
  have h3 : pre <+: selTo N (k + 1) := by rw [h2, selTo_step, h1, ← List.append_assoc]; exact List.prefix_append _ _
  refine h3.trans ?_
  rcases Nat.lt_or_ge k (N + 1) with hk | hk
  · have := selTo_prefix N (k + 1) (N - k)
    rw [show k + 1 + (N - k) = N + 1 by omega] at this
    exact this
  · have := selTo_past N (k - N)
    rw [show N + 1 + (k - N) = k + 1 by omega] at this
    rw [this]
    exact List.prefix_refl _
theorem ahead_end {N : Nat} {pre : List (List Int)} (h : Ahead N pre []) : pre = selL N := by
  obtain ⟨k, done, rest, h1, h2, h3⟩ := h
  have hr : rest = [] := by cases rest with
    | nil => rfl
    | cons a b => cases h3
  subst hr
  rw [List.append_nil] at h1
  rw [List.nil_append, ← h1] at h3
  have hk : pre = selTo N (k + 1) := by rw [selTo_step, h2, h1]
  have hl : lev N (k + 1) = [] := h3.symm
  -- no row is longer
  have hall : ∀ d, lev N (k + 1 + d) = [] := by
    intro d
    induction d with
    | zero => exact hl
    | succ d ih =>
      show (lev N (k + 1 + d)).flatMap (kids N) = []
      rw [ih]
      rfl
  have hsel : ∀ d, selTo N (k + 1 + d) = selTo N (k + 1) := by
    intro d
    induction d with
    | zero => rfl
    | succ d ih => rw [show k + 1 + (d + 1) = (k + 1 + d) + 1 by omega, selTo_step, hall, List.append_nil, ih]
  rw [hk]
  rcases Nat.lt_or_ge (k + 1) (N + 1) with h | h
  · have := hsel (N + 1 - (k + 1))
    rw [show k + 1 + (N + 1 - (k + 1)) = N + 1 by omega] at this
    exact this.symm
  · have := selTo_past N (k + 1 - (N + 1))
    rw [show N + 1 + (k + 1 - (N + 1)) = k + 1 by omega] at this
    exact this

end Go.Proofs.YtkbgpmgnkegipaaDoor
