/-
  What is placed, in a map; what those ahead took (for PlaceWaits). No statement is proved here.
-/
import Derived.Test.YtldleijocjohgaaDoorGq
import Derived.Maps.OwnSet
import Derived.Maps.OwnOps
import Derived.Maps.Views
import Derived.Carry
namespace Go.Proofs.YtldleijocjohgaaDoor
open Go.RowKit Go.Maps

/-! ### the map -/
def valP (ps : List (Int × Int)) (v : Int) : Int × Bool := match ps.find? (fun p => p.1 == v) with
  | some p => (p.2, true)
  | none => (0, false)
theorem val_snoc {ps : List (Int × Int)} {v c x : Int} (h : ps.find? (fun p => p.1 == v) = none) : valP (ps ++ [(v, c)]) x = if v = x then (c, true) else valP ps x := by
  unfold valP
  rw [List.find?_append]
  by_cases e : v = x
  · subst e
    rw [h, if_pos rfl]
    simp
  · rw [if_neg e]
    cases hf : ps.find? (fun p => p.1 == x) with
    | none => simp [e]
    | some p => simp
set_option maxRecDepth 100000 in
theorem zero_int (w : World) : (zeroValue 3).run Tryd.prog w = .ok (.int .i64 0) w := by kernel_rfl
def HoldsP (D : DataW Unit) (ps : List (Int × Int)) : Prop := ∀ x : Int, D.atKey (.int .i64 x) (.lit (.int .i64 0)) = .lit (.int .i64 (valP ps x).1) ∧ Maps.has D (.int .i64 x) = (valP ps x).2
theorem holdsP_empty : HoldsP (.map []) [] := fun l => ⟨atKey_of_not_has (by simp [has_eq]) _, by simp [has_eq, valP]⟩
theorem holdsP_put {D : DataW Unit} {ps : List (Int × Int)} {v c : Int} (h : HoldsP D ps) (hD : IsMap D) (hn : ps.find? (fun p => p.1 == v) = none) : HoldsP (D.put (.int .i64 v) (.lit (.int .i64 c))) (ps ++ [(v, c)]) := fun x => by
  rw [val_snoc hn]
  by_cases e : v = x
  · subst e
    rw [if_pos rfl]
    exact ⟨atKey_put_same hD (by trivial) _ _, has_put_same hD (by trivial) _⟩
  · rw [if_neg e, atKey_put_other (by intro h; injection h with _ h; exact e h.symm), has_put_other (by intro h; injection h with _ h; exact e h.symm)]
    exact h x
/-- block b is a map of placements -/
structure MP (w : World) (b : Nat) (ps : List (Int × Int)) : Prop where
  own : ∃ n D, n ≤ ps.length ∧ w.ownsMap Tryd.prog 3 (plainElem (H := Unit) Tryd.prog 3) b n D ∧ HoldsP D ps
section
variable {w w' : World} {b : Nat} {ps : List (Int × Int)}
theorem MP.made (w : World) : MP (w.alloc (.map #[] 0)) w.heap.size [] := ⟨0, .map [], Nat.le_refl _, World.ownsMap_made _ _ _ _, holdsP_empty⟩
theorem MP.lt (h : MP w b ps) : b < w.heap.size := by obtain ⟨n, D, _, h1, _⟩ := h.own; exact h1.lt
theorem MP.alloc (h : MP w b ps) (o : Obj) : MP (w.alloc o) b ps := by obtain ⟨n, D, h0, h1, h2⟩ := h.own; exact ⟨n, D, h0, h1.alloc o, h2⟩
theorem MP.below {B : Nat} (h : MP w b ps) (hb : Below B w w') (hB : b < B) : MP w' b ps := by
  obtain ⟨n, D, h0, ⟨es, clock, hh, F, hs, hD⟩, h2⟩ := h.own
  exact ⟨n, D, h0, ⟨es, clock, (hb.block b hB).trans hh, F, hs, hD⟩, h2⟩
set_option maxRecDepth 100000 in
theorem MP.look (h : MP w b ps) (x : Int) (hx : (Lit.int .i64 x).wf = true) : (Instr.lookup 54 (.map (some b)) (.int .i64 x) true).run Tryd.prog w = .ok (.tuple #[.int .i64 (valP ps x).1, .bool (valP ps x).2]) w := by
  obtain ⟨n, D, h0, h1, h2⟩ := h.own
  obtain ⟨v, qs, hrun, hv⟩ := h1.look_ok (int_keyed Tryd.underlying3) Tryd.underlying54 (zero_int w) (plainElem_int Tryd.underlying3 (a := 0) (by decide)) (key := .int .i64 x) (kl := .int .i64 x) (keyOf_int_mk Tryd.underlying3 hx)
  rw [(h2 x).1] at hv
  obtain ⟨a, rfl, ha, _⟩ := plainElem_int_inv Tryd.underlying3 hv
  injection ha with ha _
  injection ha with ha
  injection ha with _ ha
  rw [hrun, (h2 x).2, ha]
set_option maxRecDepth 100000 in
theorem MP.store (h : MP w b ps) {v c : Int} (hv : (Lit.int .i64 v).wf = true) (hc : (Lit.int .i64 c).wf = true) (hn : ps.find? (fun p => p.1 == v) = none) (hl : ps.length < maxLen) :
    ∃ w', (Instr.mapUpdate 54 (.map (some b)) (.int .i64 v) (.int .i64 c)).run Tryd.prog w = .ok () w' ∧ MP w' b (ps ++ [(v, c)]) ∧ w.grownBy w' (some b) := by
  obtain ⟨n, D, h0, h1, h2⟩ := h.own
  obtain ⟨w', hrun, r1, r2⟩ := h1.store (int_keyed Tryd.underlying3) Tryd.underlying54 (by omega) (keyOf_int_mk Tryd.underlying3 hv) (plainElem_int Tryd.underlying3 hc)
  exact ⟨w', hrun, ⟨⟨n + 1, _, by rw [List.length_append]; exact Nat.succ_le_succ h0, r1, holdsP_put h2 h1.isMap hn⟩⟩, r2.grown⟩
end
theorem Blk.ofMap {w w' : World} {b g : Nat} {t : TypeId} {cs : Array Value} {ps : List (Int × Int)} (h : Blk w g t cs) (m : MP w b ps) (hg : w.grownBy w' (some b)) : Blk w' g t cs := by
  obtain ⟨_, _, _, ⟨es, clock, hh, _⟩, _⟩ := m.own
  refine (hg.block g h.lt (fun e => ?_)).trans h
  injection e with e
  subst e
  unfold Blk at h
  rw [hh] at h
  cases h

/-! ### Within -/
def withinV (l : List Int) (t : Int) : Bool := l.all (hasB t)
theorem not_nat {n m : Nat} (hm : m < 2 ^ 32) : n % 256 &&& (4294967295 - m) = 0 ↔ ∀ i, i < 8 → n.testBit i = true → m.testBit i = true := by
  have e : 4294967295 - m = 2 ^ 32 - (m + 1) := by omega
  have e2 : n % 256 = n % 2 ^ 8 := rfl
  rw [e, e2]
  constructor
  · intro h i hi ht
    have := congrArg (fun x => x.testBit i) h
    simp only [Nat.testBit_and, Nat.testBit_mod_two_pow, Nat.testBit_two_pow_sub_succ hm, Nat.zero_testBit] at this
    rw [ht] at this
    simpa [hi, show i < 32 by omega] using this
  · intro h
    apply Nat.eq_of_testBit_eq
    intro i
    simp only [Nat.testBit_and, Nat.testBit_mod_two_pow, Nat.testBit_two_pow_sub_succ hm, Nat.zero_testBit]
    by_cases hi : i < 8
    · cases ht : n.testBit i with
      | false => simp
      | true => rw [h i hi ht]; simp
    · simp [hi]

theorem within_eq {s t : Int} (h0 : 0 ≤ s) (t0 : 0 ≤ t) (t1 : t < 4294967296) : (bits .andNot .u32 (s % 256) t == 0) = withinV (mem s) t := by
  obtain ⟨n, rfl⟩ := Int.eq_ofNat_of_zero_le h0
  obtain ⟨m, rfl⟩ := Int.eq_ofNat_of_zero_le t0
  rw [u32_andNot _ _ (by omega) (by omega) t0 t1]
  have e1 : ((n : Int) % 256).toNat = n % 256 := by omega
  rw [e1, Int.toNat_natCast, Bool.eq_iff_iff]
  have h := not_nat (n := n) (m := m) (by omega)
  unfold withinV mem memb
  simp only [beq_iff_eq, List.all_eq_true, List.mem_filter, List.mem_map, List.mem_range]
  constructor
  · rintro hz x ⟨⟨i, hi, rfl⟩, hb⟩
    rw [has_bit hi] at hb ⊢
    exact h.1 (by exact_mod_cast hz) i hi hb
  · intro hz
    have : n % 256 &&& (4294967295 - m) = 0 := h.2 fun i hi ht => by
      rw [← has_bit hi] at ht ⊢
      exact hz (i : Int) ⟨⟨i, hi, rfl⟩, ht⟩
    exact_mod_cast this

set_option maxRecDepth 100000 in
set_option maxHeartbeats 400000 in
theorem within_any (s t : Int) (w : World) (h0 : 0 ≤ s) (h1 : s < 4294967296) (t0 : 0 ≤ t) (t1 : t < 4294967296) : Calls Tryd.prog 24 #[.int .u32 s, .int .u32 t] w fun e w' => e = .returned (.bool (withinV (mem s) t)) ∧ w = w' := by
  have HE := Lib.hid (within_eq h0 t0 t1)
  have ha := and_all h0 h1
  clear h0 h1 t0 t1
  generalize withinV (mem s) t = B at *
  generalize s % 256 = X at *
  go_enter Tryd.func24, Tryd.ntmps24
  go_wp2
  go_ret
  exact ⟨retB (by rw [← HE.out]), rfl⟩


/-! ### what those ahead took -/
theorem lefts_sub : ∀ (l : List Wi) (S : Nat), (∀ w ∈ l, UW w ∧ rightM (w.h, w.s) = true) → S < 256 → ∀ k : Nat, k < 8 → hasB (lefts bestW l S : Int) (k : Int) = true → hasB (S : Int) (k : Int) = true := by
  intro l
  induction l with
  | nil => exact fun S _ _ k _ h => h
  | cons w l ih =>
    intro S h hS k hk hb
    obtain ⟨hu, hr⟩ := h w List.mem_cons_self
    have hb : hasB (lefts bestW l (afterS S (bestW w S).1 (bestW w S).2) : Int) (k : Int) = true := hb
    have := ih _ (fun x hx => h x (List.mem_cons_of_mem _ hx)) (after_small _ _ hS) k hk hb
    cases hp : (bestW w S).2 with
    | false => rw [hp, after_no] at this; exact this
    | true =>
      rw [hp, after_yes, out_has hS (al_in hu hr hS ((best_facts hu S).1 hp))] at this
      simp only [Bool.and_eq_true] at this
      exact this.1
theorem puts_free : ∀ (l : List Wi) (S : Nat), (∀ w ∈ l, UW w ∧ rightM (w.h, w.s) = true) → S < 256 → ∀ p ∈ putsOf (tus bestW l S), hasB (S : Int) p.2 = true ∧ hasB (lefts bestW l S : Int) p.2 = false := by
  intro l
  induction l with
  | nil => intro S _ _ p hp; cases hp
  | cons w l ih =>
    intro S h hS p hp
    obtain ⟨hu, hr⟩ := h w List.mem_cons_self
    have hl := fun x hx => h x (List.mem_cons_of_mem _ hx)
    have e : tus bestW (w :: l) S = ⟨w, (bestW w S).1, (bestW w S).2, S⟩ :: tus bestW l (afterS S (bestW w S).1 (bestW w S).2) := rfl
    have e2 : lefts bestW (w :: l) S = lefts bestW l (afterS S (bestW w S).1 (bestW w S).2) := rfl
    rw [e, puts_cons] at hp
    rw [e2]
    cases hq : (bestW w S).2 with
    | false =>
      rw [hq, after_no, if_neg (by simp)] at hp
      rw [after_no]
      exact ih S hl hS p hp
    | true =>
      rw [hq, after_yes, if_pos rfl] at hp
      rw [after_yes]
      have hc := al_in hu hr hS ((best_facts hu S).1 hq)
      rcases List.mem_cons.1 hp with rfl | hp
      · refine ⟨hc, ?_⟩
        obtain ⟨c0, c1⟩ := cpuB_true (has_cpu hc)
        obtain ⟨k, hk⟩ := Int.eq_ofNat_of_zero_le c0
        have e3 : hasB (outN S (bestW w S).1 : Int) (k : Int) = false := by rw [out_has hS hc, hk]; simp
        cases hf : hasB (lefts bestW l (outN S (bestW w S).1) : Int) (bestW w S).1 with
        | false => rfl
        | true =>
          rw [hk] at hf e3
          have hf' : hasB (lefts bestW l (outN S (bestW w S).1) : Int) (k : Int) = true := by rw [hk]; exact hf
          have := lefts_sub l _ hl (out_small _ hS) k (by omega) hf'
          rw [hk, e3] at this
          cases this
      · obtain ⟨i1, i2⟩ := ih _ hl (out_small _ hS) p hp
        refine ⟨?_, i2⟩
        rw [out_has hS hc] at i1
        simp only [Bool.and_eq_true] at i1
        exact i1.1
theorem puts_vs (T : Wi → Nat → Int × Bool) : ∀ (l : List Wi) (S : Nat), ((putsOf (tus T l S)).map (·.1)).Sublist (l.map (·.v)) := by
  intro l
  induction l with
  | nil => exact fun S => List.Sublist.refl _
  | cons w l ih =>
    intro S
    have e : tus T (w :: l) S = ⟨w, (T w S).1, (T w S).2, S⟩ :: tus T l (afterS S (T w S).1 (T w S).2) := rfl
    rw [e, puts_cons, List.map_cons]
    split
    · rw [List.map_cons]; exact (ih _).cons_cons _
    · exact (ih _).cons _
theorem puts_none {T : Wi → Nat → Int × Bool} {l : List Wi} {S : Nat} {v : Int} (h : ∀ w ∈ l, w.v ≠ v) : (putsOf (tus T l S)).find? (fun p => p.1 == v) = none := by
  rw [List.find?_eq_none]
  intro p hp
  have hm : p.1 ∈ (putsOf (tus T l S)).map (·.1) := List.mem_map.2 ⟨p, hp, rfl⟩
  obtain ⟨w, hw, e⟩ := List.mem_map.1 ((puts_vs T l S).subset hm)
  have := h w hw
  simp only [beq_iff_eq]
  omega
/-- the map tells each wish's turn -/
theorem val_turn {l : List Wi} {S : Nat} (hr : rightW l = true) (hU : ∀ w ∈ l, UW w) {k : Nat} {w : Wi} (hk : l[k]? = some w) : valP (putsOf (tus bestW l S)) w.v = bestW w (lefts bestW (l.take k) S) := by
  have hpw := right_apart hr
  have hlt := (List.getElem?_eq_some_iff.1 hk).1
  have hd : l.drop k = w :: l.drop (k + 1) := by
    obtain ⟨hl, e⟩ := List.getElem?_eq_some_iff.1 hk
    rw [← e]; exact List.drop_eq_getElem_cons hl
  have hpre : ∀ x ∈ l.take k, x.v ≠ w.v := fun x hx => by
    have h2 := (right_wish hr hk).2
    unfold fitB at h2
    rw [List.all_eq_true] at h2
    have := h2 x hx
    simp only [Bool.and_eq_true, Bool.not_eq_true', beq_eq_false_iff_ne] at this
    exact this.1
  have hpost : ∀ x ∈ l.drop (k + 1), x.v ≠ w.v := fun x hx => by
    obtain ⟨j, hj⟩ := List.mem_iff_getElem?.1 hx
    rw [List.getElem?_drop] at hj
    obtain ⟨hj1, hj2⟩ := List.getElem?_eq_some_iff.1 hj
    obtain ⟨hk1, hk2⟩ := List.getElem?_eq_some_iff.1 hk
    have := (List.pairwise_iff_getElem.1 hpw) k (k + 1 + j) hk1 hj1 (by omega)
    rw [hk2, hj2] at this
    exact fun e => this e.symm
  have hw : UW w := hU w (List.mem_of_getElem? hk)
  rw [puts_parts l S k, hd]
  generalize lefts bestW (l.take k) S = L
  have e : tus bestW (w :: l.drop (k + 1)) L = ⟨w, (bestW w L).1, (bestW w L).2, L⟩ :: tus bestW (l.drop (k + 1)) (afterS L (bestW w L).1 (bestW w L).2) := rfl
  unfold valP
  rw [List.find?_append, puts_none hpre, e, puts_cons]
  cases hp : (bestW w L).2 with
  | true =>
    rw [if_pos rfl]
    simp only [List.find?_cons, beq_self_eq_true, Option.none_or]
    exact Prod.ext rfl hp.symm
  | false =>
    rw [if_neg (by simp), Option.none_or, puts_none hpost]
    exact Prod.ext ((best_facts hw L).2.1 hp).2.symm hp.symm

/-- what was free and is so no more -/
def ahA (S L : Nat) : Nat := S &&& (255 ^^^ L)
theorem ah_bit {S L : Nat} (_hL : L < 256) (k : Nat) (hk : k < 8) : (ahA S L).testBit k = (S.testBit k && !L.testBit k) := by
  unfold ahA
  rw [Nat.testBit_and, Nat.testBit_xor]
  have : (255 : Nat).testBit k = true := by rcases below8 hk with rfl | rfl | rfl | rfl | rfl | rfl | rfl | rfl <;> rfl
  rw [this]
  cases L.testBit k <;> rfl
theorem ah_lt {S L : Nat} (hS : S < 256) : ahA S L < 256 := Nat.lt_of_le_of_lt Nat.and_le_left hS
theorem ah_same {S : Nat} (hS : S < 256) : ahA S S = 0 := by
  apply Nat.eq_of_testBit_eq
  intro i
  rw [Nat.zero_testBit]
  by_cases hi : i < 8
  · rw [ah_bit hS i hi]; cases S.testBit i <;> rfl
  · exact Nat.testBit_lt_two_pow (Nat.lt_of_lt_of_le (ah_lt hS) (by rw [show (256 : Nat) = 2 ^ 8 by decide]; exact Nat.pow_le_pow_right (by decide) (by omega)))
theorem small_ext {a b : Nat} (ha : a < 256) (hb : b < 256) (h : ∀ k, k < 8 → a.testBit k = b.testBit k) : a = b := by
  apply Nat.eq_of_testBit_eq
  intro i
  by_cases hi : i < 8
  · exact h i hi
  · have p : 256 ≤ 2 ^ i := by rw [show (256 : Nat) = 2 ^ 8 by decide]; exact Nat.pow_le_pow_right (by decide) (by omega)
    rw [Nat.testBit_lt_two_pow (Nat.lt_of_lt_of_le ha p), Nat.testBit_lt_two_pow (Nat.lt_of_lt_of_le hb p)]
theorem or_small {a b : Nat} (ha : a < 256) (hb : b < 256) : a ||| b < 256 := Nat.or_lt_two_pow (n := 8) ha hb
theorem ah_step {S L c : Nat} (hS : S < 256) (hL : L < 256) (hc : c < 8) (h1 : L.testBit c = true) (h2 : S.testBit c = true) : ahA S (outN L (c : Int)) = ahA S L ||| 2 ^ c := by
  have h2c : 2 ^ c < 256 := by rcases below8 hc with rfl | rfl | rfl | rfl | rfl | rfl | rfl | rfl <;> decide
  refine small_ext (ah_lt hS) (or_small (ah_lt hS) h2c) fun k hk => ?_
  have h3 := out_has hL (c := (c : Int)) (by rw [has_bit hc]; exact h1) (k : Int)
  rw [has_bit hk, has_bit hk] at h3
  rw [ah_bit (out_small _ hL) k hk, h3, Nat.testBit_or, ah_bit hL k hk, Nat.testBit_two_pow]
  have e : ((k : Int) == (c : Int)) = decide (c = k) := by
    by_cases h : c = k
    · subst h; simp
    · have : ¬ (k : Int) = (c : Int) := by omega
      rw [beq_eq_false_iff_ne.2 this, decide_eq_false h]
  rw [e]
  by_cases h : c = k
  · subst h; rw [h1, h2]; simp
  · rw [decide_eq_false h]; cases S.testBit k <;> cases L.testBit k <;> rfl
theorem ah_done {S L : Nat} (hS : S < 256) (hL : L < 256) (h : ∀ k : Nat, k < 8 → hasB (L : Int) (k : Int) = true → hasB (S : Int) (k : Int) = true) : ahA S L ||| L = S := by
  refine small_ext (or_small (ah_lt hS) hL) hS fun k hk => ?_
  have := h k hk
  rw [has_bit hk, has_bit hk] at this
  rw [Nat.testBit_or, ah_bit hL k hk]
  cases hl : L.testBit k with
  | false => simp
  | true => rw [this hl]; rfl
/-- who waits finds all taken by those ahead; who is placed has what is not -/
theorem turn_facts {w : Wi} {S L : Nat} (hu : UW w) (hr : rightM (w.h, w.s) = true) (hS : S < 256) (hL : L < 256) (hsub : ∀ k : Nat, k < 8 → hasB (L : Int) (k : Int) = true → hasB (S : Int) (k : Int) = true) :
    ((bestW w L).2 = false → withinV (mem (alW w S : Int)) (ahA S L : Int) = true) ∧
    ((bestW w L).2 = true → ∃ c : Nat, (bestW w L).1 = (c : Int) ∧ c < 8 ∧ L.testBit c = true ∧ S.testBit c = true ∧ hasB (alW w S : Int) (c : Int) = true ∧ hasB (ahA S L : Int) (c : Int) = false ∧
      (hasB (alW w S : Int) w.a = true → hasB (ahA S L : Int) w.a = false → (c : Int) = w.a)) := by
  obtain ⟨b1, b2, b3⟩ := best_facts hu L
  constructor
  · intro h
    have h0 := (b2 h).1
    unfold withinV mem memb
    rw [List.all_eq_true]
    intro x hx
    rw [List.mem_filter, List.mem_map] at hx
    obtain ⟨⟨k, hk, rfl⟩, hb⟩ := hx
    have hk := List.mem_range.1 hk
    have hz : hasB (alW w L : Int) (k : Int) = false := by rw [h0]; exact has_zero _
    rw [alW_has hu hr hL k hk] at hz
    rw [alW_has hu hr hS k hk] at hb
    rw [has_bit hk, ah_bit hL k hk]
    cases h1 : w.h.toNat.testBit k <;> cases h2 : S.testBit k <;> cases h3 : L.testBit k <;> rw [h1] at hz hb <;> simp_all
  · intro h
    have hc := b1 h
    obtain ⟨c0, c1⟩ := cpuB_true (has_cpu hc)
    obtain ⟨c, hcc⟩ := Int.eq_ofNat_of_zero_le c0
    have hc8 : c < 8 := by omega
    rw [hcc] at hc
    have hLc := al_in hu hr hL hc
    have hSc := hsub c hc8 hLc
    rw [has_bit hc8] at hLc hSc
    rw [alW_has hu hr hL c hc8] at hc
    refine ⟨c, hcc, hc8, hLc, hSc, ?_, ?_, ?_⟩
    · rw [alW_has hu hr hS c hc8, hSc]
      simp only [Bool.and_eq_true] at hc
      rw [hc.1]; rfl
    · rw [has_bit hc8, ah_bit hL c hc8, hSc, hLc]; rfl
    · intro ha hn
      obtain ⟨a0, a1⟩ := cpuB_true (has_cpu ha)
      obtain ⟨i, hi⟩ := Int.eq_ofNat_of_zero_le a0
      have hi8 : i < 8 := by omega
      have hx : hasB (alW w L : Int) w.a = true := by
        rw [hi] at ha hn ⊢
        rw [alW_has hu hr hS i hi8] at ha
        rw [has_bit hi8, ah_bit hL i hi8] at hn
        rw [alW_has hu hr hL i hi8]
        cases h1 : w.h.toNat.testBit i <;> cases h2 : S.testBit i <;> cases h3 : L.testBit i <;> rw [h1, h2] at ha <;> rw [h2, h3] at hn <;> simp_all
      have := b3 hx
      rw [this] at hcc
      exact hcc.symm

end Go.Proofs.YtldleijocjohgaaDoor
