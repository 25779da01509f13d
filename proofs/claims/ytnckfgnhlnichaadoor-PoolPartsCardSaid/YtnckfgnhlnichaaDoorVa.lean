/-
  Pools as words: rows of sets; which may be; what comes of them. No statement is proved here.
-/
import Derived.Test.YtnckfgnhlnichaaDoorTi
import Derived.Test.YtnckfgnhlnichaaDoorVl
namespace Go.Proofs.YtnckfgnhlnichaaDoor
open Go.RowKit

/-- sets as values -/
def us (l : List Nat) : List Value := l.map fun (x : Nat) => .int .u32 (x : Int)
theorem length_us (l : List Nat) : (us l).length = l.length := by simp [us]
theorem us_append (a b : List Nat) : us (a ++ b) = us a ++ us b := by simp [us]
theorem us_one (a : Nat) : us [a] = [.int .u32 (a : Int)] := rfl
theorem us_at {l : List Nat} {k : Nat} {v : Value} (h : (us l)[k]? = some v) : ∃ x, l[k]? = some x ∧ v = .int .u32 ((x : Nat) : Int) := by
  unfold us at h
  rw [List.getElem?_map] at h
  cases hl : l[k]? with
  | none => rw [hl] at h; cases h
  | some x => rw [hl] at h; injection h with h; exact ⟨x, rfl, h.symm⟩
theorem us_ones (l : List Nat) : ∀ u ∈ us l, u.oneCell' = true := by
  intro u hu
  unfold us at hu
  obtain ⟨x, _, rfl⟩ := List.mem_map.1 hu
  rfl
theorem us_set (l : List Nat) (j x : Nat) : (us l).set j (.int .u32 (x : Int)) = us (l.set j x) := by
  unfold us
  rw [List.map_set]
theorem cpus_info : (Tryd.prog.info? 32).map (fun i => (i.zero, i.size, i.bytes)) = some (some (.int .u32 0), 1, 4) := by kernel_rfl
theorem usets_len {w : World} {B n : Nat} {A : Option Addr} {l : List Nat} (h : Reads w B 1 A n (us l)) : l.length = n := by
  have := h.1
  rw [length_us] at this
  omega
theorem uset_at {w : World} {B n : Nat} {A : Option Addr} {l : List Nat} (h : Reads w B 1 A n (us l)) {k : Nat} (hk : k < n) :
    ∃ ad x, A = some ad ∧ ad.block < B ∧ l[k]? = some x ∧ w.cell? (ad.add k) = some (.int .u32 ((x : Nat) : Int)) := by
  obtain ⟨ad, u, e, hb, hu, hc⟩ := h.at_ hk
  obtain ⟨x, hx, rfl⟩ := us_at hu
  exact ⟨ad, x, e, hb, hx, hc⟩
theorem usets_take {w : World} {B n N : Nat} {A : Option Addr} {l : List Nat} (h : Reads w B 1 A n (us l)) (hN : N ≤ n) : Reads w B 1 A N (us (l.take N)) := by
  have hl := usets_len h
  refine ⟨by rw [length_us, List.length_take, Nat.min_eq_left (by omega)]; omega, fun h0 => ?_⟩
  obtain ⟨ad, e, hb, hc⟩ := h.2 (by omega)
  refine ⟨ad, e, hb, fun j u hj => hc j u ?_⟩
  obtain ⟨x, hx, rfl⟩ := us_at hj
  rw [List.getElem?_take] at hx
  split at hx
  · unfold us; rw [List.getElem?_map, hx]; rfl
  · cases hx

/-- numbers of 32 bits, in a row -/
def U32s (l : List Nat) : Prop := ∀ x ∈ l, x < 4294967296
theorem U32s.at_ {l : List Nat} (h : U32s l) {k x : Nat} (hk : l[k]? = some x) : x < 4294967296 := h x (List.mem_of_getElem? hk)
theorem getD_at {l : List Nat} {k x : Nat} (h : l[k]? = some x) : l.getD k 0 = x := by rw [List.getD_eq_getElem?_getD, h]; rfl
theorem at_getD {l : List Nat} {k : Nat} (h : k < l.length) : l[k]? = some (l.getD k 0) := by
  rw [List.getD_eq_getElem?_getD, List.getElem?_eq_getElem h]; rfl

/-- in how many of the first k a pCPU is; in which last -/
def inK (l : List Nat) (c : Int) : Nat → Nat
  | 0 => 0
  | k + 1 => if hasB (l.getD k 0 : Int) c = true then inK l c k + 1 else inK l c k
def outK (l : List Nat) (c : Int) : Nat → Nat
  | 0 => 0
  | k + 1 => if hasB (l.getD k 0 : Int) c = true then k else outK l c k
theorem inK_le (l : List Nat) (c : Int) (k : Nat) : inK l c k ≤ k := by
  induction k with
  | zero => exact Nat.le_refl _
  | succ k ih => unfold inK; split <;> omega
theorem outK_le (l : List Nat) (c : Int) (k : Nat) : outK l c k ≤ k := by
  induction k with
  | zero => exact Nat.le_refl _
  | succ k ih => unfold outK; split <;> omega
theorem inK_yes {l : List Nat} {c : Int} {k x : Nat} (hx : l[k]? = some x) (h : hasB (x : Int) c = true) : inK l c (k + 1) = inK l c k + 1 ∧ outK l c (k + 1) = k :=
  ⟨if_pos (by rw [getD_at hx]; exact h), if_pos (by rw [getD_at hx]; exact h)⟩
theorem inK_no {l : List Nat} {c : Int} {k x : Nat} (hx : l[k]? = some x) (h : hasB (x : Int) c = false) : inK l c (k + 1) = inK l c k ∧ outK l c (k + 1) = outK l c k :=
  ⟨if_neg (by rw [getD_at hx, h]; simp), if_neg (by rw [getD_at hx, h]; simp)⟩
/-- the pool that a pCPU is in -/
def ofV (l : List Nat) (c : Int) : Int × Bool := if inK l c l.length = 1 then ((outK l c l.length : Nat), true) else (0, false)

/-- how many pCPUs -/
def cardN (s : Nat) : Nat := (mem (s : Int)).length
theorem card_le (s : Nat) : cardN s ≤ 8 := length_memb _ 8
def sumK (l : List Nat) : Nat → Nat
  | 0 => 0
  | k + 1 => sumK l k + cardN (l.getD k 0)
theorem sumK_le (l : List Nat) (k : Nat) : sumK l k ≤ 8 * k := by
  induction k with
  | zero => exact Nat.le_refl _
  | succ k ih => unfold sumK; have := card_le (l.getD k 0); omega
theorem sumK_step {l : List Nat} {k x : Nat} (hx : l[k]? = some x) : sumK l (k + 1) = sumK l k + cardN x := by show _ + cardN (l.getD k 0) = _; rw [getD_at hx]
def setB (s : Nat) : Bool := decide (s < 256) && decide (0 < s)
def setsB (l : List Nat) : Bool := l.all setB
theorem sets_no {l : List Nat} {k x : Nat} (hx : l[k]? = some x) (h : setB x = false) : setsB l = false := by
  cases ha : setsB l with
  | false => rfl
  | true =>
    unfold setsB at ha
    rw [List.all_eq_true] at ha
    rw [ha _ (List.mem_of_getElem? hx)] at h
    cases h
theorem sets_step {l : List Nat} {k x : Nat} (hx : l[k]? = some x) (h : setB x = true) (ht : setsB (l.take k) = true) : setsB (l.take (k + 1)) = true := by
  unfold setsB at *
  rw [List.take_add_one, hx, List.all_append, ht]
  simp [h]
theorem sets_at {l : List Nat} (h : setsB l = true) {k x : Nat} (hx : l[k]? = some x) : x < 256 ∧ 0 < x := by
  unfold setsB at h
  have := List.all_eq_true.1 h x (List.mem_of_getElem? hx)
  unfold setB at this
  simpa using this
/-- is each of the first c in just one pool? -/
def eachB (l : List Nat) : Nat → Bool
  | 0 => true
  | c + 1 => eachB l c && (ofV l (c : Int)).2
theorem each_no {l : List Nat} {c m : Nat} (hc : c < m) (h : (ofV l (c : Int)).2 = false) : eachB l m = false := by
  induction m with
  | zero => omega
  | succ m ih =>
    unfold eachB
    by_cases e : c = m
    · subst e; rw [h, Bool.and_false]
    · rw [ih (by omega), Bool.false_and]
theorem each_iff {l : List Nat} {m : Nat} : eachB l m = true ↔ ∀ c, c < m → (ofV l (c : Int)).2 = true := by
  induction m with
  | zero => simp [eachB]
  | succ m ih =>
    unfold eachB
    rw [Bool.and_eq_true, ih]
    constructor
    · rintro ⟨h1, h2⟩ c hc
      by_cases e : c = m
      · subst e; exact h2
      · exact h1 c (by omega)
    · exact fun h => ⟨fun c hc => h c (by omega), h m (by omega)⟩
/-- may pools be? -/
def rightP (l : List Nat) : Bool := decide (1 ≤ l.length) && decide (l.length ≤ 4) && setsB l && eachB l (sumK l l.length)
theorem right_parts8 {l : List Nat} (h : rightP l = true) : 1 ≤ l.length ∧ l.length ≤ 4 ∧ setsB l = true ∧ eachB l (sumK l l.length) = true := by
  unfold rightP at h
  simp only [Bool.and_eq_true, decide_eq_true_eq] at h
  exact ⟨h.1.1.1, h.1.1.2, h.1.2, h.2⟩
/-- is there a pool of a number? -/
def poolB (l : List Nat) (k : Int) : Bool := decide (0 ≤ k) && decide (k < (l.length : Int))
theorem poolB_true {l : List Nat} {k : Int} (h : poolB l k = true) : ∃ n : Nat, k = (n : Int) ∧ n < l.length := by
  unfold poolB at h
  simp only [Bool.and_eq_true, decide_eq_true_eq] at h
  exact ⟨k.toNat, by omega, by omega⟩
theorem poolB_no {l : List Nat} {k : Int} (h : poolB l k = false) : k < 0 ∨ (0 ≤ k ∧ (l.length : Int) ≤ k) := by
  unfold poolB at h
  simp only [Bool.and_eq_false_iff, decide_eq_false_iff_not] at h
  omega
theorem poolB_nat {l : List Nat} {k : Nat} (h : k < l.length) : poolB l (k : Int) = true := by unfold poolB; simp; omega

/-! ### what is done -/
def withinV (l : List Int) (t : Int) : Bool := l.all (hasB t)
/-- pools with one more; its number; the error -/
def splitV (l : List Nat) (f : Int) (s : Nat) : List Nat × Int × Int :=
  if poolB l f = false then ([], 0, 4)
  else if ¬ s < 256 then ([], 0, 140)
  else if s = 0 ∨ withinV (mem (s : Int)) (l.getD f.toNat 0 : Nat) = false then ([], 0, 2)
  else if s = l.getD f.toNat 0 then ([], 0, 181)
  else if l.length = 4 then ([], 0, 6)
  else (l.set f.toNat (l.getD f.toNat 0 - s) ++ [s], l.length, 0)
/-- the first k of pools of which p goes into i -/
def joinK (l : List Nat) (p i : Nat) : Nat → List Nat
  | 0 => []
  | k + 1 => if k = p then joinK l p i k else joinK l p i k ++ [if k = i then l.getD k 0 + l.getD p 0 else l.getD k 0]
theorem joinK_len (l : List Nat) (p i k : Nat) : (joinK l p i k).length ≤ k := by
  induction k with
  | zero => exact Nat.le_refl _
  | succ k ih =>
    unfold joinK
    split
    · omega
    · rw [List.length_append]; simp; omega
def joinV (l : List Nat) (p i : Int) : List Nat × Int :=
  if poolB l p = false ∨ poolB l i = false then ([], 4) else if p = i then ([], 2) else (joinK l p.toNat i.toNat l.length, 0)
def moveV (l : List Nat) (c t : Int) : List Nat × Int × Int :=
  if poolB l t = false then ([], 0, 4)
  else if (ofV l c).2 = false then ([], 0, 2)
  else if (ofV l c).1 = t then ([], 0, 5)
  else if cardN (l.getD (ofV l c).1.toNat 0) = 1 then ([], 0, 181)
  else ((l.set (ofV l c).1.toNat (l.getD (ofV l c).1.toNat 0 - 2 ^ c.toNat)).set t.toNat (l.getD t.toNat 0 + 2 ^ c.toNat), (ofV l c).1, 0)

end Go.Proofs.YtnckfgnhlnichaaDoor
