/-
  The contract of the document's Most. No statement is proved here.
-/
import Derived.Test.YtldleijocjohgaaDoorMa
namespace Go.Proofs.YtldleijocjohgaaDoor
open Go.RowKit

/-- 256 numbers as cells -/
def rowN (f : Nat → Nat) : Array Value := (Array.range 256).map fun i => .int .i64 (f i : Int)
theorem rowN_size (f : Nat → Nat) : (rowN f).size = 256 := by simp [rowN]
theorem rowN_at (f : Nat → Nat) {i : Nat} (h : i < 256) : (rowN f)[i]? = some (.int .i64 (f i : Int)) := by simp [rowN, h]
theorem rowN_ext {cs : Array Value} {f : Nat → Nat} (hs : cs.size = 256) (h : ∀ i, i < 256 → cs[i]? = some (.int .i64 (f i : Int))) : cs = rowN f := by
  apply Array.ext_getElem?
  intro i
  by_cases hi : i < 256
  · rw [h i hi, rowN_at f hi]
  · rw [Array.getElem?_eq_none (by omega), Array.getElem?_eq_none (by rw [rowN_size]; omega)]
theorem rowN_set (f : Nat → Nat) {i : Nat} (h : i < 256) (b : Nat) : (rowN f).setIfInBounds i (.int .i64 (b : Int)) = rowN (fun j => if j = i then b else f j) := by
  apply rowN_ext (by simp [rowN_size])
  intro j hj
  rw [Array.getElem?_setIfInBounds]
  by_cases e : i = j
  · subst e; simp [rowN_size, h]
  · rw [if_neg e, rowN_at f hj, if_neg (fun h => e h.symm)]
theorem rowN_congr {f g : Nat → Nat} (h : ∀ i, i < 256 → f i = g i) : rowN f = rowN g := rowN_ext (rowN_size f) (fun i hi => by rw [rowN_at f hi, h i hi])
theorem rowN_one (f : Nat → Nat) : (rowN f).all (·.oneCell') = true := by
  unfold rowN
  rw [Array.all_eq_true_iff_forall_mem]
  intro x hx
  simp only [Array.mem_map] at hx
  obtain ⟨i, _, rfl⟩ := hx
  rfl
/-- a row half done: those below s are done, of s c places are looked at -/
def halfR (B : Nat → Nat) (h s : Nat) (v : Nat) : Nat → Nat := fun j => if j < s then upTo B h j 8 else if j = s then v else 0
theorem half_set (B : Nat → Nat) (h : Nat) {s : Nat} (hs : s < 256) (v v' : Nat) : (rowN (halfR B h s v)).setIfInBounds s (.int .i64 (v' : Int)) = rowN (halfR B h s v') := by
  rw [rowN_set _ hs]
  refine rowN_congr fun j _ => ?_
  unfold halfR
  by_cases e : j = s
  · subst e; rw [if_pos rfl, if_neg (Nat.lt_irrefl _), if_pos rfl]
  · rw [if_neg e]
    by_cases e2 : j < s
    · rw [if_pos e2, if_pos e2]
    · rw [if_neg e2, if_neg e2, if_neg e, if_neg e]
theorem half_next (B : Nat → Nat) (h s : Nat) : rowN (halfR B h s (upTo B h s 8)) = rowN (halfR B h (s + 1) 0) := by
  refine rowN_congr fun j _ => ?_
  unfold halfR
  by_cases e : j < s
  · rw [if_pos e, if_pos (by omega)]
  · rw [if_neg e]
    by_cases e2 : j = s
    · subst e2; rw [if_pos rfl, if_pos (by omega)]
    · rw [if_neg e2, if_neg (by omega)]
      split <;> rfl
theorem half_zero (B : Nat → Nat) (h : Nat) : rowN (halfR B h 0 0) = rowN (fun _ => 0) := rowN_congr fun j _ => by
  unfold halfR
  rw [if_neg (by omega)]
  split <;> rfl
theorem half_done (B : Nat → Nat) (h v : Nat) : rowN (halfR B h 256 v) = rowN (fun j => upTo B h j 8) := rowN_congr fun j hj => by
  unfold halfR
  rw [if_pos hj]
theorem half_at (B : Nat → Nat) (h s v : Nat) : halfR B h s v s = v := by unfold halfR; rw [if_neg (Nat.lt_irrefl _), if_pos rfl]
/-- the masks' hard sets -/
def hards (l : List (Int × Int)) : List Nat := l.map fun m => m.1.toNat
theorem hards_drop {l : List (Int × Int)} {p : Nat} {m : Int × Int} (h : l[p]? = some m) : (hards l).drop p = m.1.toNat :: (hards l).drop (p + 1) := by
  have h1 : (hards l)[p]? = some m.1.toNat := by unfold hards; rw [List.getElem?_map, h]; rfl
  obtain ⟨hl, he⟩ := List.getElem?_eq_some_iff.1 h1
  rw [← he]
  exact List.drop_eq_getElem_cons hl
theorem up_step_no {B : Nat → Nat} {h s c : Nat} (hb : (h &&& s).testBit c = false) : upTo B h s (c + 1) = upTo B h s c := by
  show (if _ then _ else _) = _
  rw [if_neg (by rw [hb]; exact Bool.false_ne_true)]
theorem up_step_more {B : Nat → Nat} {h s c : Nat} (hb : (h &&& s).testBit c = true) (hm : upTo B h s c < 1 + B (s - 2 ^ c)) : upTo B h s (c + 1) = 1 + B (s - 2 ^ c) := by
  show (if _ then _ else _) = _
  rw [if_pos hb, if_pos hm]
theorem up_step_less {B : Nat → Nat} {h s c : Nat} (hb : (h &&& s).testBit c = true) (hm : ¬ upTo B h s c < 1 + B (s - 2 ^ c)) : upTo B h s (c + 1) = upTo B h s c := by
  show (if _ then _ else _) = _
  rw [if_pos hb, if_neg hm]
theorem up_bound {B : Nat → Nat} {N : Nat} (hB : ∀ j, B j ≤ N) (h s c : Nat) : upTo B h s c ≤ N + 1 := by
  rcases upTo_cases B h s c with e | ⟨c, _, _, e⟩
  · rw [e]; have := hB s; omega
  · rw [e]; have := hB (s - 2 ^ c); omega


end Go.Proofs.YtldleijocjohgaaDoor
