/-
  Facts on the 256 sets: a text tells its set, a list its set; with one and without one; next goes through the list. No statement is proved here.
-/
import Derived.Test.YtbmlhodglemplaaDoorRg
namespace Go.Proofs.YtbmlhodglemplaaDoor
open Go.RowKit

def decL : List UInt8 → Nat → Bool → Nat → Nat
  | [], _, _, acc => acc
  | b :: l, last, rng, acc =>
    if b.toNat = 45 then decL l last true acc
    else if b.toNat < 48 || 57 < b.toNat then decL l last false acc
    else decL l (b.toNat - 48) false (if rng = true then acc + (2 ^ (b.toNat - 48 + 1) - 2 ^ (last + 1)) else acc + 2 ^ (b.toNat - 48))
theorem of_all {f : Nat → Bool} (n : Nat) (h : (List.range n).all f = true) {s : Nat} (hs : s < n) : f s = true := List.all_eq_true.1 h s (List.mem_range.2 hs)

theorem dec_all : (List.range 256).all (fun s => decL (textB (s : Int)).data.toList 0 false 0 == s) = true := by kernel_rfl
theorem dec_text {s : Nat} (hs : s < 256) : decL (textB (s : Int)).data.toList 0 false 0 = s := by simpa using of_all 256 dec_all hs
theorem text_inj {s t : Nat} (hs : s < 256) (ht : t < 256) (h : (textB (s : Int)).toList = (textB (t : Int)).toList) : s = t := by
  rw [Lib.toList_data, Lib.toList_data] at h
  rw [← dec_text hs, ← dec_text ht, h]

theorem par_sound {T : ByteArray} : ∀ {f k s : Nat}, parF T f k = some s → (textB (s : Int)).toList = T.toList ∧ k ≤ s ∧ s < k + f := by
  intro f
  induction f with
  | zero => intro k s h; cases h
  | succ f ih =>
    intro k s h
    by_cases he : (textB (k : Int)).toList = T.toList
    · rw [par_hit he] at h
      obtain rfl := Option.some.inj h
      exact ⟨he, by omega, by omega⟩
    · rw [par_miss he] at h
      obtain ⟨h1, h2, h3⟩ := ih h
      exact ⟨h1, by omega, by omega⟩
theorem par_complete {T : ByteArray} : ∀ {f k : Nat}, parF T f k = none → ∀ s, k ≤ s → s < k + f → ¬ (textB (s : Int)).toList = T.toList := by
  intro f
  induction f with
  | zero => intro k _ s h1 h2; omega
  | succ f ih =>
    intro k h s h1 h2
    by_cases he : (textB (k : Int)).toList = T.toList
    · rw [par_hit he] at h; cases h
    · rw [par_miss he] at h
      rcases Nat.lt_or_ge k s with hlt | hge
      · exact ih h s hlt (by omega)
      · obtain rfl : s = k := by omega
        exact he
theorem par_some {T : ByteArray} {s : Nat} (hs : s < 256) (h : (textB (s : Int)).toList = T.toList) : parV T = some s := by
  cases hp : parV T with
  | none => exact absurd h (par_complete hp s (by omega) (by omega))
  | some t =>
    obtain ⟨h1, _, h3⟩ := par_sound hp
    rw [text_inj hs (by omega) (h.trans h1.symm)]

theorem of_mem_all : (List.range 256).all (fun s => ofV (mem (s : Int)) 0 == ((s : Int), true)) = true := by kernel_rfl
theorem of_mem {s : Nat} (hs : s < 256) : ofV (mem (s : Int)) 0 = ((s : Int), true) := by simpa using of_all 256 of_mem_all hs

def withB (s n : Nat) : Bool :=
  if hasB (s : Int) (n : Int) = true then hasB ((s : Int) - 2 ^ n) (n : Int) == false && withinV (mem ((s : Int) - 2 ^ n)) (s : Int)
  else hasB ((s : Int) + 2 ^ n) (n : Int) && (mem ((s : Int) + 2 ^ n)).length == (mem (s : Int)).length + 1 && withinV (mem (s : Int)) ((s : Int) + 2 ^ n) && !(withinV (mem ((s : Int) + 2 ^ n)) (s : Int))
theorem with_all : (List.range 256).all (fun s => (List.range 8).all (withB s)) = true := by kernel_rfl
theorem with_facts {s n : Nat} (hs : s < 256) (hn : n < 8) : withB s n = true := of_all 8 (of_all 256 with_all hs) hn

def goesB (s : Int) : List Int → Int → Bool
  | [], a => nextV (mem s) a == (0, false)
  | n :: r, a => nextV (mem s) a == (n, true) && hasB s n && decide (a < n) && goesB s r n
theorem goes_all : (List.range 256).all (fun s => goesB (s : Int) (mem (s : Int)) (-1)) = true := by kernel_rfl
theorem goes_facts {s : Nat} (hs : s < 256) : goesB (s : Int) (mem (s : Int)) (-1) = true := of_all 256 goes_all hs

end Go.Proofs.YtbmlhodglemplaaDoor
