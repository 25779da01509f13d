/-
  The contract of the document's own text of a set. No statement is proved here.
-/
import Derived.Test.YtbmlhodglemplaaDoorRd
import Derived.Laws.IdiomStrings
namespace Go.Proofs.YtbmlhodglemplaaDoor
open Go.RowKit

theorem encode_small {n : Nat} (h : n < 128) : Utf8.encode (n : Int) = ⟨#[UInt8.ofNat n]⟩ := by
  have hv : Utf8.valid (n : Int) = true := by simp [Utf8.valid]; omega
  unfold Utf8.encode
  simp [hv, h]

def dgB (n : Nat) : ByteArray := ⟨#[UInt8.ofNat (48 + n)]⟩
theorem size_dgB (n : Nat) : (dgB n).size = 1 := rfl

set_option maxRecDepth 100000 in
set_option maxHeartbeats 400000 in
theorem rdigit_any (n : Nat) (w : World) (h : n ≤ 9) : Calls Tryd.prog 43 #[.int .i64 n] w fun e w' => e = .returned (.string (dgB n)) ∧ w = w' := by
  obtain ⟨E, hE⟩ : ∃ E : ByteArray, Utf8.encode (48 + (n : Int)) = E := ⟨_, rfl⟩
  have HE : Hid (dgB n = E) := Lib.hid (by rw [← hE]; exact (encode_small (n := 48 + n) (by omega)).symm)
  go_enter Tryd.func43, Tryd.ntmps43
  go_wp2
  go_ret
  exact ⟨by rw [HE.out]; rfl, rfl⟩

/-- the last one of a row that has begun -/
def lastR (s : Int) : Nat → Nat → Nat
  | 0, i => i
  | f + 1, i => if hasB s ((i + 1 : Nat) : Int) = true then lastR s f (i + 1) else i
theorem last_go {s : Int} {f i : Nat} (h : hasB s ((i + 1 : Nat) : Int) = true) : lastR s (f + 1) i = lastR s f (i + 1) := if_pos h
theorem last_stop {s : Int} {f i : Nat} (h : hasB s ((i + 1 : Nat) : Int) = false) : lastR s f i = i := by
  cases f with
  | zero => rfl
  | succ n => exact if_neg (by rw [h]; decide)
def commaB (S : ByteArray) : ByteArray := if S.size = 0 then S else S ++ ⟨#[44]⟩
def rowB (S : ByteArray) (i j : Nat) : ByteArray := if i < j then (commaB S ++ dgB i) ++ (⟨#[45]⟩ ++ dgB j) else commaB S ++ dgB i
def walkT (s : Int) : Nat → Nat → ByteArray → ByteArray
  | 0, _, S => S
  | f + 1, i, S => if 8 ≤ i then S else if hasB s (i : Int) = true then walkT s f (lastR s 8 i + 1) (rowB S i (lastR s 8 i)) else walkT s f (i + 1) S
def textB (s : Int) : ByteArray := if (walkT s 9 0 ⟨#[]⟩).size = 0 then ⟨#[110, 111, 110, 101]⟩ else walkT s 9 0 ⟨#[]⟩
theorem walk_end {s : Int} {f i : Nat} {S : ByteArray} (h : 8 ≤ i) : walkT s f i S = S := by cases f <;> simp [walkT, h]
theorem walk_no {s : Int} {f i : Nat} {S : ByteArray} (h : i < 8) (hb : hasB s (i : Int) = false) : walkT s (f + 1) i S = walkT s f (i + 1) S := by
  have : ¬ 8 ≤ i := by omega
  simp [walkT, this, hb]
theorem walk_yes {s : Int} {f i j : Nat} {S : ByteArray} (h : i < 8) (hb : hasB s (i : Int) = true) (hj : lastR s 8 i = j) : walkT s (f + 1) i S = walkT s f (j + 1) (rowB S i j) := by
  have : ¬ 8 ≤ i := by omega
  simp [walkT, this, hb, hj]
theorem size_row (S : ByteArray) (i j : Nat) : (rowB S i j).size ≤ S.size + 4 := by
  have h1 : (commaB S).size ≤ S.size + 1 := by
    unfold commaB
    split
    · omega
    · have : (⟨#[44]⟩ : ByteArray).size = 1 := rfl
      rw [ByteArray.size_append, this]
      omega
  unfold rowB
  split
  · simp only [ByteArray.size_append, size_dgB]
    have : (⟨#[45]⟩ : ByteArray).size = 1 := rfl
    omega
  · simp only [ByteArray.size_append, size_dgB]
    omega
theorem has_lt {s : Int} {k : Nat} (h : hasB s (k : Int) = true) : k < 8 := by
  unfold hasB at h
  have : cpuB (k : Int) = true := by
    revert h
    cases cpuB (k : Int) <;> simp
  have := cpuB_true this
  omega

end Go.Proofs.YtbmlhodglemplaaDoor
