/-
  bytes.Equal of two rows that hold the same bytes; pools and their bytes, plain mathematics. No statement is proved here.
-/
import Derived.Test.YtnckfgnhlnichaaDoorVz
import Derived.Laws.BytesString
namespace Go.Proofs.YtnckfgnhlnichaaDoor
open Go.RowKit

/-- the text of bytes -/
def strOf (l : List Int) : ByteArray := l.foldl (fun r n => r.push (UInt8.ofNat n.toNat)) ByteArray.empty
theorem ub_ints (l : List Nat) : ub l = (l.map fun (x : Nat) => (x : Int)).map fun i => .int .u8 i := by unfold ub; rw [List.map_map]; rfl


theorem ubytes_take {w : World} {B n N : Nat} {A : Option Addr} {l : List Nat} (h : Reads w B 1 A n (ub l)) (hN : N ≤ n) : Reads w B 1 A N (ub (l.take N)) := by
  have hl := ubytes_len h
  refine ⟨by rw [length_ub, List.length_take, Nat.min_eq_left (by omega)]; omega, fun h0 => ?_⟩
  obtain ⟨ad, e, hb, hc⟩ := h.2 (by omega)
  refine ⟨ad, e, hb, fun j u hj => hc j u ?_⟩
  obtain ⟨x, hx, rfl⟩ := ub_at hj
  rw [List.getElem?_take] at hx
  split at hx
  · unfold ub; rw [List.getElem?_map, hx]; rfl
  · cases hx
theorem bytes_small {l : List Nat} (h : rightP l = true) : ∀ x ∈ bytesP l, x < 256 := fun x hx => by
  obtain ⟨_, h4, hs, _⟩ := right_parts8 h
  unfold bytesP at hx
  rcases List.mem_cons.1 hx with rfl | hx
  · omega
  · obtain ⟨k, hk, rfl⟩ := List.getElem_of_mem hx
    exact (sets_at hs (List.getElem?_eq_getElem hk)).1
theorem bytesP_len (l : List Nat) : (bytesP l).length = l.length + 1 := rfl
theorem decode_bytes {l : List Nat} (h : rightP l = true) : decodeP (bytesP l) = (l, 0) := by
  unfold decodeP bytesP
  rw [if_neg (by simp; omega), if_neg (by simp; exact ⟨by omega, h⟩)]
  rfl
theorem decode_short {l : List Nat} {i : Nat} (hi : i < l.length + 1) : decodeP ((bytesP l).take i) = ([], 7) := by
  unfold decodeP
  rw [if_pos]
  have hl : ((bytesP l).take i).length = i := by rw [List.length_take, bytesP_len]; omega
  rw [hl]
  rcases Nat.eq_zero_or_pos i with h0 | h0
  · exact .inl (by omega)
  · refine .inr ?_
    have : ((bytesP l).take i).getD 0 0 = l.length := by
      rw [List.getD_eq_getElem?_getD, List.getElem?_take, if_pos h0]; rfl
    omega
theorem decode_ok {bs l : List Nat} (h : decodeP bs = (l, 0)) : rightP l = true ∧ bytesP l = bs := by
  unfold decodeP at h
  split at h
  case isTrue => simp at h
  case isFalse h1 =>
    split at h
    case isTrue => simp at h
    case isFalse h2 =>
      simp only [Prod.mk.injEq, and_true] at h
      subst h
      simp only [not_or, Nat.not_lt] at h1
      rw [not_or] at h2
      refine ⟨by simpa using h2.2, ?_⟩
      have hlen : bs.length = 1 + bs.getD 0 0 := by have := h2.1; omega
      unfold bytesP
      rw [List.length_drop]
      match bs, h1, hlen with
      | b :: t, _, hlen =>
        have hlen : t.length + 1 = 1 + b := hlen
        show (t.length + 1 - 1) :: t = b :: t
        rw [show t.length + 1 - 1 = b by omega]
theorem decode_no {bs l : List Nat} {e : Int} (h : decodeP bs = (l, e)) (he : e ≠ 0) : l = [] ∧ (e = 7 ∨ e = 180) := by
  unfold decodeP at h
  split at h
  · simp only [Prod.mk.injEq] at h; exact ⟨h.1.symm, .inl h.2.symm⟩
  · split at h
    · simp only [Prod.mk.injEq] at h; exact ⟨h.1.symm, .inr h.2.symm⟩
    · simp only [Prod.mk.injEq] at h; exact absurd h.2.symm he

end Go.Proofs.YtnckfgnhlnichaaDoor
