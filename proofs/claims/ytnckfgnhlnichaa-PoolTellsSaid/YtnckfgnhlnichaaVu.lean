/-
  bytes.Equal of two rows that hold the same bytes; pools and their bytes, plain mathematics. No statement is proved here.
-/
import Derived.Test.YtnckfgnhlnichaaVz
import Derived.Laws.BytesString
namespace Go.Proofs.Ytnckfgnhlnichaa
open Go.RowKit

/-- the text of bytes -/
def strOf (l : List Int) : ByteArray := l.foldl (fun r n => r.push (UInt8.ofNat n.toNat)) ByteArray.empty
theorem conv_bv {B n c : Nat} {A : Option Addr} {l : List Int} {w : World} (hr : Reads w B 1 A n (l.map fun i => .int .u8 i)) :
    (convert 51 9 (.slice A n c)).run Try.prog w = .ok (.string (strOf l)) w := by
  have hl : l.length = n := by have := hr.1; simpa using this
  rw [run_convert_bytes_string w 51 9 5 _ n c Try.underlying51 Try.underlying5 Try.underlying9]
  have go : ∀ ad : Addr, (∀ (j : Nat) (u : Value), (l.map fun i => Value.int .u8 i)[j]? = some u → w.cell? (ad.add j) = some u) → (Conv.bytesToString (.slice (some ad) n c)).run Try.prog w = .ok (.string (strOf l)) w := fun ad hc => by
    have h := run_loadCells_list (P := Try.prog) (w := w) ad (l.map fun i => Value.int .u8 i) hc
    rw [List.length_map, hl] at h
    rw [run_bytesToString w ad n c l h]
    rfl
  rcases A with _ | ad
  · have h0 : n = 0 := by
      rcases Nat.eq_zero_or_pos n with h | h
      · exact h
      · obtain ⟨ad, h1, _⟩ := hr.2 h
        cases h1
    subst h0
    obtain rfl := List.eq_nil_of_length_eq_zero hl
    simp [Conv.bytesToString]
    rfl
  · rcases Nat.eq_zero_or_pos n with h | h
    · subst h
      obtain rfl := List.eq_nil_of_length_eq_zero hl
      exact go ad (by simp)
    · obtain ⟨ad', e1, _, hc⟩ := hr.2 h
      injection e1 with e1
      subst e1
      exact go ad hc
theorem ub_ints (l : List Nat) : ub l = (l.map fun (x : Nat) => (x : Int)).map fun i => .int .u8 i := by unfold ub; rw [List.map_map]; rfl

set_option maxHeartbeats 400000 in
theorem equal_same (A1 A2 : Option Addr) (n1 n2 c1 c2 B1 B2 : Nat) (l : List Nat) (w : World) (h1 : Reads w B1 1 A1 n1 (ub l)) (h2 : Reads w B2 1 A2 n2 (ub l)) :
    Calls Try.prog 25 #[.slice A1 n1 c1, .slice A2 n2 c2] w fun e w' => e = .returned (.bool true) ∧ w = w' := by
  rw [ub_ints] at h1 h2
  have k1 := conv_bv (c := c1) h1
  have k2 := conv_bv (c := c2) h2
  clear h1 h2
  go_enter Try.func25, Try.ntmps25
  go_wp2
  go_ret
  exact ⟨rfl, rfl⟩

theorem ubytes_take {w : World} {B n N : Nat} {A : Option Addr} {l : List Nat} (h : Reads w B 1 A n (ub l)) (hN : N ≤ n) : Reads w B 1 A N (ub (l.take N)) := by
  have hl := ubytes_len h
  refine ⟨by rw [length_ub, List.length_take, Nat.min_eq_left (by omega)]; omega, fun h0 => ?_⟩
  obtain ⟨ad, e, hb, hc⟩ := h.2 (by omega)
  refine ⟨ad, e, hb, fun j u hj => hc j u ?_⟩
  obtain ⟨x, hx, rfl⟩ := ub_at hj
  rw [List.getElem?_take] at hx
  split at hx
  · unfold ub; rw [List.getElem?_map, hx]; rfl
  · cases hx
theorem bytes_small {l : List Nat} (h : rightP l = true) : ∀ x ∈ bytesP l, x < 256 := fun x hx => by
  obtain ⟨_, h4, hs, _⟩ := right_parts8 h
  unfold bytesP at hx
  rcases List.mem_cons.1 hx with rfl | hx
  · omega
  · obtain ⟨k, hk, rfl⟩ := List.getElem_of_mem hx
    exact (sets_at hs (List.getElem?_eq_getElem hk)).1
theorem bytesP_len (l : List Nat) : (bytesP l).length = l.length + 1 := rfl
theorem decode_bytes {l : List Nat} (h : rightP l = true) : decodeP (bytesP l) = (l, 0) := by
  unfold decodeP bytesP
  rw [if_neg (by simp; omega), if_neg (by simp; exact ⟨by omega, h⟩)]
  rfl
theorem decode_short {l : List Nat} {i : Nat} (hi : i < l.length + 1) : decodeP ((bytesP l).take i) = ([], 7) := by
  unfold decodeP
  rw [if_pos]
  have hl : ((bytesP l).take i).length = i := by rw [List.length_take, bytesP_len]; omega
  rw [hl]
  rcases Nat.eq_zero_or_pos i with h0 | h0
  · exact .inl (by omega)
  · refine .inr ?_
    have : ((bytesP l).take i).getD 0 0 = l.length := by
      rw [List.getD_eq_getElem?_getD, List.getElem?_take, if_pos h0]; rfl
    omega
theorem decode_ok {bs l : List Nat} (h : decodeP bs = (l, 0)) : rightP l = true ∧ bytesP l = bs := by
  unfold decodeP at h
  split at h
  case isTrue => simp at h
  case isFalse h1 =>
    split at h
    case isTrue => simp at h
    case isFalse h2 =>
      simp only [Prod.mk.injEq, and_true] at h
      subst h
      simp only [not_or, Nat.not_lt] at h1
      rw [not_or] at h2
      refine ⟨by simpa using h2.2, ?_⟩
      have hlen : bs.length = 1 + bs.getD 0 0 := by have := h2.1; omega
      unfold bytesP
      rw [List.length_drop]
      match bs, h1, hlen with
      | b :: t, _, hlen =>
        have hlen : t.length + 1 = 1 + b := hlen
        show (t.length + 1 - 1) :: t = b :: t
        rw [show t.length + 1 - 1 = b by omega]
theorem decode_no {bs l : List Nat} {e : Int} (h : decodeP bs = (l, e)) (he : e ≠ 0) : l = [] ∧ (e = 7 ∨ e = 180) := by
  unfold decodeP at h
  split at h
  · simp only [Prod.mk.injEq] at h; exact ⟨h.1.symm, .inl h.2.symm⟩
  · split at h
    · simp only [Prod.mk.injEq] at h; exact ⟨h.1.symm, .inr h.2.symm⟩
    · simp only [Prod.mk.injEq] at h; exact absurd h.2.symm he

end Go.Proofs.Ytnckfgnhlnichaa
