/-
  bytes.Equal of two rows that hold the same bytes; topologies and their bytes, plain mathematics. No statement is proved here.
-/
import Derived.Test.YtfalkiinlkfanaaTp
import Derived.Laws.BytesString
namespace Go.Proofs.Ytfalkiinlkfanaa
open Go.RowKit

/-- the text of bytes -/
def strOf (l : List Int) : ByteArray := l.foldl (fun r n => r.push (UInt8.ofNat n.toNat)) ByteArray.empty
theorem conv_bv {B n c : Nat} {A : Option Addr} {l : List Int} {w : World} (hr : Reads w B 1 A n (bv l)) :
    (convert 62 9 (.slice A n c)).run Try.prog w = .ok (.string (strOf l)) w := by
  have hl : l.length = n := by have := hr.1; simpa [length_bv] using this
  rw [run_convert_bytes_string w 62 9 5 _ n c Try.underlying62 Try.underlying5 Try.underlying9]
  have go : ∀ ad : Addr, (∀ j u, (bv l)[j]? = some u → w.cell? (ad.add j) = some u) → (Conv.bytesToString (.slice (some ad) n c)).run Try.prog w = .ok (.string (strOf l)) w := fun ad hc => by
    have h := run_loadCells_list (P := Try.prog) (w := w) ad (bv l) hc
    rw [length_bv, hl] at h
    rw [run_bytesToString w ad n c l h]
    rfl
  rcases A with _ | ad
  · have h0 : n = 0 := by
      rcases Nat.eq_zero_or_pos n with h | h
      · exact h
      · obtain ⟨ad, h1, _⟩ := hr.2 h
        cases h1
    subst h0
    obtain rfl := List.eq_nil_of_length_eq_zero hl
    simp [Conv.bytesToString]
    rfl
  · rcases Nat.eq_zero_or_pos n with h | h
    · subst h
      obtain rfl := List.eq_nil_of_length_eq_zero hl
      exact go ad (by simp [bv])
    · obtain ⟨ad', e1, _, hc⟩ := hr.2 h
      injection e1 with e1
      subst e1
      exact go ad hc

set_option maxHeartbeats 400000 in
theorem equal_same (A1 A2 : Option Addr) (n1 n2 c1 c2 B1 B2 : Nat) (l : List Int) (w : World) (h1 : Reads w B1 1 A1 n1 (bv l)) (h2 : Reads w B2 1 A2 n2 (bv l)) :
    Calls Try.prog 30 #[.slice A1 n1 c1, .slice A2 n2 c2] w fun e w' => e = .returned (.bool true) ∧ w = w' := by
  have k1 := conv_bv (c := c1) h1
  have k2 := conv_bv (c := c2) h2
  clear h1 h2
  go_enter Try.func30, Try.ntmps30
  go_wp2
  go_ret
  exact ⟨rfl, rfl⟩

theorem bytes_first {w : World} {B n : Nat} {A : Option Addr} {l : List Int} (h : Reads w B 1 A n (bv l)) {m : Nat} (hm : m ≤ n) : Reads w B 1 A m (bv (l.take m)) := by
  have := h.first hm
  rw [Nat.mul_one] at this
  rwa [show bv (l.take m) = (bv l).take m by unfold bv; rw [List.map_take]]

theorem sb_at {L : List (Int × Int)} {i : Nat} {s : Int × Int} (h : L[i]? = some s) : (L.flatMap sb)[2 * i]? = some s.1 ∧ (L.flatMap sb)[2 * i + 1]? = some s.2 := by
  induction L generalizing i with
  | nil => simp at h
  | cons a L ih =>
    cases i with
    | zero =>
      simp only [List.getElem?_cons_zero, Option.some.injEq] at h
      subst h
      exact ⟨rfl, rfl⟩
    | succ i =>
      have h' : L[i]? = some s := by simpa using h
      obtain ⟨h1, h2⟩ := ih h'
      rw [List.flatMap_cons]
      have e : (sb a).length = 2 := rfl
      constructor
      · rw [List.getElem?_append_right (by rw [e]; omega), e, show 2 * (i + 1) - 2 = 2 * i by omega]; exact h1
      · rw [List.getElem?_append_right (by rw [e]; omega), e, show 2 * (i + 1) + 1 - 2 = 2 * i + 1 by omega]; exact h2
theorem bytes_at {L : List (Int × Int)} {i : Nat} {s : Int × Int} (h : L[i]? = some s) : (bytesL L)[1 + 2 * i]? = some s.1 ∧ (bytesL L)[2 + 2 * i]? = some s.2 := by
  obtain ⟨h1, h2⟩ := sb_at h
  unfold bytesL
  rw [show 1 + 2 * i = 2 * i + 1 by omega, show 2 + 2 * i = 2 * i + 1 + 1 by omega, List.getElem?_cons_succ, List.getElem?_cons_succ]
  exact ⟨h1, h2⟩
theorem seatsOf_at (bs : List Int) {k i : Nat} (h : i < k) : (seatsOf bs k)[i]? = some (bs.getD (1 + 2 * i) 0, bs.getD (2 + 2 * i) 0) := by
  unfold seatsOf
  rw [List.getElem?_map, List.getElem?_range h]; rfl
theorem seatsOf_bytes (L : List (Int × Int)) : seatsOf (bytesL L) L.length = L := by
  apply List.ext_getElem?
  intro i
  by_cases hi : i < L.length
  · obtain ⟨s, hs⟩ := elem_at (l := L) hi
    obtain ⟨h1, h2⟩ := bytes_at hs
    rw [seatsOf_at _ hi, List.getD_eq_getElem?_getD, List.getD_eq_getElem?_getD, h1, h2, hs]
    rfl
  · rw [List.getElem?_eq_none (by rw [length_seatsOf]; omega), List.getElem?_eq_none (by omega)]
theorem decode_bytes {L : List (Int × Int)} (hr : rightT L = true) : decodeV (bytesL L) = (L, 0) := by
  have e : (bytesL L).getD 0 0 = (L.length : Int) := rfl
  unfold decodeV
  rw [e, length_bytesL, if_neg (by omega), Int.toNat_natCast, seatsOf_bytes, if_pos ⟨hr, by omega⟩]
theorem decode_short {L : List (Int × Int)} {i : Nat} (hi : i < (bytesL L).length) : decodeV ((bytesL L).take i) = ([], 7) := by
  unfold decodeV
  have hl : ((bytesL L).take i).length = i := by rw [List.length_take]; omega
  rw [length_bytesL] at hi
  by_cases h0 : i < 1
  · rw [if_pos (.inl (by rw [hl]; exact h0))]
  · have e : ((bytesL L).take i).getD 0 0 = (L.length : Int) := by
      rw [List.getD_eq_getElem?_getD, List.getElem?_take_of_lt (by omega)]
      rfl
    rw [if_pos (.inr (by rw [hl, e]; omega))]
theorem bytes_back (bs : List Int) (m : Nat) (hl : bs.length = 1 + 2 * m) (h0 : bs[0]? = some (m : Int)) : bytesL (seatsOf bs m) = bs := by
  apply List.ext_getElem?
  intro j
  have hls := length_seatsOf bs m
  by_cases hj : j < 1 + 2 * m
  · rcases Nat.eq_zero_or_pos j with rfl | hp
    · rw [h0]
      unfold bytesL
      rw [hls]; rfl
    · obtain ⟨i, hi⟩ : ∃ i, j = 1 + 2 * i ∨ j = 2 + 2 * i := ⟨(j - 1) / 2, by omega⟩
      have him : i < m := by omega
      obtain ⟨h1, h2⟩ := bytes_at (seatsOf_at bs him)
      rcases hi with rfl | rfl
      · rw [h1, List.getD_eq_getElem?_getD, List.getElem?_eq_getElem (by omega)]; rfl
      · rw [h2]
        show some (bs.getD (2 + 2 * i) 0) = _
        rw [List.getD_eq_getElem?_getD, List.getElem?_eq_getElem (by omega)]; rfl
  · rw [List.getElem?_eq_none (by rw [length_bytesL, hls]; omega), List.getElem?_eq_none (by omega)]
/-- what bytes tell: a topology that may be, whose bytes they are; or none, and why -/
theorem decode_cases (bs : List Int) (hby : ∀ (k : Nat) (x : Int), bs[k]? = some x → 0 ≤ x ∧ x < 256) :
    (∃ L, decodeV bs = (L, 0) ∧ rightT L = true ∧ bytesL L = bs) ∨ decodeV bs = ([], 7) ∨ decodeV bs = ([], 160) := by
  by_cases h : bs.length < 1 ∨ (bs.length : Int) < 1 + 2 * bs.getD 0 0
  · exact .inr (.inl (by unfold decodeV; rw [if_pos h]))
  · by_cases h2 : rightT (seatsOf bs (bs.getD 0 0).toNat) = true ∧ (bs.length : Int) = 1 + 2 * bs.getD 0 0
    · obtain ⟨z, hz⟩ := elem_at (l := bs) (k := 0) (by omega)
      have hg : bs.getD 0 0 = z := by rw [List.getD_eq_getElem?_getD, hz]; rfl
      obtain ⟨z0, _⟩ := hby 0 z hz
      obtain ⟨m, rfl⟩ := Int.eq_ofNat_of_zero_le z0
      refine .inl ⟨seatsOf bs (bs.getD 0 0).toNat, by unfold decodeV; rw [if_neg h, if_pos h2], h2.1, ?_⟩
      rw [hg, Int.toNat_natCast]
      refine bytes_back bs m ?_ hz
      have := h2.2
      rw [hg] at this
      omega
    · exact .inr (.inr (by unfold decodeV; rw [if_neg h, if_neg h2]))

end Go.Proofs.Ytfalkiinlkfanaa
