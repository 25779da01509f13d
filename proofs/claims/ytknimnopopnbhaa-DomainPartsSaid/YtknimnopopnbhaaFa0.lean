/-
  What comes is what must come (mathematics), the statements' is. No statement is proved here.
-/
import Derived.Test.YtknimnopopnbhaaEr
import Derived.Test.YtknimnopopnbhaaDh
import Derived.Test.YtknimnopopnbhaaDi
import Derived.Test.YtknimnopopnbhaaDf
namespace Go.Proofs.Ytknimnopopnbhaa
open Go.RowKit

/-- an error and none, or what must come -/
def IsOk (E : Int) (D : List Dom) (V : List Vc) (D' : List Dom) (V' : List Vc) : Prop := (E ≠ 0 ∧ D = [] ∧ V = []) ∨ (E = 0 ∧ D = D' ∧ V = V')
/-- what comes is what must come, or an error and none -/
theorem is_any (A : Option Addr) (n c : Nat) (D : List Dom) (B : Option Addr) (m d : Nat) (V : List Vc) (E : Int) (A' : Option Addr) (n' c' : Nat) (D' : List Dom) (B' : Option Addr) (m' d' : Nat) (V' : List Vc) (w : World) (hG : GR w A n c D B m d V) (hG' : GR w A' n' c' D' B' m' d' V')
    (h : IsOk E D V D' V') :
    Calls Try.prog 19 #[.agg #[.slice A n c, .slice B m d], .int .i64 E, .agg #[.slice A' n' c', .slice B' m' d'], .int .i64 E] w (Said (.bool true) w) := by
  rcases h with ⟨hE, rfl, rfl⟩ | ⟨rfl, rfl, rfl⟩
  · obtain ⟨h1, h2⟩ := hG.len
    simp only [List.length_nil] at h1 h2
    subst h1 h2
    exact is_no A c B d E A' n' c' B' m' d' w hE
  · exact is_yes A n c D B m d V A' n' c' B' m' d' w hG hG'
theorem create_is (ds : List Dom) (us : List Vc) (x : Dom) : IsOk (createQ ds us x).2.2 (createQ ds us x).1 (createQ ds us x).2.1 (madeD ds x 0 8) (madeV us zeroV 0 16) := by
  unfold createQ IsOk
  by_cases hr : rightG ds us = true
  · rw [if_pos hr]
    by_cases hd : rightD x = true
    · rw [if_pos hd]
      by_cases hk : (kf ds x.1).isSome = true
      · rw [if_pos hk]; exact .inl ⟨by decide, rfl, rfl⟩
      · rw [if_neg hk]
        have hP := rightG_iff.1 hr
        exact .inr ⟨rfl, (made_ins hP hd (kf_isnt (by simpa using hk))).symm, (madeV_same hP).symm⟩
    · rw [if_neg hd]; exact .inl ⟨by decide, rfl, rfl⟩
  · rw [if_neg hr]; exact .inl ⟨by decide, rfl, rfl⟩
theorem change_is (ds : List Dom) (us : List Vc) (x : Dom) : IsOk (changeQ ds us x).2.2 (changeQ ds us x).1 (changeQ ds us x).2.1 (madeD ds x 0 8) (madeV us zeroV 0 16) := by
  unfold changeQ IsOk
  by_cases hr : rightG ds us = true
  · rw [if_pos hr]
    by_cases hd : rightD x = true
    · rw [if_pos hd]
      by_cases hk : (kf ds x.1).isSome = true
      · rw [if_pos hk]
        have hP := rightG_iff.1 hr
        obtain ⟨y, hy⟩ := kf_is hk
        exact .inr ⟨rfl, (made_set hP hd hy).symm, (madeV_same hP).symm⟩
      · rw [if_neg hk]; exact .inl ⟨by decide, rfl, rfl⟩
    · rw [if_neg hd]; exact .inl ⟨by decide, rfl, rfl⟩
  · rw [if_neg hr]; exact .inl ⟨by decide, rfl, rfl⟩
theorem destroy_is (ds : List Dom) (us : List Vc) (id : Int) : IsOk (destroyQ ds us id).2.2 (destroyQ ds us id).1 (destroyQ ds us id).2.1 (madeD ds zeroD id 8) (madeV us zeroV 0 16) := by
  unfold destroyQ IsOk
  by_cases hr : rightG ds us = true
  · rw [if_pos hr]
    by_cases hk : (kf ds id).isSome = true
    · rw [if_pos hk]
      by_cases h0 : 0 < (ofL us id).length
      · rw [if_pos h0]; exact .inl ⟨by decide, rfl, rfl⟩
      · rw [if_neg h0]
        have hP := rightG_iff.1 hr
        obtain ⟨y, hy⟩ := kf_is hk
        exact .inr ⟨rfl, (made_del hP hy).symm, (madeV_same hP).symm⟩
    · rw [if_neg hk]; exact .inl ⟨by decide, rfl, rfl⟩
  · rw [if_neg hr]; exact .inl ⟨by decide, rfl, rfl⟩
theorem q_len {r : List Dom × List Vc × Int} {ds' : List Dom} {us' : List Vc} (h : IsOk r.2.2 r.1 r.2.1 ds' us') (h1 : ds'.length ≤ 8) (h2 : us'.length ≤ 16) : r.1.length ≤ 1000 ∧ r.2.1.length ≤ 1000 := by
  rcases h with ⟨_, e1, e2⟩ | ⟨_, e1, e2⟩
  · rw [e1, e2]; exact ⟨by simp, by simp⟩
  · rw [e1, e2]; exact ⟨by omega, by omega⟩
theorem made_uv {us : List Vc} (hU : UV us) (v : Vc) (hv : v.2.2.1 < 4294967296 ∧ v.2.2.2 < 4294967296) (no : Int) : ∀ k, UV (madeV us v no k)
  | 0 => fun x hx => by cases hx
  | k + 1 => fun x hx => by
    unfold madeV at hx
    rcases List.mem_append.1 hx with h | h
    · exact made_uv hU v hv no k x h
    · split at h
      · cases h
      · split at h
        · simp only [List.mem_cons, List.not_mem_nil, or_false] at h
          subst h
          exact hv
        · rw [Option.mem_toList] at h
          exact hU x (kf_some h).1
theorem q_uv {r : List Dom × List Vc × Int} {ds' : List Dom} {us' : List Vc} (h : IsOk r.2.2 r.1 r.2.1 ds' us') (hU : UV us') : UV r.2.1 := by
  rcases h with ⟨_, _, e2⟩ | ⟨_, _, e2⟩
  · rw [e2]; exact fun v hv => by cases hv
  · rw [e2]; exact hU
theorem GivesG.gr {ds : List Dom} {us : List Vc} {w w' : World} {e : Ending} (h : GivesG ds us w e w') (hd : ds.length ≤ 1000) (hv : us.length ≤ 1000) (hU : UV us) : ∃ A n c B m d, e = .returned (.agg #[.slice A n c, .slice B m d]) ∧ GR w' A n c ds B m d us ∧ Below w.heap.size w w' := by
  obtain ⟨A, c, B, d, rfl, o1, o2, h9⟩ := h
  exact ⟨A, _, c, B, _, d, rfl, GR.of_own o1 o2 hd hv hU, h9⟩

end Go.Proofs.Ytknimnopopnbhaa
