/-
  Words that the walks of this seat's statements share. No statement is proved here.
-/
import Derived.Test.YtdoplpgmnoefeaaDoorCf
import Derived.Test.YtdoplpgmnoefeaaDoorCg
namespace Go.Proofs.YtdoplpgmnoefeaaDoor
open Go.RowKit

theorem two_of {f : FuncId} {args : Array Value} {a b a' b' : Int} {u : World} (h : Calls Tryd.prog f args u (Two a b u)) (ha : a = a') (hb : b = b') : Calls Tryd.prog f args u (Two a' b' u) := by
  subst ha hb
  exact h
theorem addE_cases (t d : Int) : (addE t d = 0 ∧ addV t d = t + d ∧ stopV t d = t + d ∧ chk [t, d] = 0 ∧ 0 ≤ t ∧ t ≤ 1125899906842624 ∧ 0 ≤ d ∧ d ≤ 1125899906842624 ∧ t + d ≤ 1125899906842624) ∨
    (addE t d = 6 ∧ addV t d = 0 ∧ stopV t d = 1125899906842624 ∧ chk [t, d] = 0 ∧ 0 ≤ t ∧ t ≤ 1125899906842624 ∧ 0 ≤ d ∧ d ≤ 1125899906842624 ∧ 1125899906842624 < t + d) ∨
    (addE t d = 120 ∧ addV t d = 0 ∧ stopV t d = 0 ∧ chk [t, d] = 120 ∧ (rt t && rt d) = false) := by
  rcases chk2 t d with ⟨hc, ht, hd⟩ | ⟨hc, hb⟩
  · obtain ⟨h0, h1⟩ := rt_true ht
    obtain ⟨h2, h3⟩ := rt_true hd
    have hb : (rt t && rt d) = true := by rw [ht, hd]; rfl
    by_cases hf : 1125899906842624 - t < d
    · have hE : addE t d = 6 := (if_pos hb).trans (if_pos hf)
      exact .inr (.inl ⟨hE, if_neg (by omega), (if_pos hb).trans (if_neg (by omega)), hc, h0, h1, h2, h3, by omega⟩)
    · have hE : addE t d = 0 := (if_pos hb).trans (if_neg hf)
      exact .inl ⟨hE, if_pos hE, (if_pos hb).trans (if_pos (by omega)), hc, h0, h1, h2, h3, by omega⟩
  · have hb' : ¬ (rt t && rt d) = true := by simp [hb]
    have hE : addE t d = 120 := if_neg hb'
    exact .inr (.inr ⟨hE, if_neg (by omega), if_neg hb', hc, hb⟩)

theorem behind {w u v : World} {m : Nat} (h : Below w.heap.size w u) (h2 : Below (u.drewN m).heap.size (u.drewN m) v) : Below w.heap.size w v :=
  h.trans ((show Below u.heap.size u v from ⟨h2.os, h2.tape, h2.output, h2.size, h2.block⟩).mono h.size)
theorem bad_all {t d : Int} (h : (rt t && rt d) = false) : addE t d = 120 ∧ addV t d = 0 ∧ lessE t d = 120 ∧ lessV t d = 0 ∧ chk [t, d] = 120 ∧ stopV t d = 0 ∧ agoV t d = 0 ∧
    upE t d = 120 ∧ upV t d = 0 ∧ downE t d = 120 ∧ downV t d = 0 := by
  have hb : ¬ (rt t && rt d) = true := by simp [h]
  have h1 : addE t d = 120 := if_neg hb
  have h2 : lessE t d = 120 := if_neg hb
  have h3 : upE t d = 120 := if_neg hb
  have h4 : downE t d = 120 := if_neg hb
  have h5 : chk [t, d] = 120 := by
    rcases chk2 t d with ⟨_, a, b⟩ | ⟨h, _⟩
    · simp [a, b] at h
    · exact h
  exact ⟨h1, if_neg (by omega), h2, if_neg (by omega), h5, if_neg hb, if_neg hb, h3, if_neg (by omega), h4, if_neg (by omega)⟩

end Go.Proofs.YtdoplpgmnoefeaaDoor
