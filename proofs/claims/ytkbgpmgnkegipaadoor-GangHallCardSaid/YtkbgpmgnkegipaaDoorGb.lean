/-
  Rows, and which of them have one each, none twice: the first match, and who takes over from whom. Plain mathematics; no statement is proved here.
-/
import Derived.Test.YtkbgpmgnkegipaaDoorGa
import Derived.Test.YtkbgpmgnkegipaaDoorHm
namespace Go.Proofs.YtkbgpmgnkegipaaDoor

/-- the first match of rows, behind some that are taken -/
def matchR : List (List Int) → List Int → Option (List Int)
  | [], _ => some []
  | row :: rest, T => row.findSome? fun c => if c ∈ T then none else (matchR rest (T ++ [c])).map fun m => c :: m
theorem match_facts : ∀ {cs : List (List Int)} {T m : List Int}, matchR cs T = some m → m.length = cs.length ∧ (∀ (i : Nat) (c : Int), m[i]? = some c → ∃ row, cs[i]? = some row ∧ c ∈ row) ∧ (∀ c ∈ m, c ∉ T) ∧ m.Nodup
  | [], T, m, h => by
    have : m = [] := (Option.some.inj h).symm
    subst this
    exact ⟨rfl, fun i c h => (by simp at h), fun c h => (by cases h), List.nodup_nil⟩
  | row :: rest, T, m, h => by
    unfold matchR at h
    obtain ⟨c, hc, hf⟩ := List.exists_of_findSome?_eq_some h
    by_cases hT : c ∈ T
    · rw [if_pos hT] at hf; cases hf
    · rw [if_neg hT] at hf
      cases hm : matchR rest (T ++ [c]) with
      | none => rw [hm] at hf; cases hf
      | some m' =>
        rw [hm] at hf
        have e : m = c :: m' := (Option.some.inj hf).symm
        subst e
        obtain ⟨h1, h2, h3, h4⟩ := match_facts hm
        refine ⟨by simp [h1], fun i x hx => ?_, fun x hx => ?_, List.nodup_cons.2 ⟨fun hcm => h3 c hcm (by simp), h4⟩⟩
        · cases i with
          | zero => exact ⟨row, rfl, by have : c = x := by simpa using hx
                                        rw [← this]; exact hc⟩
          | succ i => exact h2 i x (by simpa using hx)
        · rcases List.mem_cons.1 hx with e | hx
          · rw [e]; exact hT
          · exact fun hxT => h3 x hx (List.mem_append_left _ hxT)
theorem match_some : ∀ {cs : List (List Int)} {T : List Int} (f : Nat → Int), (∀ (i : Nat) (row : List Int), cs[i]? = some row → f i ∈ row) → (∀ i, i < cs.length → f i ∉ T) → (∀ i j, i < cs.length → j < cs.length → f i = f j → i = j) → (matchR cs T).isSome = true
  | [], _, _, _, _, _ => rfl
  | row :: rest, T, f, hf, hT, hi => by
    unfold matchR
    rw [List.findSome?_isSome_iff]
    refine ⟨f 0, hf 0 row rfl, ?_⟩
    rw [if_neg (hT 0 (by simp)), Option.isSome_map]
    refine match_some (fun i => f (i + 1)) (fun i row h => hf (i + 1) row (by simpa using h)) (fun i h hm => ?_) (fun i j h1 h2 e => by have := hi (i + 1) (j + 1) (by simp; omega) (by simp; omega) e; omega)
    rcases List.mem_append.1 hm with hm | hm
    · exact hT (i + 1) (by simp; omega) hm
    · have := hi (i + 1) 0 (by simp; omega) (by simp) (by simpa using hm)
      omega
/-- rows of one each ahead -/
theorem match_ones : ∀ (T S : List Int) (rest : List (List Int)), (matchR (T.map (fun c => [c]) ++ rest) S).isSome = true ↔ T.Nodup ∧ (∀ c ∈ T, c ∉ S) ∧ (matchR rest (S ++ T)).isSome = true
  | [], S, rest => by simp
  | t :: T, S, rest => by
    have ih := match_ones T (S ++ [t]) rest
    rw [List.map_cons, List.cons_append]
    rw [show matchR ([t] :: (T.map (fun c => [c]) ++ rest)) S = [t].findSome? fun c => if c ∈ S then none else (matchR (T.map (fun c => [c]) ++ rest) (S ++ [c])).map fun m => c :: m from rfl]
    rw [List.findSome?_isSome_iff]
    constructor
    · rintro ⟨c, hc, h⟩
      obtain rfl : c = t := by simpa using hc
      by_cases hS : c ∈ S
      · rw [if_pos hS] at h; cases h
      · rw [if_neg hS, Option.isSome_map] at h
        obtain ⟨h1, h2, h3⟩ := ih.1 h
        refine ⟨List.nodup_cons.2 ⟨fun hm => h2 c hm (by simp), h1⟩, fun x hx => ?_, by rw [List.append_assoc] at h3; exact h3⟩
        rcases List.mem_cons.1 hx with e | hx
        · rw [e]; exact hS
        · exact fun hxs => h2 x hx (List.mem_append_left _ hxs)
    · rintro ⟨h1, h2, h3⟩
      obtain ⟨h4, h5⟩ := List.nodup_cons.1 h1
      refine ⟨t, by simp, ?_⟩
      rw [if_neg (h2 t (by simp)), Option.isSome_map]
      refine ih.2 ⟨h5, fun x hx hm => ?_, by rw [List.append_assoc]; exact h3⟩
      rcases List.mem_append.1 hm with hm | hm
      · exact h2 x (List.mem_cons_of_mem _ hx) hm
      · rw [show x = t by simpa using hm] at hx
        exact h4 hx

/-! ### who takes over from whom -/
/-- of rows, each within the pCPUs -/
def RowsG (cs : List (List Int)) : Prop := ∀ row ∈ cs, ∀ c ∈ row, 0 ≤ c ∧ c < 8
def NB (cs : List (List Int)) (r c : Nat) : Prop := ∃ row, cs[r]? = some row ∧ (c : Int) ∈ row
theorem nb_small {cs : List (List Int)} (h : RowsG cs) {r c : Nat} (hn : NB cs r c) : c < 8 ∧ r < cs.length := by
  obtain ⟨row, h1, h2⟩ := hn
  have := h row (List.mem_of_getElem? h1) _ h2
  exact ⟨by omega, (List.getElem?_eq_some_iff.1 h1).1⟩
/-- what must be so ahead of the asking for a row -/
structure PreT (cs : List (List Int)) (H : Nat → Option Nat) (A : Nat → Bool) (p : Nat) : Prop where
  edge : ∀ c r, H c = some r → NB cs r c
  inj : ∀ c c' r, A c = false → A c' = false → H c = some r → H c' = some r → c = c'
  new : ∀ c, A c = false → H c ≠ some p
structure TakeOk (cs : List (List Int)) (H : Nat → Option Nat) (A : Nat → Bool) (p : Nat) (H' : Nat → Option Nat) : Prop where
  same : ∀ c, A c = true → H' c = H c
  edge : ∀ c r, H' c = some r → NB cs r c
  inj : ∀ c c' r, A c = false → A c' = false → H' c = some r → H' c' = some r → c = c'
  range : ∀ r, (∃ c, A c = false ∧ H' c = some r) ↔ (r = p ∨ ∃ c, A c = false ∧ H c = some r)
structure TakeNo (cs : List (List Int)) (H : Nat → Option Nat) (A : Nat → Bool) (row : List Int) (A' : Nat → Bool) : Prop where
  mono : ∀ c, A c = true → A' c = true
  all : ∀ c : Nat, (c : Int) ∈ row → A' c = true
  own : ∀ c, A' c = true → A c = false → ∃ r row', H c = some r ∧ cs[r]? = some row' ∧ ∀ c' : Nat, (c' : Int) ∈ row' → A' c' = true
def put {α : Type} (F : Nat → α) (k : Nat) (v : α) : Nat → α := fun i => if i = k then v else F i
theorem put_same {α : Type} {F : Nat → α} {k : Nat} {v : α} : put F k v k = v := if_pos rfl
theorem put_other {α : Type} {F : Nat → α} {k i : Nat} {v : α} (h : i ≠ k) : put F k v i = F i := if_neg h
theorem no_zero (cs : List (List Int)) (H : Nat → Option Nat) (A : Nat → Bool) : TakeNo cs H A [] A := ⟨fun _ h => h, fun c h => (by cases h), fun c h1 h2 => (by rw [h1] at h2; cases h2)⟩
section
variable {cs : List (List Int)} {H H2 : Nat → Option Nat} {A B B2 : Nat → Bool} {p x : Nat} {row : List Int}
theorem no_skip (h : TakeNo cs H A row B) (hx : B x = true) : TakeNo cs H A (row ++ [(x : Int)]) B := ⟨h.mono, fun c hc => by
  rcases List.mem_append.1 hc with hc | hc
  · exact h.all c hc
  · rw [show c = x by have : (c : Int) = (x : Int) := by simpa using hc
                      omega]; exact hx, h.own⟩
theorem pre_next (hP : PreT cs H A p) (hN : TakeNo cs H A row B) (hx : B x = false) {r : Nat} (hr : H x = some r) : PreT cs H (put B x true) r := by
  have hA : ∀ c, put B x true c = false → A c = false ∧ c ≠ x := fun c hc => by
    by_cases e : c = x
    · subst e; rw [put_same] at hc; cases hc
    · rw [put_other e] at hc
      refine ⟨?_, e⟩
      cases ha : A c with
      | false => rfl
      | true => rw [hN.mono c ha] at hc; cases hc
  have hxA : A x = false := by
    cases ha : A x with
    | false => rfl
    | true => rw [hN.mono x ha] at hx; cases hx
  refine ⟨hP.edge, fun c c' r' h1 h2 => hP.inj c c' r' (hA c h1).1 (hA c' h2).1, fun c hc he => ?_⟩
  exact (hA c hc).2 (hP.inj c x r (hA c hc).1 hxA he hr)
theorem no_more (hN : TakeNo cs H A row B) {r : Nat} {row' : List Int} (hr : H x = some r) (hrow : cs[r]? = some row') (h2 : TakeNo cs H (put B x true) row' B2) : TakeNo cs H A (row ++ [(x : Int)]) B2 := by
  have hm : ∀ c, B c = true → B2 c = true := fun c hc => h2.mono c (by
    by_cases e : c = x
    · subst e; exact put_same
    · rw [put_other e]; exact hc)
  have hxx : B2 x = true := h2.mono x put_same
  refine ⟨fun c hc => hm c (hN.mono c hc), fun c hc => ?_, fun c h1 hA => ?_⟩
  · rcases List.mem_append.1 hc with hc | hc
    · exact hm c (hN.all c hc)
    · rw [show c = x by have : (c : Int) = (x : Int) := by simpa using hc
                        omega]; exact hxx
  · by_cases e : c = x
    · subst e; exact ⟨r, row', hr, hrow, h2.all⟩
    · cases hb : B c with
      | true =>
        obtain ⟨r1, row1, g1, g2, g3⟩ := hN.own c hb hA
        exact ⟨r1, row1, g1, g2, fun c' hc' => hm c' (g3 c' hc')⟩
      | false => exact h2.own c h1 (by rw [put_other e]; exact hb)
theorem ok_free (hP : PreT cs H A p) (hN : TakeNo cs H A row B) (hx : B x = false) (hnb : NB cs p x) (hr : H x = none) : TakeOk cs H A p (put H x (some p)) := by
  have hxA : A x = false := by
    cases ha : A x with
    | false => rfl
    | true => rw [hN.mono x ha] at hx; cases hx
  refine ⟨fun c hc => put_other (fun e => by rw [e, hxA] at hc; cases hc), fun c r h => ?_, fun c c' r h1 h2 g1 g2 => ?_, fun r => ⟨?_, ?_⟩⟩
  · by_cases e : c = x
    · subst e; rw [put_same] at h; rw [← Option.some.inj h]; exact hnb
    · rw [put_other e] at h; exact hP.edge c r h
  · by_cases e : c = x
    · by_cases e' : c' = x
      · rw [e, e']
      · rw [e, put_same] at g1
        rw [put_other e'] at g2
        rw [← Option.some.inj g1] at g2
        exact absurd g2 (hP.new c' h2)
    · rw [put_other e] at g1
      by_cases e' : c' = x
      · rw [e', put_same] at g2
        rw [← Option.some.inj g2] at g1
        exact absurd g1 (hP.new c h1)
      · rw [put_other e'] at g2
        exact hP.inj c c' r h1 h2 g1 g2
  · rintro ⟨c, h1, h2⟩
    by_cases e : c = x
    · rw [e, put_same] at h2; exact .inl (Option.some.inj h2).symm
    · rw [put_other e] at h2; exact .inr ⟨c, h1, h2⟩
  · rintro (rfl | ⟨c, h1, h2⟩)
    · exact ⟨x, hxA, put_same⟩
    · exact ⟨c, h1, by rw [put_other (fun e => by rw [e, hr] at h2; cases h2)]; exact h2⟩
theorem ok_moved (hP : PreT cs H A p) (hN : TakeNo cs H A row B) (hx : B x = false) (hnb : NB cs p x) {r : Nat} (hr : H x = some r) (h2 : TakeOk cs H (put B x true) r H2) : TakeOk cs H A p (put H2 x (some p)) := by
  have hxA : A x = false := by
    cases ha : A x with
    | false => rfl
    | true => rw [hN.mono x ha] at hx; cases hx
  have hBf : ∀ c, c ≠ x → B c = false → put B x true c = false := fun c e h => by rw [put_other e]; exact h
  have hAB : ∀ c, B c = false → A c = false := fun c h => by
    cases ha : A c with
    | false => rfl
    | true => rw [hN.mono c ha] at h; cases h
  have hsame : ∀ c, B c = true → H2 c = H c := fun c h => h2.same c (by
    by_cases e : c = x
    · subst e; exact put_same
    · rw [put_other e]; exact h)
  -- who holds one of those not asked for, behind it
  have hback : ∀ c r', c ≠ x → B c = false → H2 c = some r' → r' = r ∨ ∃ c0, c0 ≠ x ∧ B c0 = false ∧ H c0 = some r' := fun c r' e hb hh => by
    rcases (h2.range r').1 ⟨c, hBf c e hb, hh⟩ with h | ⟨c0, h0, h1⟩
    · exact .inl h
    · refine .inr ⟨c0, fun e0 => (by rw [e0, put_same] at h0; cases h0), ?_, h1⟩
      by_cases e0 : c0 = x
      · rw [e0, put_same] at h0; cases h0
      · rw [put_other e0] at h0; exact h0
  have hnp : ∀ c, c ≠ x → A c = false → H2 c ≠ some p := fun c e hA hh => by
    cases hb : B c with
    | true => rw [hsame c hb] at hh; exact hP.new c hA hh
    | false =>
      rcases hback c p e hb hh with h | ⟨c0, _, h0, h1⟩
      · exact hP.new x hxA (by rw [hr, h])
      · exact hP.new c0 (hAB c0 h0) h1
  refine ⟨fun c hc => ?_, fun c r' h => ?_, fun c c' r' h1 h1' g1 g2 => ?_, fun r' => ⟨?_, ?_⟩⟩
  · rw [put_other (fun e => by rw [e, hxA] at hc; cases hc)]
    exact hsame c (hN.mono c hc)
  · by_cases e : c = x
    · subst e; rw [put_same] at h; rw [← Option.some.inj h]; exact hnb
    · rw [put_other e] at h; exact h2.edge c r' h
  · by_cases e : c = x
    · by_cases e' : c' = x
      · rw [e, e']
      · rw [e, put_same] at g1
        rw [put_other e', ← Option.some.inj g1] at g2
        exact absurd g2 (hnp c' e' h1')
    · rw [put_other e] at g1
      by_cases e' : c' = x
      · rw [e', put_same] at g2
        rw [← Option.some.inj g2] at g1
        exact absurd g1 (hnp c e h1)
      · rw [put_other e'] at g2
        cases hb : B c with
        | true =>
          rw [hsame c hb] at g1
          cases hb' : B c' with
          | true =>
            rw [hsame c' hb'] at g2
            exact hP.inj c c' r' h1 h1' g1 g2
          | false =>
            rcases hback c' r' e' hb' g2 with h | ⟨c0, _, h0, h3⟩
            · exact absurd (hP.inj c x r' h1 hxA g1 (by rw [hr, h])) e
            · have := hP.inj c c0 r' h1 (hAB c0 h0) g1 h3
              rw [this, h0] at hb; cases hb
        | false =>
          cases hb' : B c' with
          | true =>
            rw [hsame c' hb'] at g2
            rcases hback c r' e hb g1 with h | ⟨c0, _, h0, h3⟩
            · exact absurd (hP.inj c' x r' h1' hxA g2 (by rw [hr, h])) e'
            · have := hP.inj c' c0 r' h1' (hAB c0 h0) g2 h3
              rw [this, h0] at hb'; cases hb'
          | false => exact h2.inj c c' r' (hBf c e hb) (hBf c' e' hb') g1 g2
  · rintro ⟨c, h1, h3⟩
    by_cases e : c = x
    · rw [e, put_same] at h3; exact .inl (Option.some.inj h3).symm
    · rw [put_other e] at h3
      cases hb : B c with
      | true => rw [hsame c hb] at h3; exact .inr ⟨c, h1, h3⟩
      | false =>
        rcases hback c r' e hb h3 with h | ⟨c0, _, h0, h4⟩
        · exact .inr ⟨x, hxA, by rw [hr, h]⟩
        · exact .inr ⟨c0, hAB c0 h0, h4⟩
  · rintro (rfl | ⟨c, h1, h3⟩)
    · exact ⟨x, hxA, put_same⟩
    · by_cases e : c = x
      · have e1 : r' = r := by rw [e, hr] at h3; exact (Option.some.inj h3).symm
        obtain ⟨c0, h0, h4⟩ := (h2.range r').2 (.inl e1)
        have e0 : c0 ≠ x := fun e0 => by rw [e0, put_same] at h0; cases h0
        rw [put_other e0] at h0
        exact ⟨c0, hAB c0 h0, by rw [put_other e0]; exact h4⟩
      · cases hb : B c with
        | true => exact ⟨c, h1, by rw [put_other e, hsame c hb]; exact h3⟩
        | false =>
          obtain ⟨c0, h0, h4⟩ := (h2.range r').2 (.inr ⟨c, hBf c e hb, h3⟩)
          have e0 : c0 ≠ x := fun e0 => by rw [e0, put_same] at h0; cases h0
          rw [put_other e0] at h0
          exact ⟨c0, hAB c0 h0, by rw [put_other e0]; exact h4⟩
end

/-! ### row by row -/
structure FitH (cs : List (List Int)) (H : Nat → Option Nat) (k : Nat) : Prop where
  edge : ∀ c r, H c = some r → NB cs r c
  inj : ∀ c c' r, H c = some r → H c' = some r → c = c'
  range : ∀ r, (∃ c, H c = some r) ↔ r < k
def noneA : Nat → Bool := fun _ => false
theorem fit_zero (cs : List (List Int)) : FitH cs (fun _ => none) 0 := ⟨fun c r h => (by cases h), fun c c' r h => (by cases h), fun r => ⟨fun ⟨c, h⟩ => (by cases h), fun h => (by omega)⟩⟩
theorem fit_pre {cs : List (List Int)} {H : Nat → Option Nat} {k : Nat} (h : FitH cs H k) : PreT cs H noneA k := ⟨h.edge, fun c c' r _ _ => h.inj c c' r, fun c _ he => by have := (h.range k).1 ⟨c, he⟩; omega⟩
theorem fit_step {cs : List (List Int)} {H H' : Nat → Option Nat} {k : Nat} (h : FitH cs H k) (h2 : TakeOk cs H noneA k H') : FitH cs H' (k + 1) :=
  ⟨h2.edge, fun c c' r => h2.inj c c' r rfl rfl, fun r => by
    constructor
    · rintro ⟨c, hc⟩
      rcases (h2.range r).1 ⟨c, rfl, hc⟩ with h3 | ⟨c0, _, h3⟩
      · omega
      · have := (h.range r).1 ⟨c0, h3⟩; omega
    · intro hr
      obtain ⟨c, _, hc⟩ := (h2.range r).2 (by
        by_cases e : r = k
        · exact .inl e
        · obtain ⟨c, hc⟩ := (h.range r).2 (by omega)
          exact .inr ⟨c, rfl, hc⟩)
      exact ⟨c, hc⟩⟩
theorem fit_end {cs : List (List Int)} {H : Nat → Option Nat} (h : FitH cs H cs.length) : (matchR cs []).isSome = true := by
  have hex : ∀ i, i < cs.length → ∃ c, H c = some i := fun i hi => (h.range i).2 hi
  refine match_some (fun i => if hi : i < cs.length then ((hex i hi).choose : Int) else 0) (fun i row hrow => ?_) (fun i hi hm => by cases hm) (fun i j hi hj e => ?_)
  · have hi := (List.getElem?_eq_some_iff.1 hrow).1
    show (if hi : i < cs.length then ((hex i hi).choose : Int) else 0) ∈ row
    rw [dif_pos hi]
    obtain ⟨row', h1, h2⟩ := h.edge _ _ (hex i hi).choose_spec
    rw [hrow] at h1
    rw [Option.some.inj h1]
    exact h2
  · have e : (if hi : i < cs.length then ((hex i hi).choose : Int) else 0) = (if hi : j < cs.length then ((hex j hi).choose : Int) else 0) := e
    rw [dif_pos hi, dif_pos hj] at e
    have h1 := (hex i hi).choose_spec
    have h2 := (hex j hj).choose_spec
    rw [show (hex i hi).choose = (hex j hj).choose by omega, h2] at h1
    exact (Option.some.inj h1).symm
theorem fit_no {cs : List (List Int)} (hG : RowsG cs) {H : Nat → Option Nat} {k : Nat} {row : List Int} (h : FitH cs H k) (hk : cs[k]? = some row) {B : Nat → Bool} (h2 : TakeNo cs H noneA row B) : matchR cs [] = none := by
  cases hm : matchR cs [] with
  | none => rfl
  | some m =>
    exfalso
    obtain ⟨h1, h3, _, h4⟩ := match_facts hm
    have hkl := (List.getElem?_eq_some_iff.1 hk).1
    have hf : ∀ i, i < cs.length → ∃ c : Nat, c < 8 ∧ m[i]? = some (c : Int) ∧ NB cs i c := fun i hi => by
      have hg : m[i]? = some m[i] := List.getElem?_eq_getElem (by omega)
      obtain ⟨r, g1, g2⟩ := h3 i _ hg
      have := hG r (List.mem_of_getElem? g1) _ g2
      exact ⟨m[i].toNat, by omega, by rw [hg]; congr 1; omega, r, g1, by rw [show (m[i].toNat : Int) = m[i] by omega]; exact g2⟩
    let f : Nat → Nat := fun i => if hi : i < cs.length then (hf i hi).choose else 0
    have hfs : ∀ i (hi : i < cs.length), f i < 8 ∧ m[i]? = some (f i : Int) ∧ NB cs i (f i) := fun i hi => by
      have : f i = (hf i hi).choose := dif_pos hi
      rw [this]
      exact (hf i hi).choose_spec
    let K : Nat → Bool := fun r => decide (r = k) || (List.range 8).any fun c => B c && decide (H c = some r)
    have hKk : K k = true := by show (decide (k = k) || _) = true; simp
    have hKr : ∀ r, K r = true → ∀ c, NB cs r c → B c = true := fun r hr c hc => by
      have hr : (decide (r = k) || (List.range 8).any fun c => B c && decide (H c = some r)) = true := hr
      rw [Bool.or_eq_true, decide_eq_true_eq, List.any_eq_true] at hr
      rcases hr with rfl | ⟨c0, _, hc0⟩
      · obtain ⟨row', g1, g2⟩ := hc
        rw [hk] at g1
        rw [← Option.some.inj g1] at g2
        exact h2.all c g2
      · rw [Bool.and_eq_true, decide_eq_true_eq] at hc0
        obtain ⟨r1, row1, g1, g2, g3⟩ := h2.own c0 hc0.1 rfl
        rw [hc0.2] at g1
        obtain ⟨row', g4, g5⟩ := hc
        rw [Option.some.inj g1, g2] at g4
        rw [← Option.some.inj g4] at g5
        exact g3 c g5
    have le1 : cnt K cs.length ≤ cnt B 8 := cnt_inj (f := f) cs.length B (fun i hi hK => ⟨(hfs i hi).1, hKr i hK _ (hfs i hi).2.2⟩) (fun i j hi hj _ _ e => by
      have a := (hfs i hi).2.1
      have b := (hfs j hj).2.1
      rw [e] at a
      obtain ⟨hi', a'⟩ := List.getElem?_eq_some_iff.1 a
      obtain ⟨hj', b'⟩ := List.getElem?_eq_some_iff.1 b
      exact (List.getElem_inj h4).1 (a'.trans b'.symm))
    have le2 : cnt B 8 ≤ cnt (fun r => K r && !(r == k)) cs.length := cnt_inj (f := fun c => (H c).getD 0) 8 _ (fun c hc hB => by
      obtain ⟨r, row', g1, g2, _⟩ := h2.own c hB rfl
      have g3 := (h.range r).1 ⟨c, g1⟩
      show (H c).getD 0 < cs.length ∧ (K ((H c).getD 0) && !((H c).getD 0 == k)) = true
      rw [g1]
      refine ⟨(List.getElem?_eq_some_iff.1 g2).1, ?_⟩
      show (K r && !(r == k)) = true
      have e1 : K r = true := by
        show (decide (r = k) || (List.range 8).any fun c => B c && decide (H c = some r)) = true
        rw [Bool.or_eq_true]
        refine .inr (List.any_eq_true.2 ⟨c, List.mem_range.2 hc, ?_⟩)
        rw [hB, g1]; simp
      rw [e1, show (r == k) = false by simp; omega]
      rfl) (fun c c' hc hc' hB hB' e => by
      obtain ⟨r, _, g1, _⟩ := h2.own c hB rfl
      obtain ⟨r', _, g1', _⟩ := h2.own c' hB' rfl
      have e : (H c).getD 0 = (H c').getD 0 := e
      rw [g1, g1'] at e
      exact h.inj c c' r g1 (by rw [g1']; exact congrArg some (show r = r' from e).symm))
    have e3 := cnt_one (P := K) hkl hKk
    omega

end Go.Proofs.YtkbgpmgnkegipaaDoor
