/-
  Who is at home, told the document's way. No statement is proved here.
-/
import Derived.Test.YtldleijocjohgaaDoorGk
import Derived.Test.YtldleijocjohgaaDoorGu
namespace Go.Proofs.YtldleijocjohgaaDoor
open Go.RowKit

def atB (p : Int × Int) (w : Wi) : Bool := w.v == p.1 && w.a == p.2 && decide (0 ≤ w.a)
def wantW (l : List Wi) (p : Int × Int) : List Int := (l.filter (atB p)).map fun _ => p.1
def wantL (l : List Wi) (ps : List (Int × Int)) : List Int := ps.flatMap (wantW l)
theorem wantW_step {l : List Wi} {k : Nat} {w : Wi} (hk : l[k]? = some w) (p : Int × Int) : wantW (l.take (k + 1)) p = wantW (l.take k) p ++ if atB p w = true then [p.1] else [] := by
  unfold wantW
  rw [List.take_add_one, hk, List.filter_append, List.map_append]
  cases h : atB p w <;> simp [h]
theorem wantL_step {l : List Wi} {ps : List (Int × Int)} {k : Nat} {p : Int × Int} (hk : ps[k]? = some p) : wantL l (ps.take (k + 1)) = wantL l (ps.take k) ++ wantW l p := by
  unfold wantL
  rw [List.take_add_one, hk, List.flatMap_append]
  simp
theorem wantW_le (l : List Wi) (p : Int × Int) : (wantW l p).length ≤ l.length := by unfold wantW; rw [List.length_map]; exact List.length_filter_le _ _
theorem wantL_le (l : List Wi) (ps : List (Int × Int)) : (wantL l ps).length ≤ ps.length * l.length := by
  unfold wantL
  induction ps with
  | nil => simp
  | cons p ps ih =>
    rw [List.flatMap_cons, List.length_append, List.length_cons, Nat.add_mul, Nat.one_mul]
    have := wantW_le l p
    omega

theorem pair_cases {α : Type} {R : α → α → Prop} {l : List α} (h : l.Pairwise R) {x y : α} (hx : x ∈ l) (hy : y ∈ l) : x = y ∨ R x y ∨ R y x := by
  induction l with
  | nil => cases hx
  | cons z l ih =>
    rw [List.pairwise_cons] at h
    rcases List.mem_cons.1 hx with e | h1
    · rcases List.mem_cons.1 hy with e2 | h2
      · exact .inl (e.trans e2.symm)
      · exact .inr (.inl (e ▸ h.1 y h2))
    · rcases List.mem_cons.1 hy with e2 | h2
      · exact .inr (.inr (e2 ▸ h.1 x h1))
      · exact ih h.2 h1 h2
theorem right_ats {l : List Wi} (hr : rightW l = true) : l.Pairwise (fun x y => ¬ (0 ≤ y.a ∧ x.a = y.a)) := by
  rw [List.pairwise_iff_getElem]
  rintro i j hi hj h ⟨h0, e⟩
  have := (right_wish hr (List.getElem?_eq_getElem hj)).2
  unfold fitB at this
  rw [List.all_eq_true] at this
  have := this l[i] (List.mem_of_getElem? (i := i) (by rw [List.getElem?_take_of_lt h]; exact List.getElem?_eq_getElem hi))
  simp [e, h0] at this
theorem same_v {l : List Wi} (hr : rightW l = true) {x y : Wi} (hx : x ∈ l) (hy : y ∈ l) (h : x.v = y.v) : x = y := by
  rcases pair_cases (right_apart hr) hx hy with e | e | e
  · exact e
  · exact absurd h e
  · exact absurd h.symm e
theorem same_a {l : List Wi} (hr : rightW l = true) {x y : Wi} (hx : x ∈ l) (hy : y ∈ l) (h : x.a = y.a) (h0 : 0 ≤ x.a) : x = y := by
  rcases pair_cases (right_ats hr) hx hy with e | e | e
  · exact e
  · exact absurd ⟨by omega, h⟩ e
  · exact absurd ⟨by omega, h.symm⟩ e
theorem at_parts {p : Int × Int} {w : Wi} (h : atB p w = true) : w.v = p.1 ∧ w.a = p.2 ∧ 0 ≤ w.a := by
  unfold atB at h
  simp only [Bool.and_eq_true, beq_iff_eq, decide_eq_true_eq] at h
  exact ⟨h.1.1, h.1.2, h.2⟩
theorem want_none {l : List Wi} {p : Int × Int} (h : ∀ w ∈ l, atB p w = false) : wantW l p = [] := by
  unfold wantW
  rw [List.filter_eq_nil_iff.2 (fun w hw => by rw [h w hw]; simp)]
  rfl
theorem want_one {p : Int × Int} : ∀ (l : List Wi), l.Pairwise (fun x y => x.v ≠ y.v) → ∀ w ∈ l, atB p w = true → wantW l p = [p.1]
  | [], _, w, hw, _ => by cases hw
  | x :: l, hl, w, hw, ha => by
    rw [List.pairwise_cons] at hl
    rcases List.mem_cons.1 hw with rfl | hw
    · have hn : wantW l p = [] := want_none (fun y hy => by
        cases hy2 : atB p y with
        | false => rfl
        | true => exact absurd ((at_parts ha).1.trans (at_parts hy2).1.symm) (hl.1 y hy))
      unfold wantW at *
      rw [List.filter_cons_of_pos ha, List.map_cons, hn]
    · have hx : atB p x = false := by
        cases hy2 : atB p x with
        | false => rfl
        | true => exact absurd ((at_parts hy2).1.trans (at_parts ha).1.symm) (hl.1 w hw)
      have := want_one l hl.2 w hw ha
      unfold wantW at *
      rw [List.filter_cons_of_neg (by rw [hx]; simp)]
      exact this
theorem want_home {l : List Wi} (hr : rightW l = true) (p : Int × Int) : wantW l p = if homeB (hereF l) p = true then [p.1] else [] := by
  have hwi : ∀ w ∈ l, wiB w = true := fun w hw => by
    obtain ⟨k, hk⟩ := List.mem_iff_getElem?.1 hw
    exact (right_wish hr hk).1
  by_cases hex : ∃ w ∈ l, atB p w = true
  · obtain ⟨w, hw, ha⟩ := hex
    obtain ⟨e1, e2, e3⟩ := at_parts ha
    obtain ⟨v1, v2, a1, a2, _⟩ := wi_parts (hwi w hw)
    obtain ⟨k, hk⟩ := Int.eq_ofNat_of_zero_le e3
    have hspec := fun c => here_spec l.length rfl hwi c
    have hF : hereF l k = p.1 := by
      have hne : hereF l k ≠ 0 := fun h0 => (hspec k).1.1 h0 w hw hk
      obtain ⟨w', hw', h1, h2⟩ := (hspec k).2 hne
      have : w' = w := same_a hr hw' hw (by rw [h1, hk]) (by rw [h1]; omega)
      rw [← h2, this, e1]
    have ho : ofV (hereF l) p.1 = ((k : Int), true) := of_one (by omega) (by omega) hF (fun j hj hFj => by
      obtain ⟨w', hw', h1, h2⟩ := (hspec j).2 (by rw [hFj]; omega)
      have : w' = w := same_v hr hw' hw (by rw [h2, hFj, e1])
      rw [this, hk] at h1
      omega)
    rw [want_one l (right_apart hr) w hw ha, if_pos]
    unfold homeB
    rw [ho]
    show (true && ((k : Int) == p.2)) = true
    rw [← e2, hk]
    simp
  · rw [want_none (fun w hw => by
      cases h : atB p w with
      | false => rfl
      | true => exact absurd ⟨w, hw, h⟩ hex), if_neg]
    intro hh
    unfold homeB at hh
    simp only [Bool.and_eq_true, beq_iff_eq] at hh
    obtain ⟨hv, k, hk, hk8, hFk⟩ := of_yes (F := hereF l) (v := p.1) (c := (ofV (hereF l) p.1).1) (by rw [← hh.1])
    obtain ⟨w', hw', h1, h2⟩ := (here_spec l.length rfl hwi k).2 (by rw [hFk]; exact hv)
    refine hex ⟨w', hw', ?_⟩
    unfold atB
    have h3 : w'.v = p.1 := h2.trans hFk
    have h4 : w'.a = p.2 := by rw [h1, ← hk, hh.2]
    rw [h3, h4]
    have : 0 ≤ p.2 := by rw [← h4, h1]; omega
    simp [this]
theorem want_homes {l : List Wi} (hr : rightW l = true) (ps : List (Int × Int)) : wantL l ps = homesL l ps := by
  unfold homesL
  rw [if_pos hr]
  unfold wantL homeL
  induction ps with
  | nil => rfl
  | cons p ps ih =>
    rw [List.flatMap_cons, ih, want_home hr p]
    cases h : homeB (hereF l) p
    · rw [if_neg (by simp), List.nil_append, List.filter_cons_of_neg (by rw [h]; simp)]
    · rw [if_pos rfl, List.filter_cons_of_pos h, List.map_cons]; rfl

end Go.Proofs.YtldleijocjohgaaDoor
