/-
  PlaceWaits' walk. No statement is proved here.
-/
import Derived.Test.YtldleijocjohgaaDoorGr
namespace Go.Proofs.YtldleijocjohgaaDoor
open Go.RowKit Go.Maps

/-- what is placed is fair -/
theorem best_fair {S : Nat} {ps : List (Int × Int)} (hS : S < 256) : ∀ (l : List Wi) (n L : Nat), (∀ w ∈ l, UW w ∧ wiB w = true) → l.Pairwise (fun x y => x.v ≠ y.v) → L < 256 → n ≤ ps.length → Still S L (ps.take n) → putsOf (tus bestW l L) = ps.drop n → fairR S ps l n = true := by
  intro l
  induction l with
  | nil =>
    intro n L _ _ _ hn _ hp
    have hp : [] = ps.drop n := hp
    have := congrArg List.length hp
    rw [List.length_drop, List.length_nil] at this
    show (n == ps.length) = true
    rw [beq_iff_eq]
    omega
  | cons w l ih =>
    intro n L hw hpw hL hn hst hp
    obtain ⟨hu, hb⟩ := hw w (List.mem_cons_self)
    obtain ⟨v1, _, _, _, hr⟩ := wi_parts hb
    have hpw' := List.pairwise_cons.1 hpw
    have e : tus bestW (w :: l) L = ⟨w, (bestW w L).1, (bestW w L).2, L⟩ :: tus bestW l (afterS L (bestW w L).1 (bestW w L).2) := rfl
    rw [e, puts_cons] at hp
    obtain ⟨b1, b2, _⟩ := best_facts hu L
    show (match ps[n]? with
      | some p => if p.1 = w.v then hasB (alW w S : Int) p.2 && !((ps.take n).any (fun q => q.2 == p.2)) && fairR S ps l (n + 1) else waitB w S (ps.take n) && fairR S ps l n
      | none => waitB w S (ps.take n) && fairR S ps l n) = true
    cases hq : (bestW w L).2 with
    | true =>
      have ho := b1 hq
      obtain ⟨c0, c1⟩ := cpuB_true (has_cpu ho)
      obtain ⟨k, hk⟩ := Int.eq_ofNat_of_zero_le c0
      rw [hk] at ho c1
      rw [hq, if_pos rfl, after_yes] at hp
      obtain ⟨hg, hd⟩ := drop_cons hp.symm
      have hs := al_sub hu hr hS hL hst k (by omega)
      have ho2 := ho
      rw [hs] at ho2
      simp only [Bool.and_eq_true] at ho2
      have hlt := (List.getElem?_eq_some_iff.1 hg).1
      have hL2 := al_in hu hr hL ho
      have hrec := ih (n + 1) (outN L (bestW w L).1) (fun x hx => hw x (List.mem_cons_of_mem _ hx)) hpw'.2 (out_small _ hL) (by omega) (still_more (p := (w.v, (bestW w L).1)) hL hst hg (by show hasB _ (bestW w L).1 = true; rw [hk]; exact hL2)) hd.symm
      rw [hg]
      show (if w.v = w.v then _ else _) = true
      rw [if_pos rfl, hrec, Bool.and_true, Bool.and_eq_true]
      show hasB (alW w S : Int) (bestW w L).1 = true ∧ _
      rw [hk]
      exact ho2
    | false =>
      have ha := (b2 hq).1
      rw [hq, if_neg (by simp), after_no] at hp
      have hrec := ih n L (fun x hx => hw x (List.mem_cons_of_mem _ hx)) hpw'.2 hL hn hst hp
      have hwait : waitB w S (ps.take n) = true := by
        unfold waitB
        rw [List.all_eq_true]
        intro k hk
        have hk := List.mem_range.1 hk
        have hs := al_sub hu hr hS hL hst k hk
        rw [ha, has_bit hk, Nat.zero_testBit] at hs
        cases h1 : hasB (alW w S : Int) (k : Int) <;> cases h2 : (ps.take n).any (fun q => q.2 == (k : Int)) <;> rw [h1, h2] at hs <;> first | rfl | cases hs
      rw [hwait, hrec]
      cases hg : ps[n]? with
      | none => rfl
      | some p =>
        show (if p.1 = w.v then _ else _) = true
        rw [if_neg]
        · rfl
        · intro e
          have hm : p ∈ putsOf (tus bestW l L) := by rw [hp, drop_of hg]; exact List.mem_cons_self
          have hm2 : p.1 ∈ (putsOf (tus bestW l L)).map (·.1) := List.mem_map.2 ⟨p, hm, rfl⟩
          obtain ⟨x, hx, ex⟩ := List.mem_map.1 ((puts_vs bestW l L).subset hm2)
          exact hpw'.1 x hx (by omega)
theorem wf_small {x : Int} (h0 : 0 ≤ x) (h1 : x < 1000) : (Lit.int .i64 x).wf = true := by simp [Lit.wf, IntKind.min, IntKind.max, IntKind.signed, IntKind.bits]; omega
theorem find_dup {ps : List (Int × Int)} (h : ps.Pairwise (fun p q => p.1 ≠ q.1)) {k : Nat} {p : Int × Int} (hk : ps[k]? = some p) : (ps.take k).find? (fun q => q.1 == p.1) = none := by
  rw [List.find?_eq_none]
  intro q hq
  obtain ⟨j, hj⟩ := List.mem_iff_getElem?.1 hq
  have hjk : j < k := by have := (List.getElem?_eq_some_iff.1 hj).1; rw [List.length_take] at this; omega
  rw [List.getElem?_take_of_lt hjk] at hj
  obtain ⟨j1, j2⟩ := List.getElem?_eq_some_iff.1 hj
  obtain ⟨k1, k2⟩ := List.getElem?_eq_some_iff.1 hk
  have := (List.pairwise_iff_getElem.1 h) j k j1 k1 hjk
  rw [j2, k2] at this
  simpa using this
theorem puts_pairwise {l : List Wi} {S : Nat} (h : l.Pairwise (fun x y => x.v ≠ y.v)) : (putsOf (tus bestW l S)).Pairwise (fun p q => p.1 ≠ q.1) := by
  have h1 : (l.map (·.v)).Pairwise (· ≠ ·) := List.pairwise_map.2 h
  exact List.pairwise_map.1 (h1.sublist (puts_vs bestW l S))

/-- what PlaceWaits' walk asks -/
structure WaitsFacts (l : List Wi) (S : Nat) (ps : List (Int × Int)) (L : Nat) : Prop where
  each : ∀ (k : Nat) (p : Int × Int), ps[k]? = some p → 0 ≤ p.1 ∧ p.1 < 1000 ∧ 0 ≤ p.2 ∧ p.2 < 1000 ∧ valP (ps.take k) p.1 = (0, false) ∧ (ps.take k).find? (fun q => q.1 == p.1) = none ∧ hasB (L : Int) p.2 = false ∧ hasB (S : Int) p.2 = true
  turn : ∀ (k : Nat) (w : Wi), l[k]? = some w → 0 ≤ w.v ∧ w.v < 1000 ∧ UW w ∧ valP ps w.v = bestW w (lefts bestW (l.take k) S) ∧ alW w S < 256 ∧
    ((bestW w (lefts bestW (l.take k) S)).2 = false → withinV (mem (alW w S : Int)) (ahA S (lefts bestW (l.take k) S) : Int) = true ∧ lefts bestW (l.take (k + 1)) S = lefts bestW (l.take k) S) ∧
    ((bestW w (lefts bestW (l.take k) S)).2 = true → ∃ c : Nat, (bestW w (lefts bestW (l.take k) S)).1 = (c : Int) ∧ c < 8 ∧ hasB (alW w S : Int) (c : Int) = true ∧ hasB (ahA S (lefts bestW (l.take k) S) : Int) (c : Int) = false ∧
      (hasB (alW w S : Int) w.a = true → hasB (ahA S (lefts bestW (l.take k) S) : Int) w.a = false → (c : Int) = w.a) ∧ ahA S (lefts bestW (l.take (k + 1)) S) = ahA S (lefts bestW (l.take k) S) ||| 2 ^ c)
  small : ∀ k, ahA S (lefts bestW (l.take k) S) < 256
  start : ahA S S = 0
  done : ahA S L ||| L = S
  fair : fairP l S ps = true
theorem waits_facts {l : List Wi} {S : Nat} (hr : rightW l = true) (hU : ∀ (k : Nat) (x : Wi), l[k]? = some x → UW x) (hS : S < 256) : WaitsFacts l S (putsOf (tus bestW l S)) (lefts bestW l S) := by
  have hall := right_all hr hU
  have hall2 : ∀ w ∈ l, UW w ∧ rightM (w.h, w.s) = true := fun w hw => ⟨(hall w hw).1, (wi_parts (hall w hw).2).2.2.2.2⟩
  have hpp := puts_pairwise (S := S) (right_apart hr)
  refine ⟨fun k p hk => ?_, fun k w hk => ?_, fun k => ah_lt hS, ah_same hS, ah_done hS (lefts_small _ _ _ hS) (lefts_sub l S hall2 hS), ?_⟩
  · have hm := List.mem_of_getElem? hk
    obtain ⟨f1, f2⟩ := puts_free l S hall2 hS p hm
    have hm2 : p.1 ∈ (putsOf (tus bestW l S)).map (·.1) := List.mem_map.2 ⟨p, hm, rfl⟩
    obtain ⟨x, hx, ex⟩ := List.mem_map.1 ((puts_vs bestW l S).subset hm2)
    obtain ⟨v1, v2, _⟩ := wi_parts (hall x hx).2
    obtain ⟨c0, c1⟩ := cpuB_true (has_cpu f1)
    have hd := find_dup hpp hk
    refine ⟨by omega, by omega, c0, by omega, ?_, hd, f2, f1⟩
    unfold valP
    rw [hd]
  · have hm := List.mem_of_getElem? hk
    obtain ⟨hu, hb⟩ := hall w hm
    obtain ⟨v1, v2, _, _, hrm⟩ := wi_parts hb
    have hL := lefts_small bestW (l.take k) S hS
    obtain ⟨t1, t2⟩ := turn_facts hu hrm hS hL (lefts_sub (l.take k) S (fun x hx => hall2 x (List.mem_of_mem_take hx)) hS)
    refine ⟨by omega, by omega, hu, val_turn hr (fun x hx => (hall x hx).1) hk, alW_lt hu, fun h => ⟨t1 h, ?_⟩, fun h => ?_⟩
    · rw [lefts_step bestW hk S, h, after_no]
    · obtain ⟨c, e1, e2, e3, e4, e5, e6, e7⟩ := t2 h
      refine ⟨c, e1, e2, e5, e6, e7, ?_⟩
      rw [lefts_step bestW hk S, h, after_yes, e1]
      exact ah_step hS hL e2 e3 e4
  · rw [fair_same hr hU hS]
    exact best_fair hS l 0 S hall (right_apart hr) hS (Nat.zero_le _) (fun k hk => by simp) (by rw [List.drop_zero])

end Go.Proofs.YtldleijocjohgaaDoor
