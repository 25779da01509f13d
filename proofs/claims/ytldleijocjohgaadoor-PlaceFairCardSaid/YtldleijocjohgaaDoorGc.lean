/-
  The landed place: who stands where, as cells; hold, mayBe. No statement is proved here.
-/
import Derived.Test.YtldleijocjohgaaDoorGb
namespace Go.Proofs.YtldleijocjohgaaDoor
open Go.RowKit

/-! ### cells -/
def agH (F : Nat → Int) : Array Value := #[.int .i64 (F 0), .int .i64 (F 1), .int .i64 (F 2), .int .i64 (F 3), .int .i64 (F 4), .int .i64 (F 5), .int .i64 (F 6), .int .i64 (F 7)]
theorem below8 {c : Nat} (h : c < 8) : c = 0 ∨ c = 1 ∨ c = 2 ∨ c = 3 ∨ c = 4 ∨ c = 5 ∨ c = 6 ∨ c = 7 := by omega
theorem agH_set (F : Nat → Int) {c : Nat} (h : c < 8) (v : Int) : (agH F).setIfInBounds c (.int .i64 v) = agH (updH F c v) := by
  rcases below8 h with rfl | rfl | rfl | rfl | rfl | rfl | rfl | rfl <;> rfl
theorem agH_at (F : Nat → Int) {c : Nat} (h : c < 8) : (agH F)[c]? = some (.int .i64 (F c)) := by
  rcases below8 h with rfl | rfl | rfl | rfl | rfl | rfl | rfl | rfl <;> rfl
def agM (M : Nat → Bool) : Array Value := #[.bool (M 0), .bool (M 1), .bool (M 2), .bool (M 3), .bool (M 4), .bool (M 5), .bool (M 6), .bool (M 7), .bool (M 8), .bool (M 9), .bool (M 10), .bool (M 11), .bool (M 12), .bool (M 13), .bool (M 14), .bool (M 15), .bool (M 16)]
theorem below17 {c : Nat} (h : c < 17) : c = 0 ∨ c = 1 ∨ c = 2 ∨ c = 3 ∨ c = 4 ∨ c = 5 ∨ c = 6 ∨ c = 7 ∨ c = 8 ∨ c = 9 ∨ c = 10 ∨ c = 11 ∨ c = 12 ∨ c = 13 ∨ c = 14 ∨ c = 15 ∨ c = 16 := by omega
def updM (M : Nat → Bool) (c : Nat) : Nat → Bool := fun k => if k = c then true else M k
theorem agM_set (M : Nat → Bool) {c : Nat} (h : c < 17) : (agM M).setIfInBounds c (.bool true) = agM (updM M c) := by
  rcases below17 h with rfl | rfl | rfl | rfl | rfl | rfl | rfl | rfl | rfl | rfl | rfl | rfl | rfl | rfl | rfl | rfl | rfl <;> rfl
theorem agM_at (M : Nat → Bool) {c : Nat} (h : c < 17) : (agM M)[c]? = some (.bool (M c)) := by
  rcases below17 h with rfl | rfl | rfl | rfl | rfl | rfl | rfl | rfl | rfl | rfl | rfl | rfl | rfl | rfl | rfl | rfl | rfl <;> rfl

/-! ### who stands where -/
def hereS (F : Nat → Int) (w : Wi) : Nat → Int := if w.a = -1 then F else updH F w.a.toNat w.v
def hereF (l : List Wi) : Nat → Int := l.foldl hereS fun _ => 0
def metF (l : List Wi) : Nat → Bool := fun i => l.any fun w => w.v == (i : Int)
theorem here_snoc (l : List Wi) (w : Wi) : hereF (l ++ [w]) = hereS (hereF l) w := by unfold hereF; rw [List.foldl_append]; rfl
theorem met_snoc (l : List Wi) {w : Wi} {i : Nat} (h : w.v = (i : Int)) : metF (l ++ [w]) = updM (metF l) i := by
  funext k
  unfold metF updM
  rw [List.any_append]
  by_cases e : k = i
  · subst e; simp [h]
  · rw [if_neg e]
    have : (w.v == (k : Int)) = false := by rw [beq_eq_false_iff_ne]; omega
    simp [this]
theorem here_step {l : List Wi} {k : Nat} {x : Wi} (hk : l[k]? = some x) : hereF (l.take (k + 1)) = hereS (hereF (l.take k)) x := by
  rw [List.take_add_one, hk]; exact here_snoc _ _
theorem met_step {l : List Wi} {k i : Nat} {x : Wi} (hk : l[k]? = some x) (h : x.v = (i : Int)) : metF (l.take (k + 1)) = updM (metF (l.take k)) i := by
  rw [List.take_add_one, hk]; exact met_snoc _ h
theorem here_spec : ∀ (n : Nat) {l : List Wi}, l.length = n → (∀ w ∈ l, wiB w = true) → ∀ c : Nat, (hereF l c = 0 ↔ ∀ w ∈ l, w.a ≠ (c : Int)) ∧ (hereF l c ≠ 0 → ∃ w ∈ l, w.a = (c : Int) ∧ w.v = hereF l c) := by
  intro n
  induction n with
  | zero =>
    intro l hn _ c
    rw [List.eq_nil_of_length_eq_zero hn]
    exact ⟨⟨fun _ w hw => (by cases hw), fun _ => rfl⟩, fun h => absurd rfl h⟩
  | succ n ih =>
    intro l hn h c
    have hne : l ≠ [] := by intro e; rw [e] at hn; cases hn
    have e := (List.dropLast_concat_getLast hne).symm
    generalize l.getLast hne = q at e
    generalize hr : l.dropLast = r at e
    have hl : r.length = n := by rw [← hr, List.length_dropLast]; omega
    subst e
    obtain ⟨i1, i2⟩ := ih hl (fun w hw => h w (List.mem_append_left _ hw)) c
    obtain ⟨v1, _, a1, _, _⟩ := wi_parts (h q (by simp))
    rw [here_snoc]
    by_cases ha : q.a = -1
    · have e : hereS (hereF r) q = hereF r := if_pos ha
      rw [e]
      refine ⟨i1.trans ⟨fun hh w hw => ?_, fun hh w hw => hh w (List.mem_append_left _ hw)⟩, fun hh => ?_⟩
      · rcases List.mem_append.1 hw with hw | hw
        · exact hh w hw
        · rw [List.mem_singleton] at hw; subst hw; omega
      · obtain ⟨w, hw, h2⟩ := i2 hh
        exact ⟨w, List.mem_append_left _ hw, h2⟩
    · have e : hereS (hereF r) q = updH (hereF r) q.a.toNat q.v := if_neg ha
      rw [e]
      by_cases hc : c = q.a.toNat
      · rw [hc, updH_same]
        refine ⟨⟨fun hh => by omega, fun hh => absurd (by omega) (hh q (by simp))⟩, fun _ => ⟨q, by simp, by omega, rfl⟩⟩
      · rw [updH_other hc]
        refine ⟨i1.trans ⟨fun hh w hw => ?_, fun hh w hw => hh w (List.mem_append_left _ hw)⟩, fun hh => ?_⟩
        · rcases List.mem_append.1 hw with hw | hw
          · exact hh w hw
          · rw [List.mem_singleton] at hw; subst hw; omega
        · obtain ⟨w, hw, h2⟩ := i2 hh
          exact ⟨w, List.mem_append_left _ hw, h2⟩
theorem rightK_all {l : List Wi} {k : Nat} (hk : k ≤ l.length) (hr : rightK l k = true) : ∀ w ∈ l.take k, wiB w = true := fun w hw => by
  obtain ⟨j, hj⟩ := List.mem_iff_getElem?.1 hw
  have hlt : j < k := by have := (List.getElem?_eq_some_iff.1 hj).1; rw [List.length_take] at this; omega
  rw [List.getElem?_take_of_lt hlt] at hj
  have := rightK_down (j := j + 1) k (by omega) hr
  rw [rightK_step hj] at this
  simp only [Bool.and_eq_true] at this
  exact this.2.1
/-- may it be, but for where it is? -/
def mayB (w : Wi) : Bool := decide (1 ≤ w.v) && decide (w.v ≤ 16) && rightM (w.h, w.s)
theorem may_parts {w : Wi} (h : mayB w = true) : ∃ i : Nat, w.v = (i : Int) ∧ 1 ≤ i ∧ i < 17 ∧ rightM (w.h, w.s) = true := by
  unfold mayB at h
  simp only [Bool.and_eq_true, decide_eq_true_eq] at h
  exact ⟨w.v.toNat, by omega, by omega, by omega, h.2⟩
theorem may_wi {w : Wi} (h : mayB w = false) : wiB w = false := by
  cases h2 : wiB w with
  | false => rfl
  | true =>
    obtain ⟨h1, h3, _, _, h4⟩ := wi_parts h2
    unfold mayB at h
    rw [h4] at h
    simp [h1, h3] at h
theorem fits_no_may {l : List Wi} {k : Nat} {x : Wi} (hk : l[k]? = some x) (h : mayB x = false) : rightW l = false := right_no_at hk (by rw [may_wi h]; rfl)
theorem fits_no_met {l : List Wi} {k i : Nat} {x : Wi} (hk : l[k]? = some x) (hi : x.v = (i : Int)) (h : metF (l.take k) i = true) : rightW l = false := by
  refine right_no_at hk ?_
  have : fitB (l.take k) x = false := by
    unfold metF at h
    rw [List.any_eq_true] at h
    obtain ⟨w, hw, h2⟩ := h
    rw [beq_iff_eq] at h2
    unfold fitB
    rw [List.all_eq_false]
    exact ⟨w, hw, by simp [h2, hi]⟩
  rw [this, Bool.and_false]
theorem fits_no_at {l : List Wi} {k : Nat} {x : Wi} (hk : l[k]? = some x) (hr : rightK l k = true) (ha : x.a ≠ -1) (h : freeB (hereF (l.take k)) x.a = false) : rightW l = false := by
  refine right_no_at hk ?_
  cases hw : wiB x with
  | false => rfl
  | true =>
    obtain ⟨_, _, a1, a2, _⟩ := wi_parts hw
    have hlt := (List.getElem?_eq_some_iff.1 hk).1
    obtain ⟨s1, s2⟩ := here_spec _ rfl (rightK_all (by omega) hr) x.a.toNat
    have hne : hereF (l.take k) x.a.toNat ≠ 0 := by
      intro e
      rw [free_yes (by omega) (by omega) e] at h
      cases h
    obtain ⟨w, hw1, hw2, _⟩ := s2 hne
    rw [Bool.true_and]
    unfold fitB
    rw [List.all_eq_false]
    refine ⟨w, hw1, ?_⟩
    clear s1 s2
    have e1 : w.a = x.a := by omega
    have e2 : decide (0 ≤ x.a) = true := decide_eq_true (by omega)
    simp [e1, e2]
theorem fits_yes {l : List Wi} {k i : Nat} {x : Wi} (hk : l[k]? = some x) (hr : rightK l k = true) (hm : mayB x = true) (hi : x.v = (i : Int)) (h1 : metF (l.take k) i = false) (h2 : x.a = -1 ∨ freeB (hereF (l.take k)) x.a = true) : rightK l (k + 1) = true := by
  rw [rightK_step hk, hr, Bool.true_and]
  have hlt := (List.getElem?_eq_some_iff.1 hk).1
  have hw : wiB x = true := by
    unfold mayB at hm
    unfold wiB
    simp only [Bool.and_eq_true, decide_eq_true_eq] at hm ⊢
    refine ⟨⟨⟨hm.1, ?_⟩, ?_⟩, hm.2⟩
    · rcases h2 with h2 | h2
      · omega
      · have := free_parts h2; omega
    · rcases h2 with h2 | h2
      · omega
      · have := free_parts h2; omega
  rw [hw, Bool.true_and]
  unfold fitB
  rw [List.all_eq_true]
  intro w hwm
  have e1 : (w.v == x.v) = false := by
    unfold metF at h1
    rw [List.any_eq_false] at h1
    have := h1 w hwm
    rw [hi]
    simpa using this
  rw [e1]
  rcases h2 with h2 | h2
  · rw [h2]; rfl
  · obtain ⟨f0, f1, f2⟩ := free_parts h2
    have := ((here_spec _ rfl (rightK_all (by omega) hr) x.a.toNat).1.1 f2) w hwm
    have e2 : (w.a == x.a) = false := by rw [beq_eq_false_iff_ne]; omega
    rw [e2, Bool.and_false]; rfl

/-! ### calls -/
set_option maxRecDepth 100000 in
set_option maxHeartbeats 1000000 in
theorem hold_no (F : Nat → Int) (B : Nat) (v c : Int) (w : World) (K : Blk w B 71 (agH F)) (h : freeB F c = false) :
    Calls Tryd.prog 52 #[.pointer (some ⟨B, 0, none⟩), .int .i64 v, .int .i64 c] w fun e w' => e = .returned (.bool false) ∧ w = w' := by
  by_cases h0 : c < 0
  · have q : decide (c < 0) = true := decide_eq_true h0
    clear h K
    go_enter Tryd.func52, Tryd.ntmps52
    go_wp2
    go_ret
    exact ⟨rfl, rfl⟩
  · have q : decide (c < 0) = false := decide_eq_false h0
    by_cases h8 : 8 ≤ c
    · have q8 : decide ((8 : Int) ≤ c) = true := decide_eq_true h8
      clear h K
      go_enter Tryd.func52, Tryd.ntmps52
      go_wp2
      go_ret
      exact ⟨rfl, rfl⟩
    · obtain ⟨k, rfl⟩ := Int.eq_ofNat_of_zero_le (show 0 ≤ c by omega)
      have hk8 : k < 8 := by omega
      have q8 : decide ((8 : Int) ≤ (k : Int)) = false := decide_eq_false h8
      have q9 : decide ((k : Int) < 8) = true := decide_eq_true (by omega)
      have i1 : (0 : Int) ≤ (k : Int) := by omega
      have i2 : (k : Int) < 8 := by omega
      have hz : (F k != 0) = true := by
        cases h2 : F k != 0 with
        | true => rfl
        | false => rw [free_yes (by omega) (by omega) (by simpa using h2)] at h; cases h
      have z := (K.cell k).trans (agH_at F hk8)
      clear h K h0 h8 hk8
      go_enter Tryd.func52, Tryd.ntmps52
      go_wp2
      go_ret
      exact ⟨rfl, rfl⟩

set_option maxRecDepth 100000 in
set_option maxHeartbeats 1000000 in
theorem hold_yes (F : Nat → Int) (B : Nat) (v c : Int) (w : World) (K : Blk w B 71 (agH F)) (h : freeB F c = true) :
    Calls Tryd.prog 52 #[.pointer (some ⟨B, 0, none⟩), .int .i64 v, .int .i64 c] w fun e w' => e = .returned (.bool true) ∧ w' = w.setCell ⟨B, c.toNat, none⟩ (.int .i64 v) := by
  obtain ⟨f0, f1, f2⟩ := free_parts h
  obtain ⟨k, rfl⟩ := Int.eq_ofNat_of_zero_le f0
  have hk8 : k < 8 := by omega
  rw [Int.toNat_natCast] at f2 ⊢
  have q : decide ((k : Int) < 0) = false := decide_eq_false (by omega)
  have q8 : decide ((8 : Int) ≤ (k : Int)) = false := decide_eq_false (by omega)
  have i1 : (0 : Int) ≤ (k : Int) := by omega
  have i2 : (k : Int) < 8 := by omega
  have z := (K.cell k).trans (agH_at F hk8)
  have zf := K.frozen k
  rw [f2] at z
  clear h K f0 f1 f2 hk8
  go_enter Tryd.func52, Tryd.ntmps52
  go_wp2
  go_ret
  exact ⟨rfl, rfl⟩

set_option maxRecDepth 100000 in
set_option maxHeartbeats 1000000 in
theorem may_any (x : Wi) (hx : UW x) (w : World) : Calls Tryd.prog 51 #[.agg #[.int .i64 x.v, .int .i64 x.a, .int .u32 x.h, .int .u32 x.s]] w (Said (.bool (mayB x)) w) := by
  obtain ⟨v, a, h, s⟩ := x
  have HC := Lib.hid (fun u => check_any h s u hx.1 hx.2)
  have K := Blk.new w 43 #[.int .i64 v, .int .i64 a, .int .u32 h, .int .u32 s]
  have B := (Below.refl w.heap.size w).alloc (Nat.le_refl _) (.cells #[.int .i64 v, .int .i64 a, .int .u32 h, .int .u32 s] 43)
  have z0 := K.cell 0
  have z2 := K.cell 2
  have z3 := K.cell 3
  have HB := Lib.hid B
  clear K B
  by_cases h1 : 1 ≤ v
  · by_cases h2 : v ≤ 16
    · have q1 : decide ((1 : Int) ≤ v) = true := decide_eq_true h1
      have q2 : decide (v ≤ (16 : Int)) = true := decide_eq_true h2
      have HV : Hid (mayB ⟨v, a, h, s⟩ = rightM (h, s)) := Lib.hid (by unfold mayB; simp [h1, h2])
      clear h1 h2 hx
      cases hr : rightM (h, s) with
      | true =>
        rw [hr] at HC HV
        rw [HV.out]
        clear hr
        go_enter Tryd.func51, Tryd.ntmps51
        go_wp2_with fail
        refine (HC.out _).mono ?_
        rintro e w2 ⟨rfl, h2⟩
        go_wp2
        go_ret
        exact ⟨rfl, HB.out.trans (h2.mono HB.out.size)⟩
      | false =>
        rw [hr] at HC HV
        rw [HV.out]
        clear hr
        go_enter Tryd.func51, Tryd.ntmps51
        go_wp2_with fail
        refine (HC.out _).mono ?_
        rintro e w2 ⟨rfl, h2⟩
        go_wp2
        go_ret
        exact ⟨rfl, HB.out.trans (h2.mono HB.out.size)⟩
    · have q1 : decide ((1 : Int) ≤ v) = true := decide_eq_true h1
      have q2 : decide (v ≤ (16 : Int)) = false := decide_eq_false h2
      have HV : Hid (mayB ⟨v, a, h, s⟩ = false) := Lib.hid (by unfold mayB; simp [h2])
      rw [HV.out]
      clear h1 h2 hx
      go_enter Tryd.func51, Tryd.ntmps51
      go_wp2
      go_ret
      exact ⟨rfl, HB.out⟩
  · have q1 : decide ((1 : Int) ≤ v) = false := decide_eq_false h1
    have HV : Hid (mayB ⟨v, a, h, s⟩ = false) := Lib.hid (by unfold mayB; simp [h1])
    rw [HV.out]
    clear h1 hx
    go_enter Tryd.func51, Tryd.ntmps51
    go_wp2
    go_ret
    exact ⟨rfl, HB.out⟩

end Go.Proofs.YtldleijocjohgaaDoor
