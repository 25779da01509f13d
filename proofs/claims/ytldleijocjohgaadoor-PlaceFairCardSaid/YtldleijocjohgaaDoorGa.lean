/-
  Wishes and turns, as plain mathematics: who takes what of what is free. No statement is proved here.
-/
import Derived.Test.YtldleijocjohgaaDoorMq
import Derived.Test.YtldleijocjohgaaDoorMm
namespace Go.Proofs.YtldleijocjohgaaDoor
open Go.RowKit

/-- a wish: whose, where it is, its mask -/
structure Wi where
  v : Int
  a : Int
  h : Int
  s : Int
def wiv (w : Wi) : List Value := [.int .i64 w.v, .int .i64 w.a, .int .u32 w.h, .int .u32 w.s]
def wivs (l : List Wi) : List Value := flat wiv l
theorem length_wiv (w : Wi) : (wiv w).length = 4 := rfl
theorem length_wivs (l : List Wi) : (wivs l).length = l.length * 4 := length_flat wiv length_wiv l
theorem wivs_ones (l : List Wi) : ∀ u ∈ wivs l, u.oneCell' = true := flat_all wiv (fun a u hu => by
  unfold wiv at hu
  simp only [List.mem_cons, List.not_mem_nil, or_false] at hu
  rcases hu with rfl | rfl | rfl | rfl <;> rfl) l
def UW (w : Wi) : Prop := UM (w.h, w.s)
theorem wish_at {w : World} {B n : Nat} {A : Option Addr} {l : List Wi} (h : Reads w B 4 A n (wivs l)) {k : Nat} {x : Wi} (hk : l[k]? = some x) :
    ∃ ad, A = some ad ∧ ad.block < B ∧ w.cell? (ad.add (k * 4)) = some (.int .i64 x.v) ∧ w.cell? ⟨(ad.add (k * 4)).block, (ad.add (k * 4)).off + 1, none⟩ = some (.int .i64 x.a) ∧
      w.cell? ⟨(ad.add (k * 4)).block, (ad.add (k * 4)).off + 2, none⟩ = some (.int .u32 x.h) ∧ w.cell? ⟨(ad.add (k * 4)).block, (ad.add (k * 4)).off + 3, none⟩ = some (.int .u32 x.s) := by
  obtain ⟨ad, e, hb, hc⟩ := h.elem wiv length_wiv hk (by omega)
  have c1 := hc 1 _ rfl
  have c2 := hc 2 _ rfl
  have c3 := hc 3 _ rfl
  rw [add_past ad (k * 4) 0] at c1
  rw [add_past ad (k * 4) 1] at c2
  rw [add_past ad (k * 4) 2] at c3
  exact ⟨ad, e, hb, hc 0 _ rfl, c1, c2, c3⟩
theorem wishes_len {w : World} {B n : Nat} {A : Option Addr} {l : List Wi} (h : Reads w B 4 A n (wivs l)) : l.length = n := by
  have := h.1
  rw [length_wivs] at this
  omega

/-- a turn: a wish, what it takes, and of what -/
structure Tu where
  w : Wi
  c : Int
  p : Bool
  left : Nat
def tuA (t : Tu) : Array Value := #[.int .i64 t.w.v, .int .i64 t.w.a, .int .u32 t.w.h, .int .u32 t.w.s, .int .i64 t.c, .bool t.p]
def tuv (t : Tu) : Array Value := #[.agg (tuA t), .int .u32 (t.left : Int)]

/-- a set without one -/
def outN (S : Nat) (c : Int) : Nat := (outV (S : Int) c).1.toNat
theorem out_nonneg (S : Nat) (c : Int) : (outV (S : Int) c).1 = (outN S c : Int) := by
  unfold outN
  rw [Int.toNat_of_nonneg]
  unfold outV
  split
  · split
    · split
      · rename_i h1 h2 h3; exact bit_in (by omega) h1 h2 h3
      · exact Int.le_refl _
    · exact Int.le_refl _
  · exact Int.le_refl _
theorem out_small {S : Nat} (c : Int) (h : S < 256) : outN S c < 256 := by
  unfold outN outV
  rw [if_pos (by omega)]
  split
  · split
    · have := two_pos c.toNat
      show ((S : Int) - 2 ^ c.toNat).toNat < 256
      omega
    · exact (by decide : (0 : Nat) < 256)
  · exact (by decide : (0 : Nat) < 256)
def afterS (S : Nat) (c : Int) (p : Bool) : Nat := if p = true then outN S c else S
theorem after_small {S : Nat} (c : Int) (p : Bool) (h : S < 256) : afterS S c p < 256 := by
  unfold afterS
  split
  · exact out_small c h
  · exact h
theorem out_has {S : Nat} (h : S < 256) {c : Int} (hc : hasB (S : Int) c = true) (k : Int) : hasB (outN S c : Int) k = (hasB (S : Int) k && !(k == c)) := by
  have hcp : cpuB c = true := by unfold hasB at hc; simp only [Bool.and_eq_true] at hc; exact hc.1
  obtain ⟨c0, c1⟩ := cpuB_true hcp
  obtain ⟨i, rfl⟩ := Int.eq_ofNat_of_zero_le c0
  have hi : i < 8 := by omega
  rw [has_bit hi] at hc
  have h2 := two_pos i
  have h3 : 2 ^ i ≤ S := Nat.ge_two_pow_of_testBit hc
  have e : outN S (i : Int) = S - 2 ^ i := by
    unfold outN outV
    rw [if_pos (by omega), if_pos hcp, if_pos (by rw [has_bit hi]; exact hc), Int.toNat_natCast]
    have : (2 : Int) ^ i = ((2 ^ i : Nat) : Int) := by push_cast; rfl
    show ((S : Int) - 2 ^ i).toNat = _
    rw [this]
    omega
  rw [e]
  by_cases hk : cpuB k = true
  · obtain ⟨k0, k1⟩ := cpuB_true hk
    obtain ⟨j, rfl⟩ := Int.eq_ofNat_of_zero_le k0
    have hj : j < 8 := by omega
    rw [has_bit hj, has_bit hj]
    have hb : (S - 2 ^ i).testBit j = (S.testBit j && !(j == i)) := less_bit hc j
    rw [hb]
    have : ((j : Int) == (i : Int)) = (j == i) := by
      by_cases hji : j = i
      · subst hji; simp
      · have : ¬ (j : Int) = (i : Int) := by omega
        rw [beq_eq_false_iff_ne.2 this, beq_eq_false_iff_ne.2 hji]
    rw [this]
  · have : cpuB k = false := by simpa using hk
    unfold hasB
    rw [this]
    rfl

section
variable (T : Wi → Nat → Int × Bool)
def tus : List Wi → Nat → List Tu
  | [], _ => []
  | w :: l, S => ⟨w, (T w S).1, (T w S).2, S⟩ :: tus l (afterS S (T w S).1 (T w S).2)
def lefts : List Wi → Nat → Nat
  | [], S => S
  | w :: l, S => lefts l (afterS S (T w S).1 (T w S).2)
theorem tus_append (a b : List Wi) : ∀ S, tus T (a ++ b) S = tus T a S ++ tus T b (lefts T a S) := by
  induction a with
  | nil => exact fun S => rfl
  | cons w a ih => intro S; exact congrArg (fun r => (⟨w, (T w S).1, (T w S).2, S⟩ : Tu) :: r) (ih _)
theorem lefts_append (a b : List Wi) : ∀ S, lefts T (a ++ b) S = lefts T b (lefts T a S) := by
  induction a with
  | nil => exact fun S => rfl
  | cons w a ih => intro S; exact ih _
theorem tus_length (l : List Wi) : ∀ S, (tus T l S).length = l.length := by
  induction l with
  | nil => exact fun S => rfl
  | cons w a ih => intro S; exact congrArg (· + 1) (ih _)
theorem lefts_small (l : List Wi) : ∀ S, S < 256 → lefts T l S < 256 := by
  induction l with
  | nil => exact fun S h => h
  | cons w a ih => exact fun S h => ih _ (after_small _ _ h)
theorem tus_step {l : List Wi} {k : Nat} {x : Wi} (hk : l[k]? = some x) (S : Nat) :
    tus T (l.take (k + 1)) S = tus T (l.take k) S ++ [⟨x, (T x (lefts T (l.take k) S)).1, (T x (lefts T (l.take k) S)).2, lefts T (l.take k) S⟩] := by
  rw [List.take_add_one, hk, tus_append]; rfl
theorem lefts_step {l : List Wi} {k : Nat} {x : Wi} (hk : l[k]? = some x) (S : Nat) :
    lefts T (l.take (k + 1)) S = afterS (lefts T (l.take k) S) (T x (lefts T (l.take k) S)).1 (T x (lefts T (l.take k) S)).2 := by
  rw [List.take_add_one, hk, lefts_append]; rfl
theorem tus_prefix {l : List Wi} (k : Nat) (S : Nat) : tus T (l.take k) S <+: tus T l S := by
  have h := tus_append T (l.take k) (l.drop k) S
  rw [List.take_append_drop] at h
  rw [h]
  exact List.prefix_append _ _
end
/-- what is placed, who waits, what is free behind turns, who is moved -/
def putsOf (ts : List Tu) : List (Int × Int) := (ts.filter (·.p)).map fun t => (t.w.v, t.c)
def waitsOf (ts : List Tu) : List Int := (ts.filter (fun t => !t.p)).map fun t => t.w.v
def stillOf (ts : List Tu) (S : Nat) : Nat := ts.foldl (fun S t => afterS S t.c t.p) S
def movedB (t : Tu) : Bool := t.p && !(t.w.a == -1) && !(t.w.a == t.c)
def movesOf (ts : List Tu) : Nat := (ts.filter movedB).length
theorem after_yes (S : Nat) (c : Int) : afterS S c true = outN S c := if_pos rfl
theorem after_no (S : Nat) (c : Int) : afterS S c false = S := if_neg (by simp)
theorem puts_cons (t : Tu) (ts : List Tu) : putsOf (t :: ts) = if t.p = true then (t.w.v, t.c) :: putsOf ts else putsOf ts := by
  unfold putsOf
  cases h : t.p <;> simp [h]
theorem puts_yes {ts : List Tu} {t : Tu} (h : t.p = true) : putsOf (ts ++ [t]) = putsOf ts ++ [(t.w.v, t.c)] := by unfold putsOf; simp [h]
theorem puts_no {ts : List Tu} {t : Tu} (h : t.p = false) : putsOf (ts ++ [t]) = putsOf ts := by unfold putsOf; simp [h]
theorem waits_yes {ts : List Tu} {t : Tu} (h : t.p = true) : waitsOf (ts ++ [t]) = waitsOf ts := by unfold waitsOf; simp [h]
theorem waits_no {ts : List Tu} {t : Tu} (h : t.p = false) : waitsOf (ts ++ [t]) = waitsOf ts ++ [t.w.v] := by unfold waitsOf; simp [h]
theorem still_step (ts : List Tu) (t : Tu) (S : Nat) : stillOf (ts ++ [t]) S = afterS (stillOf ts S) t.c t.p := by unfold stillOf; rw [List.foldl_append]; rfl
theorem still_small (ts : List Tu) : ∀ S, S < 256 → stillOf ts S < 256 := by
  unfold stillOf
  induction ts with
  | nil => exact fun S h => h
  | cons t ts ih => exact fun S h => ih _ (after_small _ _ h)
theorem still_lefts (T : Wi → Nat → Int × Bool) (l : List Wi) : ∀ S, stillOf (tus T l S) S = lefts T l S := by
  induction l with
  | nil => exact fun S => rfl
  | cons w l ih => exact fun S => ih _
theorem moves_yes {ts : List Tu} {t : Tu} (h : movedB t = true) : movesOf (ts ++ [t]) = movesOf ts + 1 := by unfold movesOf; simp [h]
theorem moves_no {ts : List Tu} {t : Tu} (h : movedB t = false) : movesOf (ts ++ [t]) = movesOf ts := by unfold movesOf; simp [h]
theorem puts_le (ts : List Tu) : (putsOf ts).length ≤ ts.length := by unfold putsOf; rw [List.length_map]; exact List.length_filter_le _ _
theorem waits_le (ts : List Tu) : (waitsOf ts).length ≤ ts.length := by unfold waitsOf; rw [List.length_map]; exact List.length_filter_le _ _
theorem moves_le (ts : List Tu) : movesOf ts ≤ ts.length := List.length_filter_le _ _

/-- what a wish takes of a set -/
def bestW (w : Wi) (S : Nat) : Int × Bool := bestR (w.h, w.s) (S : Int) w.a

/-- may a wish be, with those ahead of it -/
def wiB (w : Wi) : Bool := decide (1 ≤ w.v) && decide (w.v ≤ 16) && decide (-1 ≤ w.a) && decide (w.a ≤ 7) && rightM (w.h, w.s)
def fitB (pre : List Wi) (w : Wi) : Bool := pre.all fun k => !(k.v == w.v) && !(decide (0 ≤ w.a) && k.a == w.a)
def rightK (l : List Wi) : Nat → Bool
  | 0 => true
  | k + 1 => rightK l k && (match l[k]? with | some w => wiB w && fitB (l.take k) w | none => true)
def rightW (l : List Wi) : Bool := rightK l l.length
theorem rightK_step {l : List Wi} {k : Nat} {w : Wi} (hk : l[k]? = some w) : rightK l (k + 1) = (rightK l k && (wiB w && fitB (l.take k) w)) := by
  show (rightK l k && _) = _
  rw [hk]
theorem rightK_down {l : List Wi} {j : Nat} : ∀ k, j ≤ k → rightK l k = true → rightK l j = true
  | 0, h, hr => by obtain rfl : j = 0 := by omega
                   exact hr
  | k + 1, h, hr => by
    by_cases e : j = k + 1
    · subst e; exact hr
    · refine rightK_down k (by omega) ?_
      have hr : (rightK l k && _) = true := hr
      exact (Bool.and_eq_true _ _ ▸ hr).1
theorem right_no_at {l : List Wi} {k : Nat} {w : Wi} (hk : l[k]? = some w) (h : (wiB w && fitB (l.take k) w) = false) : rightW l = false := by
  cases hr : rightW l with
  | false => rfl
  | true =>
    have hlt := (List.getElem?_eq_some_iff.1 hk).1
    have := rightK_down (j := k + 1) l.length (by omega) hr
    rw [rightK_step hk, h, Bool.and_false] at this
    cases this
theorem right_wish {l : List Wi} (hr : rightW l = true) {k : Nat} {w : Wi} (hk : l[k]? = some w) : wiB w = true ∧ fitB (l.take k) w = true := by
  have hlt := (List.getElem?_eq_some_iff.1 hk).1
  have := rightK_down (j := k + 1) l.length (by omega) hr
  rw [rightK_step hk] at this
  simp only [Bool.and_eq_true] at this
  exact this.2
theorem rightK_take {l : List Wi} {n : Nat} : ∀ k, k ≤ n → rightK (l.take n) k = rightK l k
  | 0, _ => rfl
  | k + 1, h => by
    show (rightK (l.take n) k && (match (l.take n)[k]? with | some w => wiB w && fitB ((l.take n).take k) w | none => true)) = _
    rw [rightK_take k (by omega), List.getElem?_take_of_lt (by omega), List.take_take, Nat.min_eq_left (by omega)]
    rfl
theorem wi_parts {w : Wi} (h : wiB w = true) : 1 ≤ w.v ∧ w.v ≤ 16 ∧ -1 ≤ w.a ∧ w.a ≤ 7 ∧ rightM (w.h, w.s) = true := by
  unfold wiB at h
  simp only [Bool.and_eq_true, decide_eq_true_eq] at h
  exact ⟨h.1.1.1.1, h.1.1.1.2, h.1.1.2, h.1.2, h.2⟩

end Go.Proofs.YtldleijocjohgaaDoor
