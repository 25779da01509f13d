/-
  Timers and wheels as words: which may be, where each stands, what fires. No statement is proved here.
-/
import Derived.Test.YtbhcpkmofnfjgaaGa
namespace Go.Proofs.Ytbhcpkmofnfjgaa
open Go.RowKit

abbrev Tm := Int × Int
def agT (x : Tm) : Array Value := #[.int .i64 x.1, .int .i64 x.2]
def tv (x : Tm) : List Value := (agT x).toList
theorem length_tv (x : Tm) : (tv x).length = 2 := rfl
theorem tv_ones (l : List Tm) : ∀ u ∈ flat tv l, u.oneCell' = true := flat_all tv (fun a u hu => by
  unfold tv agT at hu
  simp only [List.mem_cons, List.not_mem_nil, or_false] at hu
  rcases hu with rfl | rfl <;> rfl) l
theorem tm_info : (Try.prog.info? 44).map (fun i => (i.zero, i.size, i.bytes)) = some (some (.agg #[.int .i64 0, .int .i64 0]), 2, 16) := by kernel_rfl
theorem tms_len {w : World} {B n : Nat} {A : Option Addr} {l : List Tm} (h : Reads w B 2 A n (flat tv l)) : l.length = n := by
  have := h.1
  rw [length_flat tv length_tv] at this
  omega
theorem tm_at {w : World} {B n : Nat} {A : Option Addr} {l : List Tm} (h : Reads w B 2 A n (flat tv l)) {k : Nat} {x y : Int} (hk : l[k]? = some (x, y)) :
    ∃ ad, A = some ad ∧ ad.block < B ∧ w.cell? (ad.add (k * 2)) = some (.int .i64 x) ∧ w.cell? ⟨(ad.add (k * 2)).block, (ad.add (k * 2)).off + 1, none⟩ = some (.int .i64 y) := by
  obtain ⟨ad, e, hb, hc⟩ := h.elem tv length_tv hk (by omega)
  have c1 := hc 1 _ rfl
  rw [add_past ad (k * 2) 0] at c1
  exact ⟨ad, e, hb, hc 0 _ rfl, c1⟩
/-- timers that lie somewhere -/
structure WR (w : World) (A : Option Addr) (n : Nat) (ts : List Tm) : Prop where
  row : Reads w w.heap.size 2 A n (flat tv ts)
  small : n ≤ 1000
section
variable {w w' : World} {A : Option Addr} {n : Nat} {ts : List Tm}
theorem WR.len (h : WR w A n ts) : ts.length = n := tms_len h.row
theorem WR.below (h : WR w A n ts) (hb : Below w.heap.size w w') : WR w' A n ts := ⟨(h.row.below hb).more hb.size, h.small⟩
theorem WR.of_own {b c : Nat} (h : w.ownsRow b 44 2 (.slice A n c) n (flat tv ts)) (hn : n ≤ 1000) : WR w A n ts := ⟨Reads.of_own h, hn⟩
end

/-- may a timer be; may a wheel be -/
def tmB (now : Int) (t : Tm) : Bool := decide (0 ≤ t.1) && decide (t.1 < 32) && decide (now < t.2) && decide (t.2 ≤ 1125899906842624)
def riseT (now : Int) : Int → List Tm → Bool
  | _, [] => true
  | la, t :: l => decide (la < t.1) && tmB now t && riseT now t.1 l
def chkW (now : Int) (ts : List Tm) : Bool := decide (0 ≤ now) && decide (now ≤ 1125899906842624) && riseT now (-1) ts
theorem tmB_iff {now : Int} {t : Tm} : tmB now t = true ↔ 0 ≤ t.1 ∧ t.1 < 32 ∧ now < t.2 ∧ t.2 ≤ 1125899906842624 := by
  unfold tmB
  simp only [Bool.and_eq_true, decide_eq_true_eq]
  constructor
  · rintro ⟨⟨⟨a, b⟩, c⟩, d⟩; exact ⟨a, b, c, d⟩
  · rintro ⟨a, b, c, d⟩; exact ⟨⟨⟨a, b⟩, c⟩, d⟩
theorem riseT_at {now la : Int} {l : List Tm} {k : Nat} {x : Tm} (h : l[k]? = some x) : riseT now la (l.drop k) = (decide (la < x.1) && tmB now x && riseT now x.1 (l.drop (k + 1))) := by
  have hk := (List.getElem?_eq_some_iff.1 h).1
  have e : l.drop k = x :: l.drop (k + 1) := by rw [List.drop_eq_getElem_cons hk, (List.getElem?_eq_some_iff.1 h).2]
  rw [e]
  rfl
/-- strictly rising numbers, each timer within its bounds -/
structure Rt (now : Int) (ts : List Tm) : Prop where
  each : ∀ t ∈ ts, tmB now t = true
  rise : ts.Pairwise (fun a b => a.1 < b.1)
theorem riseT_iff {now : Int} : ∀ {la : Int} {l : List Tm}, riseT now la l = true ↔ Rt now l ∧ ∀ t ∈ l, la < t.1
  | _, [] => ⟨fun _ => ⟨⟨fun _ h => absurd h (by simp), List.Pairwise.nil⟩, fun _ h => absurd h (by simp)⟩, fun _ => rfl⟩
  | la, t :: l => by
    unfold riseT
    rw [Bool.and_eq_true, Bool.and_eq_true, decide_eq_true_eq, riseT_iff]
    constructor
    · rintro ⟨⟨h1, h2⟩, h3, h4⟩
      refine ⟨⟨fun x hx => ?_, List.pairwise_cons.2 ⟨fun x hx => h4 x hx, h3.rise⟩⟩, fun x hx => ?_⟩
      · rcases List.mem_cons.1 hx with rfl | hx
        · exact h2
        · exact h3.each x hx
      · rcases List.mem_cons.1 hx with rfl | hx
        · exact h1
        · have := h4 x hx; omega
    · rintro ⟨⟨h1, h2⟩, h3⟩
      obtain ⟨h4, h5⟩ := List.pairwise_cons.1 h2
      exact ⟨⟨h3 t (by simp), h1 t (by simp)⟩, ⟨fun x hx => h1 x (by simp [hx]), h5⟩, fun x hx => h4 x hx⟩
theorem chkW_iff {now : Int} {ts : List Tm} : chkW now ts = true ↔ 0 ≤ now ∧ now ≤ 1125899906842624 ∧ Rt now ts := by
  unfold chkW
  rw [Bool.and_eq_true, Bool.and_eq_true, decide_eq_true_eq, decide_eq_true_eq, riseT_iff]
  constructor
  · rintro ⟨⟨a, b⟩, c, _⟩; exact ⟨a, b, c⟩
  · rintro ⟨a, b, c⟩; exact ⟨⟨a, b⟩, c, fun t ht => by have := (tmB_iff.1 (c.each t ht)).1; omega⟩
theorem Rt.len {now : Int} {ts : List Tm} (h : Rt now ts) : ts.length ≤ 32 := by
  have q : ∀ (l : List Tm) (a : Int), l.Pairwise (fun a b => a.1 < b.1) → (∀ t ∈ l, a ≤ t.1 ∧ t.1 < 32) → (l.length : Int) ≤ 32 - a ∨ l = [] := by
    intro l
    induction l with
    | nil => intro a _ _; exact .inr rfl
    | cons x l ih =>
      intro a hp hb
      obtain ⟨h1, h2⟩ := List.pairwise_cons.1 hp
      have hx := hb x (by simp)
      rcases ih (x.1 + 1) h2 (fun t ht => ⟨by have := h1 t ht; omega, (hb t (by simp [ht])).2⟩) with h | rfl
      · left; simp only [List.length_cons]; omega
      · left; simp only [List.length_cons, List.length_nil]; omega
  rcases q ts 0 h.rise (fun t ht => ⟨(tmB_iff.1 (h.each t ht)).1, (tmB_iff.1 (h.each t ht)).2.1⟩) with h | rfl
  · omega
  · simp
def errW (b : Bool) : Int := if b = true then 0 else 250

/-- how many have a lesser key; is the next one's the key -/
def lowK (κ : Tm → Int) (l : List Tm) (x : Int) : Nat := l.countP (fun t => decide (κ t < x))
def metK (κ : Tm → Int) (l : List Tm) (x : Int) : Bool := (l[lowK κ l x]?).any (fun t => decide (κ t = x))
def SortK (κ : Tm → Int) (l : List Tm) : Prop := l.Pairwise (fun a b => κ a ≤ κ b)
theorem SortK.at_ {κ : Tm → Int} {l : List Tm} (h : SortK κ l) {i j : Nat} {a b : Tm} (hij : i ≤ j) (ha : l[i]? = some a) (hb : l[j]? = some b) : κ a ≤ κ b := by
  rcases Nat.lt_or_ge i j with hlt | hge
  · obtain ⟨i1, rfl⟩ := List.getElem?_eq_some_iff.1 ha
    obtain ⟨j1, rfl⟩ := List.getElem?_eq_some_iff.1 hb
    exact List.pairwise_iff_getElem.1 h i j i1 j1 hlt
  · have : i = j := by omega
    subst this
    rw [ha] at hb
    injection hb with hb
    subst hb
    exact Int.le_refl _
theorem low_is {κ : Tm → Int} {l : List Tm} {x : Int} {i : Nat} (hi : i ≤ l.length) (h1 : ∀ (k : Nat) (t : Tm), k < i → l[k]? = some t → κ t < x) (h2 : ∀ (k : Nat) (t : Tm), i ≤ k → l[k]? = some t → x ≤ κ t) : lowK κ l x = i := by
  unfold lowK
  have e : l = l.take i ++ l.drop i := (List.take_append_drop i l).symm
  rw [e, List.countP_append]
  have e1 : (l.take i).countP (fun t => decide (κ t < x)) = i := by
    have : (l.take i).countP (fun t => decide (κ t < x)) = (l.take i).length := by
      rw [List.countP_eq_length]
      intro t ht
      obtain ⟨k, hk⟩ := List.mem_iff_getElem?.1 ht
      rw [List.getElem?_take] at hk
      split at hk
      · rename_i hlt; simpa using h1 k t hlt hk
      · cases hk
    rw [this, List.length_take]; omega
  have e2 : (l.drop i).countP (fun t => decide (κ t < x)) = 0 := by
    rw [List.countP_eq_zero]
    intro t ht
    obtain ⟨k, hk⟩ := List.mem_iff_getElem?.1 ht
    rw [List.getElem?_drop] at hk
    have := h2 (i + k) t (by omega) hk
    simp only [decide_eq_true_eq]; omega
  rw [e1, e2]
  rfl
theorem low_le (κ : Tm → Int) (l : List Tm) (x : Int) : lowK κ l x ≤ l.length := List.countP_le_length
theorem low_below {κ : Tm → Int} {l : List Tm} (hs : SortK κ l) {x : Int} : (∀ (k : Nat) (t : Tm), k < lowK κ l x → l[k]? = some t → κ t < x) ∧ ∀ (k : Nat) (t : Tm), lowK κ l x ≤ k → l[k]? = some t → x ≤ κ t := by
  have q : ∃ i, i ≤ l.length ∧ (∀ (k : Nat) (t : Tm), k < i → l[k]? = some t → κ t < x) ∧ ∀ (k : Nat) (t : Tm), i ≤ k → l[k]? = some t → x ≤ κ t := by
    induction l with
    | nil => exact ⟨0, Nat.le_refl _, fun k t h _ => by omega, fun k t _ h => by simp at h⟩
    | cons a l ih =>
      obtain ⟨h1, h2⟩ := List.pairwise_cons.1 hs
      by_cases ha : κ a < x
      · obtain ⟨i, hi, h3, h4⟩ := ih h2
        refine ⟨i + 1, by simp; omega, fun k t hk ht => ?_, fun k t hk ht => ?_⟩
        · cases k with
          | zero => simp at ht; subst ht; exact ha
          | succ k => exact h3 k t (by omega) (by simpa using ht)
        · cases k with
          | zero => omega
          | succ k => exact h4 k t (by omega) (by simpa using ht)
      · refine ⟨0, Nat.zero_le _, fun k t hk _ => by omega, fun k t _ ht => ?_⟩
        cases k with
        | zero => simp at ht; subst ht; omega
        | succ k => have := h1 t (List.mem_of_getElem? (by simpa using ht)); omega
  obtain ⟨i, hi, h1, h2⟩ := q
  rw [low_is hi h1 h2]
  exact ⟨h1, h2⟩
theorem Rt.sort {now : Int} {ts : List Tm} (h : Rt now ts) : SortK (·.1) ts := h.rise.imp (fun h => Int.le_of_lt h)

/-- what fires, in order -/
def insT (L : List Tm) (t : Tm) : List Tm := L.take (lowK (·.2) L (t.2 + 1)) ++ t :: L.drop (lowK (·.2) L (t.2 + 1))
def laidF : List Tm → List Tm → List Tm
  | L, [] => L
  | L, t :: l => laidF (insT L t) l
def laidL (l : List Tm) : List Tm := laidF [] l
theorem laidF_snoc : ∀ (L l : List Tm) (t : Tm), laidF L (l ++ [t]) = insT (laidF L l) t
  | _, [], _ => rfl
  | L, a :: l, t => laidF_snoc (insT L a) l t
theorem laid_step {l : List Tm} {k : Nat} {t : Tm} (h : l[k]? = some t) : laidL (l.take (k + 1)) = insT (laidL (l.take k)) t := by
  unfold laidL
  rw [List.take_add_one, h]
  exact laidF_snoc [] (l.take k) t
theorem insT_len (L : List Tm) (t : Tm) : (insT L t).length = L.length + 1 := by
  unfold insT
  rw [List.length_append, List.length_cons, List.length_take, List.length_drop]
  have := low_le (·.2) L (t.2 + 1)
  omega
theorem laidF_len : ∀ (L l : List Tm), (laidF L l).length = L.length + l.length
  | L, [] => rfl
  | L, t :: l => by
    show (laidF (insT L t) l).length = _
    rw [laidF_len, insT_len, List.length_cons]; omega
theorem laid_len (l : List Tm) : (laidL l).length = l.length := by
  unfold laidL
  rw [laidF_len]
  simp
theorem mem_insT {L : List Tm} {t x : Tm} : x ∈ insT L t ↔ x = t ∨ x ∈ L := by
  unfold insT
  rw [List.mem_append, List.mem_cons]
  have e : x ∈ L ↔ x ∈ L.take (lowK (·.2) L (t.2 + 1)) ∨ x ∈ L.drop (lowK (·.2) L (t.2 + 1)) := by
    rw [← List.mem_append, List.take_append_drop]
  rw [e]
  constructor
  · rintro (h | h | h)
    · exact .inr (.inl h)
    · exact .inl h
    · exact .inr (.inr h)
  · rintro (h | h | h)
    · exact .inr (.inl h)
    · exact .inl h
    · exact .inr (.inr h)
theorem mem_laidF {x : Tm} : ∀ {L l : List Tm}, x ∈ laidF L l ↔ x ∈ L ∨ x ∈ l
  | L, [] => by simp [laidF]
  | L, t :: l => by
    show x ∈ laidF (insT L t) l ↔ _
    rw [mem_laidF, mem_insT, List.mem_cons]
    constructor
    · rintro ((h | h) | h)
      · exact .inr (.inl h)
      · exact .inl h
      · exact .inr (.inr h)
    · rintro (h | h | h)
      · exact .inl (.inr h)
      · exact .inl (.inl h)
      · exact .inr h
theorem mem_laid {x : Tm} {l : List Tm} : x ∈ laidL l ↔ x ∈ l := by unfold laidL; rw [mem_laidF]; simp
theorem insT_sort {L : List Tm} {t : Tm} (h : SortK (·.2) L) : SortK (·.2) (insT L t) := by
  obtain ⟨h1, h2⟩ := low_below h (x := t.2 + 1)
  have hm1 : ∀ x ∈ L.take (lowK (·.2) L (t.2 + 1)), x.2 ≤ t.2 := by
    intro x hx
    obtain ⟨k, hk⟩ := List.mem_iff_getElem?.1 hx
    rw [List.getElem?_take] at hk
    split at hk
    · rename_i hlt
      have h5 : x.2 < t.2 + 1 := h1 k x hlt hk
      omega
    · cases hk
  have hm2 : ∀ x ∈ L.drop (lowK (·.2) L (t.2 + 1)), t.2 + 1 ≤ x.2 := by
    intro x hx
    obtain ⟨k, hk⟩ := List.mem_iff_getElem?.1 hx
    rw [List.getElem?_drop] at hk
    exact h2 _ x (by omega) hk
  unfold insT SortK
  rw [List.pairwise_append, List.pairwise_cons]
  refine ⟨List.Pairwise.sublist (List.take_sublist _ _) h, ⟨fun x hx => by have := hm2 x hx; show t.2 ≤ x.2; omega, List.Pairwise.sublist (List.drop_sublist _ _) h⟩, fun a ha b hb => ?_⟩
  rcases List.mem_cons.1 hb with rfl | hb
  · exact hm1 a ha
  · have := hm1 a ha; have := hm2 b hb; show a.2 ≤ b.2; omega
theorem laidF_sort : ∀ (l : List Tm) {L : List Tm}, SortK (·.2) L → SortK (·.2) (laidF L l)
  | [], _, h => h
  | _ :: l, _, h => laidF_sort l (insT_sort h)
theorem laid_sort (l : List Tm) : SortK (·.2) (laidL l) := laidF_sort l List.Pairwise.nil

/-- a time's digit; where a timer stands -/
def dgT (x : Int) (k : Nat) : Int := x / 64 ^ k % 64
def spotF (now at_ : Int) : Nat → Int × Int
  | 0 => (0, 0)
  | k + 1 => if dgT at_ k = dgT now k then spotF now at_ k else ((k : Int), dgT at_ k)
def spotT (now at_ : Int) : Int × Int := spotF now at_ 9

end Go.Proofs.Ytbhcpkmofnfjgaa
