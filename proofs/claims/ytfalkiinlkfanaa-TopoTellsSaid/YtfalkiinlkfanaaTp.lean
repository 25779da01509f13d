/-
  What is asked of the landed topo, as words: the statements' walks lean on these alone. No statement is proved here.
-/
import Derived.Test.YtfalkiinlkfanaaTd
import Derived.Test.YtfalkiinlkfanaaTh
import Derived.Test.YtfalkiinlkfanaaTi
namespace Go.Proofs.Ytfalkiinlkfanaa
open Go.RowKit

/-- a topology, where it lies -/
def At (u : World) (A : Option Addr) (n c : Nat) (l : List (Int × Int)) : Prop := Reads u u.heap.size 2 A n (svs l) ∧ n ≤ c ∧ n ≤ 300
theorem At.len {u : World} {A : Option Addr} {n c : Nat} {l : List (Int × Int)} (h : At u A n c l) : l.length = n := reads_len h.1
theorem At.below {u u' : World} {A : Option Addr} {n c : Nat} {l : List (Int × Int)} (h : At u A n c l) (hb : Below u.heap.size u u') : At u' A n c l := ⟨(h.1.below hb).more hb.size, h.2⟩
theorem At.past {u u' : World} {A : Option Addr} {n c B : Nat} {l : List (Int × Int)} (h : At u A n c l) (hb : Below B u u') (hB : u.heap.size ≤ B) : At u' A n c l := h.below ⟨hb.os, hb.tape, hb.output, hb.size, fun k hk => hb.block k (Nat.lt_of_lt_of_le hk hB)⟩
/-- a call answers a topology and a word -/
def Gets (r : List (Int × Int) × Int) (w : World) (e : Ending) (w' : World) : Prop :=
  ∃ A n c, e = .returned (.tuple #[.agg #[.slice A n c], .int .i64 r.2]) ∧ n = r.1.length ∧ At w' A n c r.1 ∧ Below w.heap.size w w'
/-- a call answers numbers, bytes, and a word -/
def GetsL (r : List Int × Int) (w : World) (e : Ending) (w' : World) : Prop :=
  ∃ A n c, e = .returned (.tuple #[.slice A n c, .int .i64 r.2]) ∧ n = r.1.length ∧ n ≤ c ∧ Reads w' w'.heap.size 1 A n (vs r.1) ∧ Below w.heap.size w w'
def GetsB (r : List Int × Int) (w : World) (e : Ending) (w' : World) : Prop :=
  ∃ A n c, e = .returned (.tuple #[.slice A n c, .int .i64 r.2]) ∧ n = r.1.length ∧ n ≤ c ∧ Reads w' w'.heap.size 1 A n (bv r.1) ∧ Below w.heap.size w w'

def distR (l : List (Int × Int)) (a b : Int) : Int × Int := if rightT l = true then (if (cpuT l.length a && cpuT l.length b) = true then (distN l a.toNat b.toNat, 0) else (0, 2)) else (0, 160)
def sockV (l : List (Int × Int)) (s : Int) : Nat := if rightT l = true then setN (fun k => (st l k).1 == s) l.length else 0
def sibV (l : List (Int × Int)) (c : Int) : Nat := if (rightT l && cpuT l.length c) = true then setN (fun k => st l k == st l c.toNat) l.length else 0
def allV (l : List (Int × Int)) : Nat := if rightT l = true then setN (fun _ => true) l.length else 0
def nearR (l : List (Int × Int)) (c s : Int) : List Int × Int := if rightT l = true then (if cpuT l.length c = true then (if s < 256 then (nearL l s c.toNat, 0) else ([], 140)) else ([], 2)) else ([], 160)
def encR (l : List (Int × Int)) : List Int × Int := if rightT l = true then (bytesL l, 0) else ([], 160)
def flatR (n : Int) : List (Int × Int) × Int := if 1 ≤ n ∧ n ≤ 8 then ((List.range n.toNat).map fun (k : Nat) => ((0 : Int), (k : Int)), 0) else ([], 2)
def regR (s c t : Int) : List (Int × Int) × Int := if (regularV s c t).2 = true then ((regularV s c t).1, 0) else ([], 2)

/-- what is asked of the landed calls -/
def TCheckOk : Prop := ∀ (A : Option Addr) (n c : Nat) (l : List (Int × Int)) (u : World), At u A n c l → Calls Try.prog 13 #[.agg #[.slice A n c]] u (Said (.int .i64 (if rightT l = true then 0 else 160)) u)
def TSameOk : Prop := ∀ (A A' : Option Addr) (n c n' c' : Nat) (l m : List (Int × Int)) (u : World), At u A n c l → At u A' n' c' m → Calls Try.prog 14 #[.agg #[.slice A n c], .agg #[.slice A' n' c']] u (Said (.bool (sameB l m)) u)
def TAllOk : Prop := ∀ (A : Option Addr) (n c : Nat) (l : List (Int × Int)) (u : World), At u A n c l → Calls Try.prog 16 #[.agg #[.slice A n c]] u (Said (.int .u32 (allV l : Int)) u)
def TSocketOk : Prop := ∀ (A : Option Addr) (n c : Nat) (l : List (Int × Int)) (s : Int) (u : World), At u A n c l → Calls Try.prog 18 #[.agg #[.slice A n c], .int .i64 s] u (Said (.int .u32 (sockV l s : Int)) u)
def TSiblingsOk : Prop := ∀ (A : Option Addr) (n c : Nat) (l : List (Int × Int)) (s : Int) (u : World), At u A n c l → Calls Try.prog 19 #[.agg #[.slice A n c], .int .i64 s] u (Said (.int .u32 (sibV l s : Int)) u)
def TDistOk : Prop := ∀ (A : Option Addr) (n c : Nat) (l : List (Int × Int)) (a b : Int) (u : World), At u A n c l → Calls Try.prog 20 #[.agg #[.slice A n c], .int .i64 a, .int .i64 b] u (Said (.tuple #[.int .i64 (distR l a b).1, .int .i64 (distR l a b).2]) u)
def TNearOk : Prop := ∀ (A : Option Addr) (n c : Nat) (l : List (Int × Int)) (a s : Int) (u : World), At u A n c l → 0 ≤ s → s < 4294967296 → Calls Try.prog 22 #[.agg #[.slice A n c], .int .i64 a, .int .u32 s] u (GetsL (nearR l a s) u)
def TEncodeOk : Prop := ∀ (A : Option Addr) (n c : Nat) (l : List (Int × Int)) (u : World), At u A n c l → Calls Try.prog 29 #[.agg #[.slice A n c]] u (GetsB (encR l) u)
def TDecodeOk : Prop := ∀ (A : Option Addr) (n c : Nat) (bs : List Int) (u : World), bs.length = n → (∀ (k : Nat) (x : Int), bs[k]? = some x → 0 ≤ x ∧ x < 256) → Reads u u.heap.size 1 A n (bv bs) → n ≤ c → n ≤ 600 → Calls Try.prog 32 #[.slice A n c] u (Gets (decodeV bs) u)
def TFlatOk : Prop := ∀ (n : Int) (u : World), Calls Try.prog 26 #[.int .i64 n] u (Gets (flatR n) u)
def TRegularOk : Prop := ∀ (s c t : Int) (u : World), Calls Try.prog 27 #[.int .i64 s, .int .i64 c, .int .i64 t] u (Gets (regR s c t) u)

/-! ### on distances -/
theorem dist_self (l : List (Int × Int)) (a : Nat) : distN l a a = 0 := if_pos rfl
theorem dist_sym (l : List (Int × Int)) (a b : Nat) : distN l a b = distN l b a := by
  unfold distN
  by_cases h : a = b
  · subst h; rfl
  · have h' : ¬ b = a := fun e => h e.symm
    rw [if_neg h, if_neg h']
    by_cases h2 : st l a = st l b
    · rw [if_pos h2, if_pos h2.symm]
    · have h2' : ¬ st l b = st l a := fun e => h2 e.symm
      rw [if_neg h2, if_neg h2']
      by_cases h3 : (st l a).1 = (st l b).1
      · rw [if_pos h3, if_pos h3.symm]
      · have h3' : ¬ (st l b).1 = (st l a).1 := fun e => h3 e.symm
        rw [if_neg h3, if_neg h3']
theorem dist_range (l : List (Int × Int)) (a b : Nat) : 0 ≤ distN l a b ∧ distN l a b ≤ 3 := by
  unfold distN
  split
  · omega
  · split
    · omega
    · split <;> omega
theorem dist_zero (l : List (Int × Int)) (a b : Nat) : (distN l a b == 0) = ((a : Int) == (b : Int)) := by
  unfold distN
  by_cases h : a = b
  · rw [if_pos h, h]; simp
  · rw [if_neg h]
    have : ((a : Int) == (b : Int)) = false := by simp; omega
    rw [this]
    split
    · rfl
    · split <;> rfl
theorem dist_near (l : List (Int × Int)) (a b : Nat) : decide (distN l a b ≤ 1) = (st l b == st l a) := by
  unfold distN
  by_cases h : a = b
  · rw [if_pos h, h]; simp
  · rw [if_neg h]
    by_cases h2 : st l a = st l b
    · rw [if_pos h2, h2]; simp
    · rw [if_neg h2]
      have : (st l b == st l a) = false := by
        rw [beq_eq_false_iff_ne]
        exact fun e => h2 e.symm
      rw [this]
      split <;> simp
theorem dist_three (l : List (Int × Int)) (a b c : Nat) : distN l a b ≤ distN l a c ∨ distN l a b ≤ distN l c b := by
  unfold distN
  by_cases h1 : a = c
  · subst h1; exact .inr (Int.le_refl _)
  · by_cases h2 : c = b
    · subst h2; exact .inl (Int.le_refl _)
    · simp only [if_neg h1, if_neg h2]
      generalize st l a = p
      generalize st l b = q
      generalize st l c = r
      by_cases h3 : a = b
      · simp only [if_pos h3]
        left
        split
        · omega
        · split <;> omega
      · simp only [if_neg h3]
        by_cases h4 : p = q
        · simp only [if_pos h4]
          left
          split
          · omega
          · split <;> omega
        · by_cases h5 : p = r
          · subst h5
            right
            exact Int.le_refl _
          · by_cases h6 : r = q
            · subst h6
              left
              exact Int.le_refl _
            · simp only [if_neg h4, if_neg h5, if_neg h6]
              by_cases h7 : p.1 = r.1
              · right
                rw [h7]
                exact Int.le_refl _
              · left
                simp only [if_neg h7]
                split <;> omega
theorem cpuT_nat {n k : Nat} (h : k < n) : cpuT n (k : Int) = true := cpuT_yes (by omega) (by omega)
theorem dist_in {l : List (Int × Int)} (hr : rightT l = true) {a b : Nat} (ha : a < l.length) (hb : b < l.length) : distR l (a : Int) (b : Int) = (distN l a b, 0) := by
  unfold distR
  rw [if_pos hr, cpuT_nat ha, cpuT_nat hb]
  rfl

end Go.Proofs.Ytfalkiinlkfanaa
