/-
  Several texts as one.
-/
import Derived.Test.YtngbamoffjlodaaZBd
/-
  The contracts of the document's own words on fractions: Weight, Right, bits, Number. No statement is proved here.
-/
namespace Go.Proofs.Ytngbamoffjlodaa
open Go.RowKit

set_option maxRecDepth 100000 in
theorem retB {a b : Bool} (h : a = b) : Ending.returned (.bool a) = .returned (.bool b) := by rw [h]
def weightB (x : Nat) : Bool := decide (1 ≤ x) && decide (x ≤ 65535)
def rightB (h x : Nat) : Bool := weightB x && decide (h < 68719476736)
set_option maxRecDepth 100000 in
theorem weightB_true {x : Nat} (h : weightB x = true) : 1 ≤ x ∧ x ≤ 65535 := by unfold weightB at h; simpa using h
set_option maxRecDepth 100000 in
theorem weightB_yes {x : Nat} (h1 : 1 ≤ x) (h2 : x ≤ 65535) : weightB x = true := by unfold weightB; simp [h1, h2]
set_option maxRecDepth 100000 in
theorem weightB_no {x : Nat} (h : x < 1 ∨ 65535 < x) : weightB x = false := by
  unfold weightB
  rcases h with h | h
  · have : ¬ 1 ≤ x := by omega
    simp [this]
  · have : ¬ x ≤ 65535 := by omega
    simp [this]

set_option maxRecDepth 100000 in
set_option maxHeartbeats 400000 in
theorem rweight_any (x : Nat) (w : World) : Calls Try.prog 96 #[.int .u64 (x : Int)] w fun e w' => e = .returned (.bool (weightB x)) ∧ w = w' := by
  by_cases h1 : 1 ≤ x
  · by_cases h2 : x ≤ 65535
    · have H := Lib.hid (weightB_yes h1 h2)
      have g1 : (1 : Int) ≤ (x : Int) := by omega
      have g2 : (x : Int) ≤ 65535 := by omega
      clear h1 h2
      go_enter Try.func96, Try.ntmps96
      go_wp2
      go_ret
      exact ⟨retB H.out.symm, rfl⟩
    · have H := Lib.hid (weightB_no (x := x) (.inr (by omega)))
      have g1 : (1 : Int) ≤ (x : Int) := by omega
      have g2 : ¬ (x : Int) ≤ 65535 := by omega
      clear h1 h2
      go_enter Try.func96, Try.ntmps96
      go_wp2
      go_ret
      exact ⟨retB H.out.symm, rfl⟩
  · have H := Lib.hid (weightB_no (x := x) (.inl (by omega)))
    have g1 : ¬ (1 : Int) ≤ (x : Int) := by omega
    clear h1
    go_enter Try.func96, Try.ntmps96
    go_wp2
    go_ret
    exact ⟨retB H.out.symm, rfl⟩

/-- a value; what was there has not turned -/
def Said (v : Value) (w : World) (e : Ending) (w' : World) : Prop := e = .returned v ∧ Below w.heap.size w w'
/-- a fraction as a value -/
def fr (h l x : Nat) : Array Value := #[.int .u64 (h : Int), .int .u64 (l : Int), .int .u64 (x : Int)]

set_option maxRecDepth 100000 in
set_option maxHeartbeats 1000000 in
theorem rright_any (h l x : Nat) (w : World) : Calls Try.prog 71 #[.agg (fr h l x)] w (Said (.bool (rightB h x)) w) := by
  have HW := Lib.hid (fun u => rweight_any x u)
  unfold fr
  cases hb : weightB x with
  | true =>
    rw [hb] at HW
    by_cases hh : h < 68719476736
    · have HV : Hid (rightB h x = true) := Lib.hid (by unfold rightB; rw [hb]; simp [hh])
      have g : decide ((68719476736 : Int) ≤ (h : Int)) = false := by simp; omega
      have g2 : decide ((h : Int) < 68719476736) = true := by simp; omega
      clear hb hh
      go_enter Try.func71, Try.ntmps71
      go_wp2_with fail
      refine (HW.out _).mono ?_
      rintro e w' ⟨rfl, rfl⟩
      go_wp2
      go_ret
      exact ⟨retB (by rw [HV.out]), (Below.refl _ _).alloc (Nat.le_refl _) _⟩
    · have HV : Hid (rightB h x = false) := Lib.hid (by unfold rightB; rw [hb]; simp; omega)
      have g2 : decide ((h : Int) < 68719476736) = false := by simp; omega
      clear hb hh
      go_enter Try.func71, Try.ntmps71
      go_wp2_with fail
      refine (HW.out _).mono ?_
      rintro e w' ⟨rfl, rfl⟩
      go_wp2
      go_ret
      exact ⟨retB (by rw [HV.out]), (Below.refl _ _).alloc (Nat.le_refl _) _⟩
  | false =>
    rw [hb] at HW
    have HV : Hid (rightB h x = false) := Lib.hid (by unfold rightB; rw [hb]; rfl)
    clear hb
    go_enter Try.func71, Try.ntmps71
    go_wp2_with fail
    refine (HW.out _).mono ?_
    rintro e w' ⟨rfl, rfl⟩
    go_wp2
    go_ret
    exact ⟨retB (by rw [HV.out]), (Below.refl _ _).alloc (Nat.le_refl _) _⟩


end Go.Proofs.Ytngbamoffjlodaa
/-
  What is asked of the landed frac, as words: the statements' walks lean on these alone. No statement is proved here.
-/
namespace Go.Proofs.Ytngbamoffjlodaa
open Go.RowKit

/-- which is less (the document's Compare's cmpI, by another name) -/
def cmpW (x y : Nat) : Int := if x < y then -1 else if y < x then 1 else 0
/-- a fraction by its number -/
def fq (N x : Nat) : Array Value := fr (N / 2 ^ 64) (N % 2 ^ 64) x
set_option maxRecDepth 100000 in
theorem fq_of {h l : Nat} (hl : l < 2 ^ 64) (x : Nat) : fq (h * 2 ^ 64 + l) x = fr h l x := by
  unfold fq
  rw [show (h * 2 ^ 64 + l) / 2 ^ 64 = h by omega, show (h * 2 ^ 64 + l) % 2 ^ 64 = l by omega]
set_option maxRecDepth 100000 in
theorem halves (N : Nat) (h : N < 2 ^ 128) : ∃ a b, N = a * 2 ^ 64 + b ∧ a < 2 ^ 64 ∧ b < 2 ^ 64 := ⟨N / 2 ^ 64, N % 2 ^ 64, by omega, by omega, by omega⟩
def rightN (N x : Nat) : Bool := weightB x && decide (N < 2 ^ 100)
set_option maxRecDepth 100000 in
theorem rightN_of {h l x : Nat} (hl : l < 2 ^ 64) : rightN (h * 2 ^ 64 + l) x = rightB h x := by
  unfold rightN rightB
  congr 1
  exact decide_eq_decide.2 (by omega)
set_option maxRecDepth 100000 in
theorem rightN_true {N x : Nat} (h : rightN N x = true) : 1 ≤ x ∧ x ≤ 65535 ∧ N < 2 ^ 100 := by
  unfold rightN at h
  simp only [Bool.and_eq_true, decide_eq_true_eq] at h
  exact ⟨(weightB_true h.1).1, (weightB_true h.1).2, h.2⟩
set_option maxRecDepth 100000 in
theorem rightN_yes {N x : Nat} (h1 : 1 ≤ x) (h2 : x ≤ 65535) (h3 : N < 2 ^ 100) : rightN N x = true := by
  unfold rightN
  rw [weightB_yes h1 h2, decide_eq_true h3]; rfl
def cmpR (N x M y : Nat) : Int := if (rightN N x && rightN M y) = true then cmpW (N * y) (M * x) else 0
/-- what is asked of the landed calls -/
def CheckOk : Prop := ∀ (N x : Nat) (u : World), N < 2 ^ 128 → x < 2 ^ 64 → Calls Try.prog 25 #[.agg (fq N x)] u (Said (.int .i64 (if rightN N x = true then 0 else 150)) u)
def CompareOk : Prop := ∀ (N x M y : Nat) (u : World), N < 2 ^ 128 → x < 2 ^ 64 → M < 2 ^ 128 → y < 2 ^ 64 → Calls Try.prog 27 #[.agg (fq N x), .agg (fq M y)] u (Said (.int .i64 (cmpR N x M y)) u)

/-! ### on the least number over another weight -/
set_option maxRecDepth 100000 in
theorem cmpW_lt {x y : Nat} (h : x < y) : cmpW x y = -1 := if_pos h
set_option maxRecDepth 100000 in
theorem cmpW_gt {x y : Nat} (h : y < x) : cmpW x y = 1 := by unfold cmpW; rw [if_neg (by omega), if_pos h]
set_option maxRecDepth 100000 in
theorem cmpW_eq {x y : Nat} (h : x = y) : cmpW x y = 0 := by unfold cmpW; rw [if_neg (by omega), if_neg (by omega)]
set_option maxRecDepth 100000 in
theorem cmpW_neg (x y : Nat) : cmpW x y = -cmpW y x := by
  rcases Nat.lt_trichotomy x y with h | h | h
  · rw [cmpW_lt h, cmpW_gt h]
  · rw [cmpW_eq h, cmpW_eq h.symm]; rfl
  · rw [cmpW_gt h, cmpW_lt h]; rfl

end Go.Proofs.Ytngbamoffjlodaa
/-
  The contract of the document's Number of a fraction. No statement is proved here.
-/
namespace Go.Proofs.Ytngbamoffjlodaa
open Go.RowKit

end Go.Proofs.Ytngbamoffjlodaa
/-
  The contracts of the document's Add and Less of fractions. No statement is proved here.
-/
namespace Go.Proofs.Ytngbamoffjlodaa
open Go.RowKit


end Go.Proofs.Ytngbamoffjlodaa
