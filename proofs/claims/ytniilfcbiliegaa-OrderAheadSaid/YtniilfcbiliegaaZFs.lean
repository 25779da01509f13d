/-
  Several texts as one.
-/
import Derived.Test.YtniilfcbiliegaaZBd
/-
  The contracts of the document's own words on fractions: Weight, Right, bits, Number. No statement is proved here.
-/
namespace Go.Proofs.Ytniilfcbiliegaa
open Go.RowKit

set_option maxRecDepth 100000 in
theorem retB {a b : Bool} (h : a = b) : Ending.returned (.bool a) = .returned (.bool b) := by rw [h]
def weightB (x : Nat) : Bool := decide (1 ≤ x) && decide (x ≤ 65535)
def rightB (h x : Nat) : Bool := weightB x && decide (h < 68719476736)
set_option maxRecDepth 100000 in
theorem weightB_true {x : Nat} (h : weightB x = true) : 1 ≤ x ∧ x ≤ 65535 := by unfold weightB at h; simpa using h
set_option maxRecDepth 100000 in
theorem weightB_yes {x : Nat} (h1 : 1 ≤ x) (h2 : x ≤ 65535) : weightB x = true := by unfold weightB; simp [h1, h2]
set_option maxRecDepth 100000 in
theorem weightB_no {x : Nat} (h : x < 1 ∨ 65535 < x) : weightB x = false := by
  unfold weightB
  rcases h with h | h
  · have : ¬ 1 ≤ x := by omega
    simp [this]
  · have : ¬ x ≤ 65535 := by omega
    simp [this]

set_option maxRecDepth 100000 in
set_option maxHeartbeats 400000 in
theorem rweight_any (x : Nat) (w : World) : Calls Try.prog 96 #[.int .u64 (x : Int)] w fun e w' => e = .returned (.bool (weightB x)) ∧ w = w' := by
  by_cases h1 : 1 ≤ x
  · by_cases h2 : x ≤ 65535
    · have H := Lib.hid (weightB_yes h1 h2)
      have g1 : (1 : Int) ≤ (x : Int) := by omega
      have g2 : (x : Int) ≤ 65535 := by omega
      clear h1 h2
      go_enter Try.func96, Try.ntmps96
      go_wp2
      go_ret
      exact ⟨retB H.out.symm, rfl⟩
    · have H := Lib.hid (weightB_no (x := x) (.inr (by omega)))
      have g1 : (1 : Int) ≤ (x : Int) := by omega
      have g2 : ¬ (x : Int) ≤ 65535 := by omega
      clear h1 h2
      go_enter Try.func96, Try.ntmps96
      go_wp2
      go_ret
      exact ⟨retB H.out.symm, rfl⟩
  · have H := Lib.hid (weightB_no (x := x) (.inl (by omega)))
    have g1 : ¬ (1 : Int) ≤ (x : Int) := by omega
    clear h1
    go_enter Try.func96, Try.ntmps96
    go_wp2
    go_ret
    exact ⟨retB H.out.symm, rfl⟩

/-- a value; what was there has not turned -/
def Said (v : Value) (w : World) (e : Ending) (w' : World) : Prop := e = .returned v ∧ Below w.heap.size w w'
/-- a fraction as a value -/
def fr (h l x : Nat) : Array Value := #[.int .u64 (h : Int), .int .u64 (l : Int), .int .u64 (x : Int)]

set_option maxRecDepth 100000 in
set_option maxHeartbeats 1000000 in
theorem rright_any (h l x : Nat) (w : World) : Calls Try.prog 71 #[.agg (fr h l x)] w (Said (.bool (rightB h x)) w) := by
  have HW := Lib.hid (fun u => rweight_any x u)
  unfold fr
  cases hb : weightB x with
  | true =>
    rw [hb] at HW
    by_cases hh : h < 68719476736
    · have HV : Hid (rightB h x = true) := Lib.hid (by unfold rightB; rw [hb]; simp [hh])
      have g : decide ((68719476736 : Int) ≤ (h : Int)) = false := by simp; omega
      have g2 : decide ((h : Int) < 68719476736) = true := by simp; omega
      clear hb hh
      go_enter Try.func71, Try.ntmps71
      go_wp2_with fail
      refine (HW.out _).mono ?_
      rintro e w' ⟨rfl, rfl⟩
      go_wp2
      go_ret
      exact ⟨retB (by rw [HV.out]), (Below.refl _ _).alloc (Nat.le_refl _) _⟩
    · have HV : Hid (rightB h x = false) := Lib.hid (by unfold rightB; rw [hb]; simp; omega)
      have g2 : decide ((h : Int) < 68719476736) = false := by simp; omega
      clear hb hh
      go_enter Try.func71, Try.ntmps71
      go_wp2_with fail
      refine (HW.out _).mono ?_
      rintro e w' ⟨rfl, rfl⟩
      go_wp2
      go_ret
      exact ⟨retB (by rw [HV.out]), (Below.refl _ _).alloc (Nat.le_refl _) _⟩
  | false =>
    rw [hb] at HW
    have HV : Hid (rightB h x = false) := Lib.hid (by unfold rightB; rw [hb]; rfl)
    clear hb
    go_enter Try.func71, Try.ntmps71
    go_wp2_with fail
    refine (HW.out _).mono ?_
    rintro e w' ⟨rfl, rfl⟩
    go_wp2
    go_ret
    exact ⟨retB (by rw [HV.out]), (Below.refl _ _).alloc (Nat.le_refl _) _⟩


end Go.Proofs.Ytniilfcbiliegaa
/-
  What is asked of the landed frac, as words: the statements' walks lean on these alone. No statement is proved here.
-/
namespace Go.Proofs.Ytniilfcbiliegaa
open Go.RowKit

/-- which is less (the document's Compare's cmpI, by another name) -/
def cmpW (x y : Nat) : Int := if x < y then -1 else if y < x then 1 else 0
/-- the least number over another weight that is not less (the document's Over's overN, by another name) -/
def overW (n m x : Nat) : Nat := n * m / x + (if n * m % x = 0 then 0 else 1)

/-- a fraction by its number -/
def fq (N x : Nat) : Array Value := fr (N / 2 ^ 64) (N % 2 ^ 64) x
set_option maxRecDepth 100000 in
theorem fq_of {h l : Nat} (hl : l < 2 ^ 64) (x : Nat) : fq (h * 2 ^ 64 + l) x = fr h l x := by
  unfold fq
  rw [show (h * 2 ^ 64 + l) / 2 ^ 64 = h by omega, show (h * 2 ^ 64 + l) % 2 ^ 64 = l by omega]
set_option maxRecDepth 100000 in
theorem halves (N : Nat) (h : N < 2 ^ 128) : ∃ a b, N = a * 2 ^ 64 + b ∧ a < 2 ^ 64 ∧ b < 2 ^ 64 := ⟨N / 2 ^ 64, N % 2 ^ 64, by omega, by omega, by omega⟩
def rightN (N x : Nat) : Bool := weightB x && decide (N < 2 ^ 100)
set_option maxRecDepth 100000 in
theorem rightN_of {h l x : Nat} (hl : l < 2 ^ 64) : rightN (h * 2 ^ 64 + l) x = rightB h x := by
  unfold rightN rightB
  congr 1
  exact decide_eq_decide.2 (by omega)
set_option maxRecDepth 100000 in
theorem rightN_true {N x : Nat} (h : rightN N x = true) : 1 ≤ x ∧ x ≤ 65535 ∧ N < 2 ^ 100 := by
  unfold rightN at h
  simp only [Bool.and_eq_true, decide_eq_true_eq] at h
  exact ⟨(weightB_true h.1).1, (weightB_true h.1).2, h.2⟩
set_option maxRecDepth 100000 in
theorem rightN_yes {N x : Nat} (h1 : 1 ≤ x) (h2 : x ≤ 65535) (h3 : N < 2 ^ 100) : rightN N x = true := by
  unfold rightN
  rw [weightB_yes h1 h2, decide_eq_true h3]; rfl
/-- a fraction and an error -/
def fe (r : Nat × Nat × Int) : Value := .tuple #[.agg (fq r.1 r.2.1), .int .i64 r.2.2]
def addR (N x n : Nat) : Nat × Nat × Int := if rightN N x = true then (if N + n < 2 ^ 100 then (N + n, x, 0) else (0, 0, 131)) else (0, 0, 150)
def lessR (N x n : Nat) : Nat × Nat × Int := if rightN N x = true then (N - n, x, 0) else (0, 0, 150)
def overR (N x m : Nat) : Nat × Nat × Int := if rightN N x = true then (if weightB m = true then (if overW N m x < 2 ^ 100 then (overW N m x, m, 0) else (0, 0, 131)) else (0, 0, 2)) else (0, 0, 150)
def ofR (n m : Nat) : Nat × Nat × Int := if weightB m = true then (n, m, 0) else (0, 0, 2)
def cmpR (N x M y : Nat) : Int := if (rightN N x && rightN M y) = true then cmpW (N * y) (M * x) else 0
def behindB (N x M y k : Nat) : Bool := rightN N x && rightN M y && decide (N * y + k * x * y < M * x)
def raiseR (N x M y k : Nat) : Nat × Nat × Int :=
  if (rightN N x && rightN M y) = true then
    (if behindB N x M y k = true then (if overW (M - k * y) x y < 2 ^ 100 then (overW (M - k * y) x y, x, 0) else (0, 0, 131)) else (N, x, 0))
  else (0, 0, 150)

/-- what is asked of the landed calls -/
def CheckOk : Prop := ∀ (N x : Nat) (u : World), N < 2 ^ 128 → x < 2 ^ 64 → Calls Try.prog 25 #[.agg (fq N x)] u (Said (.int .i64 (if rightN N x = true then 0 else 150)) u)
def CompareOk : Prop := ∀ (N x M y : Nat) (u : World), N < 2 ^ 128 → x < 2 ^ 64 → M < 2 ^ 128 → y < 2 ^ 64 → Calls Try.prog 27 #[.agg (fq N x), .agg (fq M y)] u (Said (.int .i64 (cmpR N x M y)) u)

/-! ### on the least number over another weight -/
set_option maxRecDepth 100000 in
theorem over_ge {n m x : Nat} (hx : 0 < x) : n * m ≤ overW n m x * x := by
  unfold overW
  have h := Nat.div_add_mod (n * m) x
  have hl := Nat.mod_lt (n * m) hx
  split
  · rename_i h0
    rw [h0, Nat.add_zero, Nat.mul_comm] at h
    rw [Nat.add_zero, h]
    exact Nat.le_refl _
  · rw [Nat.add_mul, Nat.one_mul, Nat.mul_comm (n * m / x) x]
    omega
set_option maxRecDepth 100000 in
theorem over_lt {n m x : Nat} (hx : 0 < x) (h0 : 0 < overW n m x) : (overW n m x - 1) * x < n * m := by
  unfold overW at h0 ⊢
  have h := Nat.div_add_mod (n * m) x
  split
  · rename_i hz
    rw [if_pos hz, Nat.add_zero] at h0
    rw [hz, Nat.add_zero] at h
    rw [Nat.add_zero, Nat.sub_mul, Nat.one_mul, Nat.mul_comm (n * m / x) x, h]
    have : x ≤ n * m := by
      have := Nat.mul_le_mul_left x (show 1 ≤ n * m / x from h0)
      rw [h, Nat.mul_one] at this
      exact this
    omega
  · rename_i hz
    rw [Nat.add_sub_cancel, Nat.mul_comm (n * m / x) x]
    omega
set_option maxRecDepth 100000 in
theorem over_same {n x : Nat} (hx : 0 < x) : overW n x x = n := by
  unfold overW
  rw [Nat.mul_mod_left, if_pos rfl, Nat.mul_div_cancel _ hx]; rfl
set_option maxRecDepth 100000 in
theorem cmpW_ge {x y : Nat} (h : y ≤ x) : cmpW x y = 0 ∨ cmpW x y = 1 := by
  unfold cmpW
  rw [if_neg (by omega)]
  split
  · exact .inr rfl
  · exact .inl rfl
set_option maxRecDepth 100000 in
theorem cmpW_lt {x y : Nat} (h : x < y) : cmpW x y = -1 := if_pos h
set_option maxRecDepth 100000 in
theorem cmpW_gt {x y : Nat} (h : y < x) : cmpW x y = 1 := by unfold cmpW; rw [if_neg (by omega), if_pos h]
set_option maxRecDepth 100000 in
theorem cmpW_eq {x y : Nat} (h : x = y) : cmpW x y = 0 := by unfold cmpW; rw [if_neg (by omega), if_neg (by omega)]
set_option maxRecDepth 100000 in
theorem cmpW_neg (x y : Nat) : cmpW x y = -cmpW y x := by
  rcases Nat.lt_trichotomy x y with h | h | h
  · rw [cmpW_lt h, cmpW_gt h]
  · rw [cmpW_eq h, cmpW_eq h.symm]; rfl
  · rw [cmpW_gt h, cmpW_lt h]; rfl

set_option maxRecDepth 100000 in
/-- the fraction that is none -/
theorem fe_none (e : Int) : fe (0, 0, e) = .tuple #[.agg (fr 0 0 0), .int .i64 e] := by
  unfold fe fq
  rw [Nat.zero_div, Nat.zero_mod]
set_option maxRecDepth 100000 in
theorem fe_some {h l : Nat} (hl : l < 2 ^ 64) (x : Nat) (e : Int) : fe (h * 2 ^ 64 + l, x, e) = .tuple #[.agg (fr h l x), .int .i64 e] := by
  unfold fe
  rw [fq_of hl]

end Go.Proofs.Ytniilfcbiliegaa
/-
  The contract of the document's Number of a fraction. No statement is proved here.
-/
namespace Go.Proofs.Ytniilfcbiliegaa
open Go.RowKit

/-- a fraction's number, and whether it is one -/
def num5 (N : Nat) : Nat × Nat × Bool := if N < 2 ^ 100 then (N / 2 ^ 64, N % 2 ^ 64, true) else (0, 0, false)
set_option maxRecDepth 100000 in
theorem num5_yes {N : Nat} (h : N < 2 ^ 100) : num5 N = (N / 2 ^ 64, N % 2 ^ 64, true) := if_pos h
set_option maxRecDepth 100000 in
theorem num5_no {N : Nat} (h : ¬ N < 2 ^ 100) : num5 N = (0, 0, false) := if_neg h
/-- a wide number and whether -/
def wv (h l : Nat) (b : Bool) : Value := .tuple #[.agg #[.int .u64 (h : Int), .int .u64 (l : Int)], .bool b]


end Go.Proofs.Ytniilfcbiliegaa
/-
  The contracts of the document's Add and Less of fractions. No statement is proved here.
-/
namespace Go.Proofs.Ytniilfcbiliegaa
open Go.RowKit


/-- a wide number as a value -/
def wd (h l : Nat) : Value := .agg #[.int .u64 (h : Int), .int .u64 (l : Int)]


end Go.Proofs.Ytniilfcbiliegaa
