/-
  Several texts as one.
-/
import Derived.Test.YtngbamoffjlodaaZDWe
import Derived.Test.YtngbamoffjlodaaZDWh
import Derived.Test.YtngbamoffjlodaaZDWc
/-
  The contracts of the document's own words on fractions: Weight, Right, bits, Number. No statement is proved here.
-/
namespace Go.Proofs.Ytngbamoffjlodaa.Dw
open Go.RowKit

set_option maxRecDepth 100000 in
theorem retB {a b : Bool} (h : a = b) : Ending.returned (.bool a) = .returned (.bool b) := by rw [h]
def weightB (x : Nat) : Bool := decide (1 ≤ x) && decide (x ≤ 65535)
def rightB (h x : Nat) : Bool := weightB x && decide (h < 68719476736)
set_option maxRecDepth 100000 in
theorem weightB_true {x : Nat} (h : weightB x = true) : 1 ≤ x ∧ x ≤ 65535 := by unfold weightB at h; simpa using h
set_option maxRecDepth 100000 in
theorem weightB_yes {x : Nat} (h1 : 1 ≤ x) (h2 : x ≤ 65535) : weightB x = true := by unfold weightB; simp [h1, h2]
set_option maxRecDepth 100000 in
theorem weightB_no {x : Nat} (h : x < 1 ∨ 65535 < x) : weightB x = false := by
  unfold weightB
  rcases h with h | h
  · have : ¬ 1 ≤ x := by omega
    simp [this]
  · have : ¬ x ≤ 65535 := by omega
    simp [this]

set_option maxRecDepth 100000 in
set_option maxHeartbeats 400000 in
theorem rweight_any (x : Nat) (w : World) : Calls Try.prog 96 #[.int .u64 (x : Int)] w fun e w' => e = .returned (.bool (weightB x)) ∧ w = w' := by
  by_cases h1 : 1 ≤ x
  · by_cases h2 : x ≤ 65535
    · have H := Lib.hid (weightB_yes h1 h2)
      have g1 : (1 : Int) ≤ (x : Int) := by omega
      have g2 : (x : Int) ≤ 65535 := by omega
      clear h1 h2
      go_enter Try.func96, Try.ntmps96
      go_wp2
      go_ret
      exact ⟨retB H.out.symm, rfl⟩
    · have H := Lib.hid (weightB_no (x := x) (.inr (by omega)))
      have g1 : (1 : Int) ≤ (x : Int) := by omega
      have g2 : ¬ (x : Int) ≤ 65535 := by omega
      clear h1 h2
      go_enter Try.func96, Try.ntmps96
      go_wp2
      go_ret
      exact ⟨retB H.out.symm, rfl⟩
  · have H := Lib.hid (weightB_no (x := x) (.inl (by omega)))
    have g1 : ¬ (1 : Int) ≤ (x : Int) := by omega
    clear h1
    go_enter Try.func96, Try.ntmps96
    go_wp2
    go_ret
    exact ⟨retB H.out.symm, rfl⟩

/-- a value; what was there has not turned -/
def Said (v : Value) (w : World) (e : Ending) (w' : World) : Prop := e = .returned v ∧ Below w.heap.size w w'
/-- a fraction as a value -/
def fr (h l x : Nat) : Array Value := #[.int .u64 (h : Int), .int .u64 (l : Int), .int .u64 (x : Int)]

set_option maxRecDepth 100000 in
set_option maxHeartbeats 1000000 in
theorem rright_any (h l x : Nat) (w : World) : Calls Try.prog 71 #[.agg (fr h l x)] w (Said (.bool (rightB h x)) w) := by
  have HW := Lib.hid (fun u => rweight_any x u)
  unfold fr
  cases hb : weightB x with
  | true =>
    rw [hb] at HW
    by_cases hh : h < 68719476736
    · have HV : Hid (rightB h x = true) := Lib.hid (by unfold rightB; rw [hb]; simp [hh])
      have g : decide ((68719476736 : Int) ≤ (h : Int)) = false := by simp; omega
      have g2 : decide ((h : Int) < 68719476736) = true := by simp; omega
      clear hb hh
      go_enter Try.func71, Try.ntmps71
      go_wp2_with fail
      refine (HW.out _).mono ?_
      rintro e w' ⟨rfl, rfl⟩
      go_wp2
      go_ret
      exact ⟨retB (by rw [HV.out]), (Below.refl _ _).alloc (Nat.le_refl _) _⟩
    · have HV : Hid (rightB h x = false) := Lib.hid (by unfold rightB; rw [hb]; simp; omega)
      have g2 : decide ((h : Int) < 68719476736) = false := by simp; omega
      clear hb hh
      go_enter Try.func71, Try.ntmps71
      go_wp2_with fail
      refine (HW.out _).mono ?_
      rintro e w' ⟨rfl, rfl⟩
      go_wp2
      go_ret
      exact ⟨retB (by rw [HV.out]), (Below.refl _ _).alloc (Nat.le_refl _) _⟩
  | false =>
    rw [hb] at HW
    have HV : Hid (rightB h x = false) := Lib.hid (by unfold rightB; rw [hb]; rfl)
    clear hb
    go_enter Try.func71, Try.ntmps71
    go_wp2_with fail
    refine (HW.out _).mono ?_
    rintro e w' ⟨rfl, rfl⟩
    go_wp2
    go_ret
    exact ⟨retB (by rw [HV.out]), (Below.refl _ _).alloc (Nat.le_refl _) _⟩


end Go.Proofs.Ytngbamoffjlodaa.Dw
/-
  What is asked of the landed frac, as words: the statements' walks lean on these alone. No statement is proved here.
-/
namespace Go.Proofs.Ytngbamoffjlodaa.Dw
open Go.RowKit

/-- which is less (the document's Compare's cmpI, by another name) -/
def cmpW (x y : Nat) : Int := if x < y then -1 else if y < x then 1 else 0
/-- a fraction by its number -/
def fq (N x : Nat) : Array Value := fr (N / 2 ^ 64) (N % 2 ^ 64) x
set_option maxRecDepth 100000 in
theorem fq_of {h l : Nat} (hl : l < 2 ^ 64) (x : Nat) : fq (h * 2 ^ 64 + l) x = fr h l x := by
  unfold fq
  rw [show (h * 2 ^ 64 + l) / 2 ^ 64 = h by omega, show (h * 2 ^ 64 + l) % 2 ^ 64 = l by omega]
set_option maxRecDepth 100000 in
theorem halves (N : Nat) (h : N < 2 ^ 128) : ∃ a b, N = a * 2 ^ 64 + b ∧ a < 2 ^ 64 ∧ b < 2 ^ 64 := ⟨N / 2 ^ 64, N % 2 ^ 64, by omega, by omega, by omega⟩
def rightN (N x : Nat) : Bool := weightB x && decide (N < 2 ^ 100)
set_option maxRecDepth 100000 in
theorem rightN_of {h l x : Nat} (hl : l < 2 ^ 64) : rightN (h * 2 ^ 64 + l) x = rightB h x := by
  unfold rightN rightB
  congr 1
  exact decide_eq_decide.2 (by omega)
set_option maxRecDepth 100000 in
theorem rightN_true {N x : Nat} (h : rightN N x = true) : 1 ≤ x ∧ x ≤ 65535 ∧ N < 2 ^ 100 := by
  unfold rightN at h
  simp only [Bool.and_eq_true, decide_eq_true_eq] at h
  exact ⟨(weightB_true h.1).1, (weightB_true h.1).2, h.2⟩
set_option maxRecDepth 100000 in
theorem rightN_yes {N x : Nat} (h1 : 1 ≤ x) (h2 : x ≤ 65535) (h3 : N < 2 ^ 100) : rightN N x = true := by
  unfold rightN
  rw [weightB_yes h1 h2, decide_eq_true h3]; rfl
def cmpR (N x M y : Nat) : Int := if (rightN N x && rightN M y) = true then cmpW (N * y) (M * x) else 0
/-- what is asked of the landed calls -/
def CheckOk : Prop := ∀ (N x : Nat) (u : World), N < 2 ^ 128 → x < 2 ^ 64 → Calls Try.prog 25 #[.agg (fq N x)] u (Said (.int .i64 (if rightN N x = true then 0 else 150)) u)
def CompareOk : Prop := ∀ (N x M y : Nat) (u : World), N < 2 ^ 128 → x < 2 ^ 64 → M < 2 ^ 128 → y < 2 ^ 64 → Calls Try.prog 27 #[.agg (fq N x), .agg (fq M y)] u (Said (.int .i64 (cmpR N x M y)) u)

/-! ### on the least number over another weight -/
set_option maxRecDepth 100000 in
theorem cmpW_lt {x y : Nat} (h : x < y) : cmpW x y = -1 := if_pos h
set_option maxRecDepth 100000 in
theorem cmpW_gt {x y : Nat} (h : y < x) : cmpW x y = 1 := by unfold cmpW; rw [if_neg (by omega), if_pos h]
set_option maxRecDepth 100000 in
theorem cmpW_eq {x y : Nat} (h : x = y) : cmpW x y = 0 := by unfold cmpW; rw [if_neg (by omega), if_neg (by omega)]
set_option maxRecDepth 100000 in
theorem cmpW_neg (x y : Nat) : cmpW x y = -cmpW y x := by
  rcases Nat.lt_trichotomy x y with h | h | h
  · rw [cmpW_lt h, cmpW_gt h]
  · rw [cmpW_eq h, cmpW_eq h.symm]; rfl
  · rw [cmpW_gt h, cmpW_lt h]; rfl

end Go.Proofs.Ytngbamoffjlodaa.Dw
/-
  The landed frac: isWeight, bounded, checkAll. No statement is proved here.
-/
namespace Go.Proofs.Ytngbamoffjlodaa.Dw
open Go.RowKit

set_option maxRecDepth 100000 in
set_option maxHeartbeats 400000 in
theorem weight_any (x : Nat) (w : World) : Calls Try.prog 76 #[.int .u64 (x : Int)] w fun e w' => e = .returned (.bool (weightB x)) ∧ w = w' := by
  by_cases h1 : 1 ≤ x
  · by_cases h2 : x ≤ 65535
    · have H := Lib.hid (weightB_yes h1 h2)
      have g1 : (1 : Int) ≤ (x : Int) := by omega
      have g2 : (x : Int) ≤ 65535 := by omega
      clear h1 h2
      go_enter Try.func76, Try.ntmps76
      go_wp2
      go_ret
      exact ⟨retB H.out.symm, rfl⟩
    · have H := Lib.hid (weightB_no (x := x) (.inr (by omega)))
      have g1 : (1 : Int) ≤ (x : Int) := by omega
      have g2 : ¬ (x : Int) ≤ 65535 := by omega
      clear h1 h2
      go_enter Try.func76, Try.ntmps76
      go_wp2
      go_ret
      exact ⟨retB H.out.symm, rfl⟩
  · have H := Lib.hid (weightB_no (x := x) (.inl (by omega)))
    have g1 : ¬ (1 : Int) ≤ (x : Int) := by omega
    clear h1
    go_enter Try.func76, Try.ntmps76
    go_wp2
    go_ret
    exact ⟨retB H.out.symm, rfl⟩

set_option maxRecDepth 100000 in
theorem retI {k : IntKind} {a b : Int} (h : a = b) : Ending.returned (.int k a) = .returned (.int k b) := by rw [h]
/-! ### a row of fractions -/
set_option maxRecDepth 100000 in
theorem block_of_add (a : Addr) (n : Nat) : (a.add n).block = a.block := by unfold Addr.add; split <;> rfl
set_option maxRecDepth 100000 in
theorem add_of_add (a : Addr) (i j : Nat) : (a.add i).add j = a.add (i + j) := by
  unfold Addr.add
  by_cases hi : i = 0 <;> by_cases hj : j = 0 <;> simp [hi, hj, Nat.add_assoc]

/-- the fractions l, as they lie from A on, below block B -/
def Frow (w : World) (B : Nat) (A : Option Addr) (l : List (Nat × Nat × Nat)) : Prop :=
  ∀ (k a b x : Nat), l[k]? = some (a, b, x) → ∃ ad, A = some ad ∧ ad.block < B ∧ w.cell? (ad.add (k * 3)) = some (.int .u64 (a : Int)) ∧
    w.cell? ⟨(ad.add (k * 3)).block, (ad.add (k * 3)).off + 1, none⟩ = some (.int .u64 (b : Int)) ∧ w.cell? ⟨(ad.add (k * 3)).block, (ad.add (k * 3)).off + 2, none⟩ = some (.int .u64 (x : Int))
set_option maxRecDepth 100000 in
theorem Frow.keep {w w' : World} {B : Nat} {A : Option Addr} {l : List (Nat × Nat × Nat)} (h : Frow w B A l) (hk : ∀ p : Addr, p.block < B → w'.cell? p = w.cell? p) : Frow w' B A l := fun k a b x hx => by
  obtain ⟨ad, e, hb, c0, c1, c2⟩ := h k a b x hx
  have hb' : (ad.add (k * 3)).block < B := by rw [block_of_add]; exact hb
  exact ⟨ad, e, hb, (hk _ hb').trans c0, (hk ⟨_, _, none⟩ hb').trans c1, (hk ⟨_, _, none⟩ hb').trans c2⟩
set_option maxRecDepth 100000 in
theorem Frow.below {w w' : World} {B B' : Nat} {A : Option Addr} {l : List (Nat × Nat × Nat)} (h : Frow w B A l) (hb : Below B' w w') (hB : B ≤ B') : Frow w' B A l := h.keep fun _ hp => hb.cell (Nat.lt_of_lt_of_le hp hB)
set_option maxRecDepth 100000 in
theorem Frow.more {w : World} {B B' : Nat} {A : Option Addr} {l : List (Nat × Nat × Nat)} (h : Frow w B A l) (hB : B ≤ B') : Frow w B' A l := fun k a b x hx => by
  obtain ⟨ad, e, hb, c⟩ := h k a b x hx
  exact ⟨ad, e, by omega, c⟩

/-- may all of them be? -/
def allB (l : List (Nat × Nat × Nat)) : Bool := l.all fun f => rightB f.1 f.2.2
def allE (l : List (Nat × Nat × Nat)) : Int := if allB l = true then 0 else 150
set_option maxRecDepth 100000 in
theorem all_no {l : List (Nat × Nat × Nat)} {k a b x : Nat} (hk : l[k]? = some (a, b, x)) (h : rightB a x = false) : allE l = 150 := by
  unfold allE
  rw [if_neg]
  intro ha
  unfold allB at ha
  rw [List.all_eq_true] at ha
  have := ha _ (List.mem_of_getElem? hk)
  rw [h] at this
  cases this
set_option maxRecDepth 100000 in
theorem all_yes {l : List (Nat × Nat × Nat)} (h : allB (l.take l.length) = true) : allE l = 0 := by
  rw [List.take_length] at h
  exact if_pos h
set_option maxRecDepth 100000 in
theorem all_step {l : List (Nat × Nat × Nat)} {k a b x : Nat} (hk : l[k]? = some (a, b, x)) (h : rightB a x = true) (ht : allB (l.take k) = true) : allB (l.take (k + 1)) = true := by
  unfold allB at ht ⊢
  rw [List.take_add_one, hk, List.all_append, ht]
  simp [h]
set_option maxRecDepth 100000 in
set_option maxHeartbeats 4000000 in
theorem checkall_any (A : Option Addr) (n c : Nat) (l : List (Nat × Nat × Nat)) (w : World) (hl : l.length = n) (hn : n ≤ maxLen) (hr : Frow w w.heap.size A l) :
    Calls Try.prog 55 #[.slice A n c] w (Said (.int .i64 (allE l)) w) := by
  unfold maxLen at hn
  have HR := Lib.hid hr
  have HL := Lib.hid hl
  have HW := Lib.hid (fun x u => weight_any x u)
  clear hr hl
  go_enter Try.func55, Try.ntmps55
  go_wp2_with fail
  go_loopw [7] (fun i wr => ∃ k : Nat, k ≤ n ∧ i = .int .i64 k ∧ Hid (allB (l.take k) = true) ∧ Below w.heap.size w wr) (fun i _ => n - (intOf i).toNat)
  case atStart => exact ⟨0, by omega, rfl, Lib.hid (by rw [List.take_zero]; rfl), Below.refl _ _⟩
  case round =>
    obtain ⟨k, hk, rfl, HA, hB⟩ := hrel
    by_cases hlt : k < n
    · obtain ⟨⟨a, b, x⟩, hm⟩ : ∃ m, l[k]? = some m := ⟨_, List.getElem?_eq_getElem (by have := HL.out; omega)⟩
      obtain ⟨ad, rfl, hb, d0, d1, d2⟩ := (HR.out.below hB (Nat.le_refl _)) k a b x hm
      have HM := Lib.hid hm
      have hsz := hB.size
      clear hm
      by_cases hh : a < 68719476736
      · have g : decide ((68719476736 : Int) ≤ (a : Int)) = false := by simp; omega
        cases hw : weightB x with
        | true =>
          have HS := Lib.hid (all_step HM.out (by unfold rightB; rw [hw]; simp [hh]) HA.out)
          have HWx := Lib.hid (fun u => hw ▸ HW.out x u)
          clear hh hw
          go_wp2_with fail
          refine (HWx.out _).mono ?_
          rintro e w' ⟨rfl, rfl⟩
          go_wp2
          go_roundw
          case rel => exact ⟨k + 1, by omega, by go_num, HS, hB.alloc hsz _⟩
          case measure => simp [intOf]; omega
        | false =>
          have HV := Lib.hid (all_no HM.out (by unfold rightB; rw [hw]; rfl))
          have HWx := Lib.hid (fun u => hw ▸ HW.out x u)
          clear hh hw
          go_wp2_with fail
          refine (HWx.out _).mono ?_
          rintro e w' ⟨rfl, rfl⟩
          go_wp2
          go_ret
          exact ⟨retI HV.out.symm, hB.alloc hsz _⟩
      · have g : decide ((68719476736 : Int) ≤ (a : Int)) = true := by simp; omega
        have HV := Lib.hid (all_no HM.out (by unfold rightB; simp [hh]))
        clear hh
        go_wp2
        go_ret
        exact ⟨retI HV.out.symm, hB.alloc hsz _⟩
    · obtain rfl : n = k := by omega
      have HV := Lib.hid (all_yes (l := l) (by rw [HL.out]; exact HA.out))
      go_wp2
      go_ret
      exact ⟨retI HV.out.symm, hB⟩

end Go.Proofs.Ytngbamoffjlodaa.Dw
/-
  The landed frac: what is worth more, more, lifted. No statement is proved here.
-/
namespace Go.Proofs.Ytngbamoffjlodaa.Dw
open Go.RowKit

set_option maxRecDepth 100000 in
theorem cmpZ_cmpW {ah al bh bl : Nat} (hal : al < 18446744073709551616) (hbl : bl < 18446744073709551616) :
    cmpZ (qf ah al) (qf bh bl) = cmpW (ah * 18446744073709551616 + al) (bh * 18446744073709551616 + bl) := by
  unfold cmpZ cmpW
  simp only [qf]
  split
  · rw [if_pos (by omega)]
  · split
    · rw [if_neg (by omega), if_pos (by omega)]
    · split
      · rw [if_pos (by omega)]
      · split
        · rw [if_neg (by omega), if_pos (by omega)]
        · split
          · rw [if_pos (by omega)]
          · split
            · rw [if_neg (by omega), if_pos (by omega)]
            · split
              · rw [if_pos (by omega)]
              · split
                · rw [if_neg (by omega), if_pos (by omega)]
                · rw [if_neg (by omega), if_neg (by omega)]
set_option maxRecDepth 100000 in
/-- a number in two words -/
theorem words (N : Nat) (h : N < 2 ^ 128) : ∃ a b, N = a * 18446744073709551616 + b ∧ a < 18446744073709551616 ∧ b < 18446744073709551616 := ⟨N / 18446744073709551616, N % 18446744073709551616, by omega, by omega, by omega⟩
set_option maxRecDepth 100000 in
theorem scale_one (a m : Nat) : scaleN a m 1 true = a * m := by rw [scaleN_even true (Nat.mod_one _), Nat.div_one]
set_option maxRecDepth 100000 in
theorem prod_small {a m : Nat} (ha : a < 2 ^ 104) (hm : m ≤ 65535) : a * m < 2 ^ 120 := Nat.lt_of_le_of_lt (Nat.mul_le_mul (Nat.le_of_lt ha) hm) (by decide)
set_option maxRecDepth 100000 in
theorem num_of {n h l : Nat} (e : n = h * 18446744073709551616 + l) (h1 : h < 18446744073709551616) (h2 : l < 18446744073709551616) : Num n h l 0 := .inl ⟨rfl, e, h1, h2⟩

set_option maxRecDepth 100000 in
set_option maxHeartbeats 4000000 in
theorem vcompare_any (ah al ax bh bl bx : Nat) (w : World) (hah : ah < 2 ^ 64) (hal : al < 2 ^ 64) (hax : ax ≤ 65535) (hbh : bh < 2 ^ 64) (hbl : bl < 2 ^ 64) (hbx : bx ≤ 65535)
    (hA : ah * 2 ^ 64 + al < 2 ^ 104) (hB : bh * 2 ^ 64 + bl < 2 ^ 104) :
    Calls Try.prog 56 #[.agg (fr ah al ax), .agg (fr bh bl bx)] w (Said (.int .i64 (cmpW ((ah * 2 ^ 64 + al) * bx) ((bh * 2 ^ 64 + bl) * ax))) w) := by
  obtain ⟨ph, pl, e1, e2, e3⟩ := words ((ah * 2 ^ 64 + al) * bx) (by have := prod_small hA hbx; omega)
  obtain ⟨qh, ql, f1, f2, f3⟩ := words ((bh * 2 ^ 64 + bl) * ax) (by have := prod_small hB hax; omega)
  have HS : Hid (∀ u, Calls Try.prog 77 #[.agg #[.int .u64 (ah : Int), .int .u64 (al : Int)], .int .u64 (bx : Int), .int .u64 1] u (Ans (.tuple #[.agg #[.int .u64 (ph : Int), .int .u64 (pl : Int)], .int .i64 0]) u)) :=
    Lib.hid (fun u => scale_any ah al bx 1 ph pl 0 hah hal (by omega) (by omega) (by omega) (num_of ((scale_one _ _).trans e1) e2 e3) u)
  have HT : Hid (∀ u, Calls Try.prog 77 #[.agg #[.int .u64 (bh : Int), .int .u64 (bl : Int)], .int .u64 (ax : Int), .int .u64 1] u (Ans (.tuple #[.agg #[.int .u64 (qh : Int), .int .u64 (ql : Int)], .int .i64 0]) u)) :=
    Lib.hid (fun u => scale_any bh bl ax 1 qh ql 0 hbh hbl (by omega) (by omega) (by omega) (num_of ((scale_one _ _).trans f1) f2 f3) u)
  have HC := Lib.hid (fun u => compare_any ph pl qh ql _ (cmpZ_cmpW e3 f3) e2 e3 f2 f3 u)
  rw [← e1, ← f1] at HC
  obtain ⟨r, hr⟩ : ∃ r, cmpW ((ah * 2 ^ 64 + al) * bx) ((bh * 2 ^ 64 + bl) * ax) = r := ⟨_, rfl⟩
  rw [hr] at HC ⊢
  obtain ⟨b1, b2, bb⟩ := blks2 w 93 93 (fr ah al ax) (fr bh bl bx)
  have HB := Lib.hid (And.intro b1 (And.intro b2 bb))
  clear e1 e2 e3 f1 f2 f3 hah hal hax hbh hbl hbx hA hB hr b1 b2 bb
  unfold fr at *
  go_enter Try.func56, Try.ntmps56
  go_wp2_with fail
  refine (HS.out _).mono ?_
  rintro e w1 ⟨rfl, h1⟩
  have K1 := HB.out.1.below h1 HB.out.1.lt
  have K2 := HB.out.2.1.below h1 HB.out.2.1.lt
  have GB := HB.out.2.2.trans (h1.mono HB.out.2.2.size)
  clear h1 HB
  have S1 := Blk.new w1 43 #[.int .u64 (ph : Int), .int .u64 (pl : Int)]
  replace K1 := K1.alloc (.cells #[.int .u64 (ph : Int), .int .u64 (pl : Int)] 43)
  replace K2 := K2.alloc (.cells #[.int .u64 (ph : Int), .int .u64 (pl : Int)] 43)
  replace GB := GB.alloc GB.size (.cells #[.int .u64 (ph : Int), .int .u64 (pl : Int)] 43)
  have c0 := K1.cell 0
  have c1 := K1.cell 1
  have c2 := K1.cell 2
  have d0 := K2.cell 0
  have d1 := K2.cell 1
  have d2 := K2.cell 2
  go_wp2_with fail
  refine (HT.out _).mono ?_
  rintro e w2 ⟨rfl, h2⟩
  replace S1 := S1.below h2 S1.lt
  replace GB := GB.trans (h2.mono GB.size)
  have sl := S1.lt
  clear h2 c0 c1 c2 d0 d1 d2 K1 K2
  have S2 := Blk.new w2 43 #[.int .u64 (qh : Int), .int .u64 (ql : Int)]
  replace S1 := S1.alloc (.cells #[.int .u64 (qh : Int), .int .u64 (ql : Int)] 43)
  replace GB := GB.alloc GB.size (.cells #[.int .u64 (qh : Int), .int .u64 (ql : Int)] 43)
  have c0 := S1.cell 0
  have c1 := S1.cell 1
  have d0 := S2.cell 0
  have d1 := S2.cell 1
  go_wp2_with fail
  refine (HC.out _).mono ?_
  rintro e w3 ⟨rfl, h3⟩
  replace GB := GB.trans (h3.mono GB.size)
  clear S1 S2 c0 c1 d0 d1 sl h3
  go_wp2
  go_ret
  exact ⟨rfl, GB⟩

set_option maxRecDepth 100000 in
theorem cmpW_pos (x y : Nat) : decide (0 < cmpW x y) = decide (y < x) := by
  rcases Nat.lt_trichotomy x y with h | h | h
  · rw [cmpW_lt h]; simp; omega
  · rw [cmpW_eq h]; simp; omega
  · rw [cmpW_gt h]; simp; omega
set_option maxRecDepth 100000 in
set_option maxHeartbeats 4000000 in
theorem vabove_any (ah al ax bh bl bx : Nat) (w : World) (hah : ah < 2 ^ 64) (hal : al < 2 ^ 64) (hax : ax ≤ 65535) (hbh : bh < 2 ^ 64) (hbl : bl < 2 ^ 64) (hbx : bx ≤ 65535)
    (hA : ah * 2 ^ 64 + al < 2 ^ 104) (hB : bh * 2 ^ 64 + bl < 2 ^ 104) :
    Calls Try.prog 80 #[.agg (fr ah al ax), .agg (fr bh bl bx)] w (Said (.bool (decide ((bh * 2 ^ 64 + bl) * ax < (ah * 2 ^ 64 + al) * bx))) w) := by
  have HC := Lib.hid (fun u => vcompare_any ah al ax bh bl bx u hah hal hax hbh hbl hbx hA hB)
  have hp := cmpW_pos ((ah * 2 ^ 64 + al) * bx) ((bh * 2 ^ 64 + bl) * ax)
  rw [← hp]
  generalize cmpW ((ah * 2 ^ 64 + al) * bx) ((bh * 2 ^ 64 + bl) * ax) = r at *
  obtain ⟨b1, b2, bb⟩ := blks2 w 93 93 (fr ah al ax) (fr bh bl bx)
  clear hah hal hax hbh hbl hbx hA hB hp
  unfold fr at *
  have c0 := b1.cell 0
  have c1 := b1.cell 1
  have c2 := b1.cell 2
  have d0 := b2.cell 0
  have d1 := b2.cell 1
  have d2 := b2.cell 2
  have HB := Lib.hid bb
  clear b1 b2 bb
  go_enter Try.func80, Try.ntmps80
  go_wp2_with fail
  refine (HC.out _).mono ?_
  rintro e w3 ⟨rfl, h3⟩
  have GB := HB.out.trans (h3.mono HB.out.size)
  clear c0 c1 c2 d0 d1 d2 h3
  go_wp2
  go_ret
  exact ⟨rfl, GB⟩



end Go.Proofs.Ytngbamoffjlodaa.Dw
/-
  The landed frac: Check, Of, Compare, Over, Whole. No statement is proved here.
-/
namespace Go.Proofs.Ytngbamoffjlodaa.Dw
open Go.RowKit

set_option maxRecDepth 100000 in
theorem frow1 {u : World} {g : Nat} {t : TypeId} {a b x : Nat} (h : Blk u g t #[.int .u64 (a : Int), .int .u64 (b : Int), .int .u64 (x : Int)]) : Frow u u.heap.size (some ⟨g, 0, none⟩) [(a, b, x)] := fun k p q r hk => by
  have hk0 : k = 0 := by
    have := (List.getElem?_eq_some_iff.1 hk).1
    simp at this
    exact this
  subst hk0
  simp only [List.getElem?_cons_zero, Option.some.injEq, Prod.mk.injEq] at hk
  obtain ⟨rfl, rfl, rfl⟩ := hk
  exact ⟨_, rfl, h.lt, h.cell 0, h.cell 1, h.cell 2⟩
set_option maxRecDepth 100000 in
theorem frow2 {u : World} {g : Nat} {t : TypeId} {a b x a' b' x' : Nat} (h : Blk u g t #[.int .u64 (a : Int), .int .u64 (b : Int), .int .u64 (x : Int), .int .u64 (a' : Int), .int .u64 (b' : Int), .int .u64 (x' : Int)]) :
    Frow u u.heap.size (some ⟨g, 0, none⟩) [(a, b, x), (a', b', x')] := fun k p q r hk => by
  have hk0 : k = 0 ∨ k = 1 := by
    have := (List.getElem?_eq_some_iff.1 hk).1
    simp at this
    omega
  rcases hk0 with rfl | rfl
  · simp only [List.getElem?_cons_zero, Option.some.injEq, Prod.mk.injEq] at hk
    obtain ⟨rfl, rfl, rfl⟩ := hk
    exact ⟨_, rfl, h.lt, h.cell 0, h.cell 1, h.cell 2⟩
  · simp only [List.getElem?_cons_succ, List.getElem?_cons_zero, Option.some.injEq, Prod.mk.injEq] at hk
    obtain ⟨rfl, rfl, rfl⟩ := hk
    exact ⟨_, rfl, h.lt, h.cell 3, h.cell 4, h.cell 5⟩
/-- may one be, may two be -/
def chk (h x : Nat) : Int := if rightB h x = true then 0 else 150
def chk2 (h x h' x' : Nat) : Int := if (rightB h x && rightB h' x') = true then 0 else 150
set_option maxRecDepth 100000 in
theorem check1 (h l x : Nat) (u : World) (g : Nat) (t : TypeId) (hb : Blk u g t #[.int .u64 (h : Int), .int .u64 (l : Int), .int .u64 (x : Int)]) :
    Calls Try.prog 55 #[.slice (some ⟨g, 0, none⟩) 1 1] u (Said (.int .i64 (chk h x)) u) := by
  have := checkall_any (some ⟨g, 0, none⟩) 1 1 [(h, l, x)] u rfl (by unfold maxLen; omega) (frow1 hb)
  rw [show allE [(h, l, x)] = chk h x by unfold allE allB chk; simp] at this
  exact this
set_option maxRecDepth 100000 in
theorem check2 (h l x h' l' x' : Nat) (u : World) (g : Nat) (t : TypeId) (hb : Blk u g t #[.int .u64 (h : Int), .int .u64 (l : Int), .int .u64 (x : Int), .int .u64 (h' : Int), .int .u64 (l' : Int), .int .u64 (x' : Int)]) :
    Calls Try.prog 55 #[.slice (some ⟨g, 0, none⟩) 2 2] u (Said (.int .i64 (chk2 h x h' x')) u) := by
  have := checkall_any (some ⟨g, 0, none⟩) 2 2 [(h, l, x), (h', l', x')] u rfl (by unfold maxLen; omega) (frow2 hb)
  rw [show allE [(h, l, x), (h', l', x')] = chk2 h x h' x' by unfold allE allB chk2; simp] at this
  exact this
set_option maxRecDepth 100000 in
theorem right_parts {h x : Nat} (hr : rightB h x = true) : 1 ≤ x ∧ x ≤ 65535 ∧ h < 68719476736 := by
  unfold rightB at hr
  simp only [Bool.and_eq_true, decide_eq_true_eq] at hr
  exact ⟨(weightB_true hr.1).1, (weightB_true hr.1).2, hr.2⟩

set_option maxRecDepth 100000 in
set_option maxHeartbeats 2000000 in
theorem check_ok : CheckOk := by
  intro N x w hN hx
  obtain ⟨h, l, e, hh, hl⟩ := halves N hN
  rw [show fq N x = fr h l x by rw [e]; exact fq_of hl x, show rightN N x = rightB h x by rw [e]; exact rightN_of hl]
  obtain ⟨b1, b2, bb⟩ := blks2 w 45 45 (fr h l x) (fr h l x)
  have HC := Lib.hid (check1 h l x _ _ _ b2)
  have HB := Lib.hid bb
  change Calls _ _ _ _ (Said (.int .i64 (chk h x)) w)
  generalize chk h x = p at *
  clear e hh hl hx hN b1 b2 bb
  unfold fr at *
  go_enter Try.func25, Try.ntmps25
  go_wp2_with fail
  refine HC.out.mono ?_
  rintro e w1 ⟨rfl, h1⟩
  go_wp2
  go_ret
  exact ⟨rfl, HB.out.trans (h1.mono HB.out.size)⟩


set_option maxRecDepth 100000 in
set_option maxHeartbeats 4000000 in
theorem compare_ok : CompareOk := by
  intro N x M y w hN hx hM hy
  obtain ⟨h, l, e, hh, hl⟩ := halves N hN
  obtain ⟨g, j, e', hg, hj⟩ := halves M hM
  unfold cmpR
  rw [show fq N x = fr h l x by rw [e]; exact fq_of hl x, show rightN N x = rightB h x by rw [e]; exact rightN_of hl, show fq M y = fr g j y by rw [e']; exact fq_of hj y, show rightN M y = rightB g y by rw [e']; exact rightN_of hj]
  obtain ⟨b1, b2, b3, bb⟩ := blks3 w 45 45 45 (fr h l x) (fr g j y) #[.int .u64 (h : Int), .int .u64 (l : Int), .int .u64 (x : Int), .int .u64 (g : Int), .int .u64 (j : Int), .int .u64 (y : Int)]
  have HC := Lib.hid (check2 h l x g j y _ _ _ b3)
  have HB := Lib.hid (And.intro b1 (And.intro b2 bb))
  by_cases hr : (rightB h x && rightB g y) = true
  · rw [if_pos hr]
    rw [show chk2 h x g y = 0 from if_pos hr] at HC
    obtain ⟨r1, r2⟩ := Bool.and_eq_true_iff.1 hr
    have q1 := right_parts r1
    have q2 := right_parts r2
    have HV := Lib.hid (fun u => vcompare_any h l x g j y u hh hl q1.2.1 hg hj q2.2.1 (by omega) (by omega))
    rw [← e, ← e'] at HV
    generalize cmpW (N * y) (M * x) = r at *
    clear e e' hh hl hg hj hx hy hN hM hr r1 r2 q1 q2 b1 b2 b3 bb
    unfold fr at *
    go_enter Try.func27, Try.ntmps27
    go_wp2_with fail
    refine HC.out.mono ?_
    rintro e w1 ⟨rfl, h1⟩
    have K1 := HB.out.1.below h1 HB.out.1.lt
    have K2 := HB.out.2.1.below h1 HB.out.2.1.lt
    have B := HB.out.2.2.trans (h1.mono HB.out.2.2.size)
    clear HB h1
    have c0 := K1.cell 0
    have c1 := K1.cell 1
    have c2 := K1.cell 2
    have d0 := K2.cell 0
    have d1 := K2.cell 1
    have d2 := K2.cell 2
    clear K1 K2
    go_wp2_with fail
    refine (HV.out _).mono ?_
    rintro e w2 ⟨rfl, h2⟩
    replace B := B.trans (h2.mono B.size)
    clear h2 c0 c1 c2 d0 d1 d2
    go_wp2
    go_ret
    exact ⟨rfl, B⟩
  · rw [if_neg hr]
    rw [show chk2 h x g y = 150 from if_neg hr] at HC
    clear e e' hh hl hg hj hx hy hN hM hr b1 b2 b3 bb
    unfold fr at *
    go_enter Try.func27, Try.ntmps27
    go_wp2_with fail
    refine HC.out.mono ?_
    rintro e w1 ⟨rfl, h1⟩
    have B := HB.out.2.2.trans (h1.mono HB.out.2.2.size)
    clear HB h1
    go_wp2
    go_ret
    exact ⟨rfl, B⟩


end Go.Proofs.Ytngbamoffjlodaa.Dw
