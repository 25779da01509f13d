/-
  The contracts of the landed wide's sums, differences and products. No statement is proved here.
-/
import Derived.Test.YtfgabmelmopgdaaBl
import Derived.WalkSpells
import Derived.WalkLawsBesides
import Derived.RegionTactic
import Derived.Deep.QuietTactic
import Derived.BigQuiet
import Derived.Lib.Hide
import Derived.Lib.Mul64
import Derived.Laws.Bits64b
import Derived.Laws.Externs
import Derived.OwnWalk
namespace Go.Proofs.Ytfgabmelmopgdaa
open Go.RowKit

/-- a value answered; what was there has not turned -/
def Ans (v : Value) (w : World) (e : Ending) (w' : World) : Prop := e = .returned v ∧ Below w.heap.size w w'

set_option maxRecDepth 100000 in
theorem below_pair {B g : Nat} {a w : World} {x y : Value} (h : Below B a w) (hg : B ≤ g) : Below B a ((w.setCell ⟨g, 0, none⟩ x).setCell ⟨g, 1, none⟩ y) := (h.setCell hg x).setCell hg y

set_option maxRecDepth 100000 in
theorem run_plus (x y c : Nat) (hc : c ≤ 1) (w : World) : (callFunc 88 #[.int .u64 (x : Int), .int .u64 (y : Int), .int .u64 (c : Int)]).run Try.prog w =
    .ok (.value (.tuple #[.int .u64 (((x + y + c) % 18446744073709551616 : Nat) : Int), .int .u64 (((x + y + c) / 18446744073709551616 : Nat) : Int)])) w := by
  rw [run_callFunc_extern Try.func88 (by kernel_rfl) (by kernel_rfl) (by kernel_rfl) (e := add64Entry) (by kernel_rfl), run_add64 x y c (by omega) (by omega) (by omega) (by omega)]
  simp only [Result.andThen]
  congr 5 <;> omega

def lessEntry : Array Value → Sem Value := fun args => do
  let (x, y, b) ← Extern.MathBitsCarry.three "Sub64" args
  pure (Extern.MathBitsCarry.pair ((x + Extern.MathBitsCarry.m64 - y - b) % Extern.MathBitsCarry.m64) (if x < y + b then 1 else 0))
set_option maxRecDepth 100000 in
theorem run_minus (x y b : Nat) (hb : b ≤ 1) (w : World) : (callFunc 89 #[.int .u64 (x : Int), .int .u64 (y : Int), .int .u64 (b : Int)]).run Try.prog w =
    .ok (.value (.tuple #[.int .u64 (((x + 18446744073709551616 - y - b) % 18446744073709551616 : Nat) : Int), .int .u64 ((if x < y + b then 1 else 0 : Nat) : Int)])) w := by
  rw [run_callFunc_extern Try.func89 (by kernel_rfl) (by kernel_rfl) (by kernel_rfl) (e := lessEntry) (by kernel_rfl)]
  have : b = 0 ∨ b = 1 := by omega
  rcases this with rfl | rfl <;> rfl

set_option maxRecDepth 100000 in
theorem lowN (a : Nat) (ha : a < 18446744073709551616) : bits .and .u64 (a : Int) 4294967295 = ((a % 4294967296 : Nat) : Int) := by
  have h := bits_and_u64_nat a 4294967295 ha (by omega)
  rw [show a &&& 4294967295 = a % 4294967296 from Nat.and_two_pow_sub_one_eq_mod a 32] at h
  exact h
set_option maxRecDepth 100000 in
theorem highN (a : Nat) : (a : Int) / 4294967296 = ((a / 4294967296 : Nat) : Int) := by omega
set_option maxRecDepth 100000 in
theorem prodN (a b : Nat) : (a : Int) * (b : Int) = ((a * b : Nat) : Int) := (Int.natCast_mul a b).symm
set_option maxRecDepth 100000 in
theorem plusN (a b : Nat) : (a : Int) + (b : Int) = ((a + b : Nat) : Int) := (Int.natCast_add a b).symm
set_option maxRecDepth 100000 in
theorem keepN (a : Nat) (ha : a < 18446744073709551616) : IntKind.u64.wrap (a : Int) = (a : Int) := by rw [IntKind.wrap_u64]; omega
set_option maxRecDepth 100000 in
theorem cutN (a : Nat) : IntKind.u64.wrap (a : Int) = ((a % 18446744073709551616 : Nat) : Int) := by rw [IntKind.wrap_u64]; omega

set_option maxRecDepth 100000 in
set_option maxHeartbeats 1000000 in
theorem mul64_any (x y : Nat) (hx : x < 18446744073709551616) (hy : y < 18446744073709551616) (w : World) :
    Calls Try.prog 101 #[.int .u64 (x : Int), .int .u64 (y : Int)] w fun e w' => e = .returned (.tuple #[.int .u64 ((x * y / 18446744073709551616 : Nat) : Int), .int .u64 ((x * y % 18446744073709551616 : Nat) : Int)]) ∧ w = w' := by
  obtain ⟨b1, b2, b3, hhi⟩ := Lib.mul64_hi x y hx hy
  have hxl : x % 4294967296 ≤ 4294967295 := by omega
  have hyl : y % 4294967296 ≤ 4294967295 := by omega
  have hxh : x / 4294967296 ≤ 4294967295 := by omega
  have hyh : y / 4294967296 ≤ 4294967295 := by omega
  have q1 := Lib.half_mul_le hxh hyh
  have q2 := Lib.half_mul_le hxh hyl
  have q3 := Lib.half_mul_le hxl hyh
  have c1 : x / 4294967296 * (y / 4294967296) < 18446744073709551616 := by omega
  have c2 : x / 4294967296 * (y % 4294967296) < 18446744073709551616 := by omega
  have c3 : x % 4294967296 * (y / 4294967296) < 18446744073709551616 := by omega
  have c4 : x / 4294967296 * (y / 4294967296) + (x / 4294967296 * (y % 4294967296) + x % 4294967296 * (y % 4294967296) / 4294967296) / 4294967296 < 18446744073709551616 := by omega
  have c5 : x / 4294967296 * (y / 4294967296) + (x / 4294967296 * (y % 4294967296) + x % 4294967296 * (y % 4294967296) / 4294967296) / 4294967296 + ((x / 4294967296 * (y % 4294967296) + x % 4294967296 * (y % 4294967296) / 4294967296) % 4294967296 + x % 4294967296 * (y / 4294967296)) / 4294967296 < 18446744073709551616 := by omega
  go_enter Try.func101, Try.ntmps101
  go_wp2
  simp only [lowN x hx, lowN y hy, highN, prodN, plusN, keepN _ b1, keepN _ c2, keepN _ b2, lowN _ b2, keepN _ c3, keepN _ b3, keepN _ c1, keepN _ c4, keepN _ c5, cutN (x * y)]
  rw [hhi]
  go_ret2
  exact ⟨rfl, rfl⟩

set_option maxRecDepth 100000 in
theorem of_wide (n : Nat) (w : World) : Calls Try.prog 63 #[.int .u64 (n : Int)] w (Ans (.agg #[.int .u64 0, .int .u64 (n : Int)]) w) := by
  go_enter Try.func63, Try.ntmps63
  go_wp2
  exact bodyPost_ret (v := .agg #[.int .u64 0, .int .u64 (n : Int)]) (by simp [results, Try.results63, go_sem]) rfl ⟨rfl, (Below.refl _ _).alloc (Nat.le_refl _) _⟩

set_option maxRecDepth 100000 in
theorem mul_any (x y h l : Nat) (hx : x < 18446744073709551616) (hy : y < 18446744073709551616) (hl : l < 18446744073709551616) (hp : x * y = h * 18446744073709551616 + l) (w : World) :
    Calls Try.prog 86 #[.int .u64 (x : Int), .int .u64 (y : Int)] w (Ans (.agg #[.int .u64 (h : Int), .int .u64 (l : Int)]) w) := by
  have HM := Lib.hid (fun u => mul64_any x y hx hy u)
  rw [hp, show (h * 18446744073709551616 + l) / 18446744073709551616 = h by omega, show (h * 18446744073709551616 + l) % 18446744073709551616 = l by omega] at HM
  clear hx hy hl hp
  go_enter Try.func86, Try.ntmps86
  go_wp2_with fail
  refine (HM.out _).mono ?_
  rintro e w' ⟨rfl, rfl⟩
  go_wp2
  exact bodyPost_ret (v := .agg #[.int .u64 (h : Int), .int .u64 (l : Int)]) (by simp [results, Try.results86, go_sem]) rfl ⟨rfl, (Below.refl _ _).alloc (Nat.le_refl _) _⟩

section
variable (ah al bh bl rh rl : Nat)
set_option maxRecDepth 100000 in
theorem plus_lo {c : Nat} (hc : c ≤ 1) (h1 : (al + bl + c) % 18446744073709551616 = rl) {d : Nat} (h2 : (al + bl + c) / 18446744073709551616 = d) (u : World) :
    (callFunc 88 #[.int .u64 (al : Int), .int .u64 (bl : Int), .int .u64 (c : Int)]).run Try.prog u = .ok (.value (.tuple #[.int .u64 (rl : Int), .int .u64 (d : Int)])) u := by
  have := run_plus al bl c hc u
  rw [h1, h2] at this
  exact this
set_option maxRecDepth 100000 in
theorem plus_first (h1 : (al + bl) % 18446744073709551616 = rl) {d : Nat} (h2 : (al + bl) / 18446744073709551616 = d) (u : World) :
    (callFunc 88 #[.int .u64 (al : Int), .int .u64 (bl : Int), .int .u64 0]).run Try.prog u = .ok (.value (.tuple #[.int .u64 (rl : Int), .int .u64 (d : Int)])) u := plus_lo al bl rl (c := 0) (by omega) h1 h2 u
set_option maxRecDepth 100000 in
theorem plus_last0 {c : Nat} (hc : c ≤ 1) (h1 : (al + bl + c) % 18446744073709551616 = rl) (h2 : (al + bl + c) / 18446744073709551616 = 0) (u : World) :
    (callFunc 88 #[.int .u64 (al : Int), .int .u64 (bl : Int), .int .u64 (c : Int)]).run Try.prog u = .ok (.value (.tuple #[.int .u64 (rl : Int), .int .u64 0])) u := plus_lo al bl rl hc h1 h2 u
set_option maxRecDepth 100000 in
theorem plus_last1 {c : Nat} (hc : c ≤ 1) (h1 : (al + bl + c) % 18446744073709551616 = rl) (h2 : (al + bl + c) / 18446744073709551616 = 1) (u : World) :
    (callFunc 88 #[.int .u64 (al : Int), .int .u64 (bl : Int), .int .u64 (c : Int)]).run Try.prog u = .ok (.value (.tuple #[.int .u64 (rl : Int), .int .u64 1])) u := plus_lo al bl rl hc h1 h2 u
set_option maxRecDepth 100000 in
theorem minus_lo {b : Nat} (hb : b ≤ 1) (h1 : (al + 18446744073709551616 - bl - b) % 18446744073709551616 = rl) {d : Nat} (h2 : (if al < bl + b then 1 else 0 : Nat) = d) (u : World) :
    (callFunc 89 #[.int .u64 (al : Int), .int .u64 (bl : Int), .int .u64 (b : Int)]).run Try.prog u = .ok (.value (.tuple #[.int .u64 (rl : Int), .int .u64 (d : Int)])) u := by
  have := run_minus al bl b hb u
  rw [h1, h2] at this
  exact this
set_option maxRecDepth 100000 in
theorem minus_first (h1 : (al + 18446744073709551616 - bl) % 18446744073709551616 = rl) {d : Nat} (h2 : (if al < bl then 1 else 0 : Nat) = d) (u : World) :
    (callFunc 89 #[.int .u64 (al : Int), .int .u64 (bl : Int), .int .u64 0]).run Try.prog u = .ok (.value (.tuple #[.int .u64 (rl : Int), .int .u64 (d : Int)])) u := minus_lo al bl rl (b := 0) (by omega) h1 h2 u
set_option maxRecDepth 100000 in
theorem minus_last0 {b : Nat} (hb : b ≤ 1) (h1 : (al + 18446744073709551616 - bl - b) % 18446744073709551616 = rl) (h2 : bl + b ≤ al) (u : World) :
    (callFunc 89 #[.int .u64 (al : Int), .int .u64 (bl : Int), .int .u64 (b : Int)]).run Try.prog u = .ok (.value (.tuple #[.int .u64 (rl : Int), .int .u64 0])) u := minus_lo al bl rl hb h1 (if_neg (by omega)) u
set_option maxRecDepth 100000 in
theorem minus_last1 {b : Nat} (hb : b ≤ 1) (h1 : (al + 18446744073709551616 - bl - b) % 18446744073709551616 = rl) (h2 : al < bl + b) (u : World) :
    (callFunc 89 #[.int .u64 (al : Int), .int .u64 (bl : Int), .int .u64 (b : Int)]).run Try.prog u = .ok (.value (.tuple #[.int .u64 (rl : Int), .int .u64 1])) u := minus_lo al bl rl hb h1 (if_pos h2) u
end

set_option maxRecDepth 100000 in
theorem add_fits (ah al bh bl rh rl : Nat) (hal : al < 18446744073709551616) (hbl : bl < 18446744073709551616) (hrl : rl < 18446744073709551616) (hrh : rh < 18446744073709551616)
    (h : ah * 18446744073709551616 + al + (bh * 18446744073709551616 + bl) = rh * 18446744073709551616 + rl) (w : World) :
    Calls Try.prog 62 #[.agg #[.int .u64 (ah : Int), .int .u64 (al : Int)], .agg #[.int .u64 (bh : Int), .int .u64 (bl : Int)]] w (Ans (.tuple #[.agg #[.int .u64 (rh : Int), .int .u64 (rl : Int)], .int .i64 0]) w) := by
  obtain ⟨c, hc⟩ : ∃ c, (al + bl) / 18446744073709551616 = c := ⟨_, rfl⟩
  have r1 := fun u => plus_first al bl rl (by omega) hc u
  have r2 := fun u => plus_last0 ah bh rh (c := c) (by omega) (by omega) (by omega) u
  clear hc h
  go_enter Try.func62, Try.ntmps62
  go_wp2
  exact bodyPost_ret (v := .tuple #[.agg #[.int .u64 (rh : Int), .int .u64 (rl : Int)], .int .i64 0]) (by simp [results, Try.results62, go_sem]) rfl ⟨rfl, (blks3 w _ _ _ _ _ _).2.2.2⟩

set_option maxRecDepth 100000 in
theorem add_over (ah al bh bl : Nat) (hal : al < 18446744073709551616) (hbl : bl < 18446744073709551616) (hah : ah < 18446744073709551616) (hbh : bh < 18446744073709551616)
    (h : 340282366920938463463374607431768211456 ≤ ah * 18446744073709551616 + al + (bh * 18446744073709551616 + bl)) (w : World) :
    Calls Try.prog 62 #[.agg #[.int .u64 (ah : Int), .int .u64 (al : Int)], .agg #[.int .u64 (bh : Int), .int .u64 (bl : Int)]] w (Ans (.tuple #[.agg #[.int .u64 0, .int .u64 0], .int .i64 131]) w) := by
  obtain ⟨c, hc⟩ : ∃ c, (al + bl) / 18446744073709551616 = c := ⟨_, rfl⟩
  obtain ⟨rl, hl⟩ : ∃ c, (al + bl) % 18446744073709551616 = c := ⟨_, rfl⟩
  obtain ⟨rh, hh⟩ : ∃ r, (ah + bh + c) % 18446744073709551616 = r := ⟨_, rfl⟩
  have r1 := fun u => plus_first al bl rl hl hc u
  have r2 := fun u => plus_last1 ah bh rh (c := c) (by omega) hh (by omega) u
  clear hc h hl hh
  go_enter Try.func62, Try.ntmps62
  go_wp2
  exact bodyPost_ret (v := .tuple #[.agg #[.int .u64 0, .int .u64 0], .int .i64 131]) (by simp [results, Try.results62, go_sem]) rfl ⟨rfl, (blks3 w _ _ _ _ _ _).2.2.2⟩

set_option maxRecDepth 100000 in
theorem sub_fits (ah al bh bl rh rl : Nat) (hal : al < 18446744073709551616) (hbl : bl < 18446744073709551616) (hrl : rl < 18446744073709551616) (hah : ah < 18446744073709551616)
    (h : ah * 18446744073709551616 + al = rh * 18446744073709551616 + rl + (bh * 18446744073709551616 + bl)) (w : World) :
    Calls Try.prog 67 #[.agg #[.int .u64 (ah : Int), .int .u64 (al : Int)], .agg #[.int .u64 (bh : Int), .int .u64 (bl : Int)]] w (Ans (.tuple #[.agg #[.int .u64 (rh : Int), .int .u64 (rl : Int)], .int .i64 0]) w) := by
  obtain ⟨b, hb⟩ : ∃ b, (if al < bl then 1 else 0 : Nat) = b := ⟨_, rfl⟩
  have hb1 : b ≤ 1 := by rw [← hb]; split <;> omega
  have r1 := fun u => minus_first al bl rl (by omega) hb u
  have r2 := fun u => minus_last0 ah bh rh (b := b) hb1 (by rw [← hb]; split <;> omega) (by rw [← hb]; split <;> omega) u
  clear hb h hb1
  go_enter Try.func67, Try.ntmps67
  go_wp2
  exact bodyPost_ret (v := .tuple #[.agg #[.int .u64 (rh : Int), .int .u64 (rl : Int)], .int .i64 0]) (by simp [results, Try.results67, go_sem]) rfl ⟨rfl, (blks3 w _ _ _ _ _ _).2.2.2⟩

set_option maxRecDepth 100000 in
theorem sub_under (ah al bh bl : Nat) (hal : al < 18446744073709551616) (hbl : bl < 18446744073709551616)
    (h : ah * 18446744073709551616 + al < bh * 18446744073709551616 + bl) (w : World) :
    Calls Try.prog 67 #[.agg #[.int .u64 (ah : Int), .int .u64 (al : Int)], .agg #[.int .u64 (bh : Int), .int .u64 (bl : Int)]] w (Ans (.tuple #[.agg #[.int .u64 0, .int .u64 0], .int .i64 131]) w) := by
  obtain ⟨b, hb⟩ : ∃ b, (if al < bl then 1 else 0 : Nat) = b := ⟨_, rfl⟩
  have hb1 : b ≤ 1 := by rw [← hb]; split <;> omega
  obtain ⟨rl, hl⟩ : ∃ c, (al + 18446744073709551616 - bl) % 18446744073709551616 = c := ⟨_, rfl⟩
  obtain ⟨rh, hh⟩ : ∃ r, (ah + 18446744073709551616 - bh - b) % 18446744073709551616 = r := ⟨_, rfl⟩
  have r1 := fun u => minus_first al bl rl hl hb u
  have r2 := fun u => minus_last1 ah bh rh (b := b) hb1 hh (by rw [← hb]; split <;> omega) u
  clear hb h hb1 hl hh
  go_enter Try.func67, Try.ntmps67
  go_wp2
  exact bodyPost_ret (v := .tuple #[.agg #[.int .u64 0, .int .u64 0], .int .i64 131]) (by simp [results, Try.results67, go_sem]) rfl ⟨rfl, (blks3 w _ _ _ _ _ _).2.2.2⟩

end Go.Proofs.Ytfgabmelmopgdaa
