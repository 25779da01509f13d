/-
  Several texts as one.
-/
import Derived.Test.YtngbamoffjlodaaZBd
import Derived.WalkSpells
import Derived.WalkLawsBesides
import Derived.RegionTactic
import Derived.Deep.QuietTactic
import Derived.BigQuiet
import Derived.Lib.Hide
import Derived.Lib.Mul64
import Derived.Laws.Bits64b
import Derived.Laws.Externs
import Derived.OwnWalk
import Derived.Deep.RegionHeld3
import Derived.Deep.DeepCutAuto
import Derived.IntWalk
import Derived.ChangeKeysEq
import Derived.BigFrame
/-
  The contracts of the landed wide's sums, differences and products. No statement is proved here.
-/
namespace Go.Proofs.Ytngbamoffjlodaa
open Go.RowKit

/-- a value answered; what was there has not turned -/
def Ans (v : Value) (w : World) (e : Ending) (w' : World) : Prop := e = .returned v ∧ Below w.heap.size w w'

set_option maxRecDepth 100000 in
theorem below_pair {B g : Nat} {a w : World} {x y : Value} (h : Below B a w) (hg : B ≤ g) : Below B a ((w.setCell ⟨g, 0, none⟩ x).setCell ⟨g, 1, none⟩ y) := (h.setCell hg x).setCell hg y

set_option maxRecDepth 100000 in
theorem run_plus (x y c : Nat) (hc : c ≤ 1) (w : World) : (callFunc 115 #[.int .u64 (x : Int), .int .u64 (y : Int), .int .u64 (c : Int)]).run Try.prog w =
    .ok (.value (.tuple #[.int .u64 (((x + y + c) % 18446744073709551616 : Nat) : Int), .int .u64 (((x + y + c) / 18446744073709551616 : Nat) : Int)])) w := by
  rw [run_callFunc_extern Try.func115 (by kernel_rfl) (by kernel_rfl) (by kernel_rfl) (e := add64Entry) (by kernel_rfl), run_add64 x y c (by omega) (by omega) (by omega) (by omega)]
  simp only [Result.andThen]
  congr 5 <;> omega

set_option maxRecDepth 100000 in
theorem lowN (a : Nat) (ha : a < 18446744073709551616) : bits .and .u64 (a : Int) 4294967295 = ((a % 4294967296 : Nat) : Int) := by
  have h := bits_and_u64_nat a 4294967295 ha (by omega)
  rw [show a &&& 4294967295 = a % 4294967296 from Nat.and_two_pow_sub_one_eq_mod a 32] at h
  exact h
set_option maxRecDepth 100000 in
theorem highN (a : Nat) : (a : Int) / 4294967296 = ((a / 4294967296 : Nat) : Int) := by omega
set_option maxRecDepth 100000 in
theorem prodN (a b : Nat) : (a : Int) * (b : Int) = ((a * b : Nat) : Int) := (Int.natCast_mul a b).symm
set_option maxRecDepth 100000 in
theorem plusN (a b : Nat) : (a : Int) + (b : Int) = ((a + b : Nat) : Int) := (Int.natCast_add a b).symm
set_option maxRecDepth 100000 in
theorem keepN (a : Nat) (ha : a < 18446744073709551616) : IntKind.u64.wrap (a : Int) = (a : Int) := by rw [IntKind.wrap_u64]; omega
set_option maxRecDepth 100000 in
theorem cutN (a : Nat) : IntKind.u64.wrap (a : Int) = ((a % 18446744073709551616 : Nat) : Int) := by rw [IntKind.wrap_u64]; omega

set_option maxRecDepth 100000 in
set_option maxHeartbeats 1000000 in
theorem mul64_any (x y : Nat) (hx : x < 18446744073709551616) (hy : y < 18446744073709551616) (w : World) :
    Calls Try.prog 114 #[.int .u64 (x : Int), .int .u64 (y : Int)] w fun e w' => e = .returned (.tuple #[.int .u64 ((x * y / 18446744073709551616 : Nat) : Int), .int .u64 ((x * y % 18446744073709551616 : Nat) : Int)]) ∧ w = w' := by
  obtain ⟨b1, b2, b3, hhi⟩ := Lib.mul64_hi x y hx hy
  have hxl : x % 4294967296 ≤ 4294967295 := by omega
  have hyl : y % 4294967296 ≤ 4294967295 := by omega
  have hxh : x / 4294967296 ≤ 4294967295 := by omega
  have hyh : y / 4294967296 ≤ 4294967295 := by omega
  have q1 := Lib.half_mul_le hxh hyh
  have q2 := Lib.half_mul_le hxh hyl
  have q3 := Lib.half_mul_le hxl hyh
  have c1 : x / 4294967296 * (y / 4294967296) < 18446744073709551616 := by omega
  have c2 : x / 4294967296 * (y % 4294967296) < 18446744073709551616 := by omega
  have c3 : x % 4294967296 * (y / 4294967296) < 18446744073709551616 := by omega
  have c4 : x / 4294967296 * (y / 4294967296) + (x / 4294967296 * (y % 4294967296) + x % 4294967296 * (y % 4294967296) / 4294967296) / 4294967296 < 18446744073709551616 := by omega
  have c5 : x / 4294967296 * (y / 4294967296) + (x / 4294967296 * (y % 4294967296) + x % 4294967296 * (y % 4294967296) / 4294967296) / 4294967296 + ((x / 4294967296 * (y % 4294967296) + x % 4294967296 * (y % 4294967296) / 4294967296) % 4294967296 + x % 4294967296 * (y / 4294967296)) / 4294967296 < 18446744073709551616 := by omega
  go_enter Try.func114, Try.ntmps114
  go_wp2
  simp only [lowN x hx, lowN y hy, highN, prodN, plusN, keepN _ b1, keepN _ c2, keepN _ b2, lowN _ b2, keepN _ c3, keepN _ b3, keepN _ c1, keepN _ c4, keepN _ c5, cutN (x * y)]
  rw [hhi]
  go_ret2
  exact ⟨rfl, rfl⟩

set_option maxRecDepth 100000 in
theorem of_wide (n : Nat) (w : World) : Calls Try.prog 101 #[.int .u64 (n : Int)] w (Ans (.agg #[.int .u64 0, .int .u64 (n : Int)]) w) := by
  go_enter Try.func101, Try.ntmps101
  go_wp2
  exact bodyPost_ret (v := .agg #[.int .u64 0, .int .u64 (n : Int)]) (by simp [results, Try.results101, go_sem]) rfl ⟨rfl, (Below.refl _ _).alloc (Nat.le_refl _) _⟩

set_option maxRecDepth 100000 in
theorem mul_any (x y h l : Nat) (hx : x < 18446744073709551616) (hy : y < 18446744073709551616) (hl : l < 18446744073709551616) (hp : x * y = h * 18446744073709551616 + l) (w : World) :
    Calls Try.prog 99 #[.int .u64 (x : Int), .int .u64 (y : Int)] w (Ans (.agg #[.int .u64 (h : Int), .int .u64 (l : Int)]) w) := by
  have HM := Lib.hid (fun u => mul64_any x y hx hy u)
  rw [hp, show (h * 18446744073709551616 + l) / 18446744073709551616 = h by omega, show (h * 18446744073709551616 + l) % 18446744073709551616 = l by omega] at HM
  clear hx hy hl hp
  go_enter Try.func99, Try.ntmps99
  go_wp2_with fail
  refine (HM.out _).mono ?_
  rintro e w' ⟨rfl, rfl⟩
  go_wp2
  exact bodyPost_ret (v := .agg #[.int .u64 (h : Int), .int .u64 (l : Int)]) (by simp [results, Try.results99, go_sem]) rfl ⟨rfl, (Below.refl _ _).alloc (Nat.le_refl _) _⟩

section
variable (ah al bh bl rh rl : Nat)
set_option maxRecDepth 100000 in
theorem plus_lo {c : Nat} (hc : c ≤ 1) (h1 : (al + bl + c) % 18446744073709551616 = rl) {d : Nat} (h2 : (al + bl + c) / 18446744073709551616 = d) (u : World) :
    (callFunc 115 #[.int .u64 (al : Int), .int .u64 (bl : Int), .int .u64 (c : Int)]).run Try.prog u = .ok (.value (.tuple #[.int .u64 (rl : Int), .int .u64 (d : Int)])) u := by
  have := run_plus al bl c hc u
  rw [h1, h2] at this
  exact this
set_option maxRecDepth 100000 in
theorem plus_first (h1 : (al + bl) % 18446744073709551616 = rl) {d : Nat} (h2 : (al + bl) / 18446744073709551616 = d) (u : World) :
    (callFunc 115 #[.int .u64 (al : Int), .int .u64 (bl : Int), .int .u64 0]).run Try.prog u = .ok (.value (.tuple #[.int .u64 (rl : Int), .int .u64 (d : Int)])) u := plus_lo al bl rl (c := 0) (by omega) h1 h2 u
set_option maxRecDepth 100000 in
theorem plus_last0 {c : Nat} (hc : c ≤ 1) (h1 : (al + bl + c) % 18446744073709551616 = rl) (h2 : (al + bl + c) / 18446744073709551616 = 0) (u : World) :
    (callFunc 115 #[.int .u64 (al : Int), .int .u64 (bl : Int), .int .u64 (c : Int)]).run Try.prog u = .ok (.value (.tuple #[.int .u64 (rl : Int), .int .u64 0])) u := plus_lo al bl rl hc h1 h2 u
set_option maxRecDepth 100000 in
theorem plus_last1 {c : Nat} (hc : c ≤ 1) (h1 : (al + bl + c) % 18446744073709551616 = rl) (h2 : (al + bl + c) / 18446744073709551616 = 1) (u : World) :
    (callFunc 115 #[.int .u64 (al : Int), .int .u64 (bl : Int), .int .u64 (c : Int)]).run Try.prog u = .ok (.value (.tuple #[.int .u64 (rl : Int), .int .u64 1])) u := plus_lo al bl rl hc h1 h2 u
end

set_option maxRecDepth 100000 in
theorem add_fits (ah al bh bl rh rl : Nat) (hal : al < 18446744073709551616) (hbl : bl < 18446744073709551616) (hrl : rl < 18446744073709551616) (hrh : rh < 18446744073709551616)
    (h : ah * 18446744073709551616 + al + (bh * 18446744073709551616 + bl) = rh * 18446744073709551616 + rl) (w : World) :
    Calls Try.prog 100 #[.agg #[.int .u64 (ah : Int), .int .u64 (al : Int)], .agg #[.int .u64 (bh : Int), .int .u64 (bl : Int)]] w (Ans (.tuple #[.agg #[.int .u64 (rh : Int), .int .u64 (rl : Int)], .int .i64 0]) w) := by
  obtain ⟨c, hc⟩ : ∃ c, (al + bl) / 18446744073709551616 = c := ⟨_, rfl⟩
  have r1 := fun u => plus_first al bl rl (by omega) hc u
  have r2 := fun u => plus_last0 ah bh rh (c := c) (by omega) (by omega) (by omega) u
  clear hc h
  go_enter Try.func100, Try.ntmps100
  go_wp2
  exact bodyPost_ret (v := .tuple #[.agg #[.int .u64 (rh : Int), .int .u64 (rl : Int)], .int .i64 0]) (by simp [results, Try.results100, go_sem]) rfl ⟨rfl, (blks3 w _ _ _ _ _ _).2.2.2⟩

set_option maxRecDepth 100000 in
theorem add_over (ah al bh bl : Nat) (hal : al < 18446744073709551616) (hbl : bl < 18446744073709551616) (hah : ah < 18446744073709551616) (hbh : bh < 18446744073709551616)
    (h : 340282366920938463463374607431768211456 ≤ ah * 18446744073709551616 + al + (bh * 18446744073709551616 + bl)) (w : World) :
    Calls Try.prog 100 #[.agg #[.int .u64 (ah : Int), .int .u64 (al : Int)], .agg #[.int .u64 (bh : Int), .int .u64 (bl : Int)]] w (Ans (.tuple #[.agg #[.int .u64 0, .int .u64 0], .int .i64 131]) w) := by
  obtain ⟨c, hc⟩ : ∃ c, (al + bl) / 18446744073709551616 = c := ⟨_, rfl⟩
  obtain ⟨rl, hl⟩ : ∃ c, (al + bl) % 18446744073709551616 = c := ⟨_, rfl⟩
  obtain ⟨rh, hh⟩ : ∃ r, (ah + bh + c) % 18446744073709551616 = r := ⟨_, rfl⟩
  have r1 := fun u => plus_first al bl rl hl hc u
  have r2 := fun u => plus_last1 ah bh rh (c := c) (by omega) hh (by omega) u
  clear hc h hl hh
  go_enter Try.func100, Try.ntmps100
  go_wp2
  exact bodyPost_ret (v := .tuple #[.agg #[.int .u64 0, .int .u64 0], .int .i64 131]) (by simp [results, Try.results100, go_sem]) rfl ⟨rfl, (blks3 w _ _ _ _ _ _).2.2.2⟩



end Go.Proofs.Ytngbamoffjlodaa
/-
  The contracts of the landed wide's quarters and comparison. No statement is proved here.
-/
namespace Go.Proofs.Ytngbamoffjlodaa
open Go.RowKit

/-- a number's quarters, the highest first -/
def qs (f : Nat → Nat) : Array Value := #[.int .u32 (f 0 : Int), .int .u32 (f 1 : Int), .int .u32 (f 2 : Int), .int .u32 (f 3 : Int)]
set_option maxRecDepth 100000 in
theorem qs_at (f : Nat → Nat) {k : Nat} (h : k < 4) : (qs f)[k]? = some (.int .u32 (f k : Int)) := by
  have : k = 0 ∨ k = 1 ∨ k = 2 ∨ k = 3 := by omega
  rcases this with rfl | rfl | rfl | rfl <;> rfl
/-- the quarters of hi, lo -/
def qf (hi lo : Nat) : Nat → Nat
  | 0 => hi / 4294967296
  | 1 => hi % 4294967296
  | 2 => lo / 4294967296
  | _ => lo % 4294967296
set_option maxRecDepth 100000 in
theorem wrap32 (n : Int) : IntKind.u32.wrap n = n % 4294967296 := by simp [IntKind.wrap, IntKind.bits, IntKind.signed]

set_option maxRecDepth 100000 in
theorem split_any (hi lo : Nat) (hh : hi < 18446744073709551616) (hl : lo < 18446744073709551616) (w : World) :
    Calls Try.prog 104 #[.agg #[.int .u64 (hi : Int), .int .u64 (lo : Int)]] w (Ans (.agg (qs (qf hi lo))) w) := by
  have e0 : IntKind.u32.wrap ((hi : Int) / 4294967296) = ((hi / 4294967296 : Nat) : Int) := by rw [wrap32]; omega
  have e1 : IntKind.u32.wrap (hi : Int) = ((hi % 4294967296 : Nat) : Int) := by rw [wrap32]; omega
  have e2 : IntKind.u32.wrap ((lo : Int) / 4294967296) = ((lo / 4294967296 : Nat) : Int) := by rw [wrap32]; omega
  have e3 : IntKind.u32.wrap (lo : Int) = ((lo % 4294967296 : Nat) : Int) := by rw [wrap32]; omega
  unfold qs qf
  go_enter Try.func104, Try.ntmps104
  go_wp2
  exact bodyPost_ret (v := .agg (qs (qf hi lo))) (by simp [results, Try.results104, go_sem, qs, qf]) rfl ⟨rfl, (blks2 w _ _ _ _).2.2⟩

set_option maxRecDepth 100000 in
theorem nan_any (x : Nat) (w : World) : Calls Try.prog 117 #[.int .u32 (x : Int)] w fun e w' => e = .returned (.bool false) ∧ w = w' := by
  go_enter Try.func117, Try.ntmps117
  go_wp2
  go_ret
  simp

set_option maxRecDepth 100000 in
theorem cmp_less (x y : Nat) (h : x < y) (w : World) : Calls Try.prog 105 #[.int .u32 (x : Int), .int .u32 (y : Int)] w fun e w' => e = .returned (.int .i64 (-1)) ∧ w' = w := by
  go_enter Try.func105, Try.ntmps105
  go_wp2_with (first | (go_at_call 117; refine (nan_any _ _).mono ?_; rintro e w' ⟨rfl, rfl⟩))
  go_ret
  simp
set_option maxRecDepth 100000 in
theorem cmp_more (x y : Nat) (h : y < x) (w : World) : Calls Try.prog 105 #[.int .u32 (x : Int), .int .u32 (y : Int)] w fun e w' => e = .returned (.int .i64 1) ∧ w' = w := by
  have hn : ¬ x < y := by omega
  go_enter Try.func105, Try.ntmps105
  go_wp2_with (first | (go_at_call 117; refine (nan_any _ _).mono ?_; rintro e w' ⟨rfl, rfl⟩))
  go_ret
  simp

end Go.Proofs.Ytngbamoffjlodaa
/-
  Equality of rows of quarters, stores and loads of rows in a region that draws its order. No statement is proved here.
-/
namespace Go.Proofs.Ytngbamoffjlodaa
open Go.RowKit

set_option maxRecDepth 100000 in
theorem yields_row {P : Program} {ops : Array Oper} {S : World → Prop} {o : Oper} {a : Act} (hw : Region.wanted o (yielded ops a.tmps) = true) (ty : TypeId) (x : Operand) (ho : o.op = .load ty x)
    (g : Nat) (hx : a.eval x = .pointer (some ⟨g, 0, none⟩)) (t : TypeId) (cs : Array Value) (fr : Nat × Nat) {d : TypeDesc} (hS : ∀ w, S w → w.heap[g]? = some (.cells cs t fr))
    (hu : P.underlying ty = some d) (hd : (match d with | .struct _ | .array _ _ => true | _ => false) = true) (hi : (P.info? ty).map (·.size) = some cs.size) : YieldsIf P ops S o (.agg cs) a :=
  .inl ⟨hw, fun w hw' => by
    unfold execOp
    simp only [ho, hx, Instr.loadAt, Instr.sureAddr, Sem.run_bind, Sem.run_pure, Result.andThen_ok, run_loadVar_row w g t ty cs fr d (hS w hw') hu hd hi]⟩
set_option maxRecDepth 100000 in
theorem keep_row {P : Program} {ops : Array Oper} {o : Oper} {a : Act} {w : World} {K : Act → World → Prop} {Q : Exit → Act → World → Prop} {E : Prop} (hgd : o.guard = none) (ty : TypeId) (x y : Operand) (ho : o.op = .store ty x y)
    (g : Nat) (cells : Array Value) (hx : a.eval x = .pointer (some ⟨g, 0, none⟩)) (hy : a.eval y = .agg cells)
    (t : TypeId) (old : Array Value) (hg : w.heap[g]? = some (.cells old t (0, 0))) (hi : (P.info? ty).map (·.size) = some cells.size)
    (hold : old.size = cells.size) (h1 : cells.all (·.oneCell') = true)
    (h : K (a.put o.dst undef) (w.setRow g cells)) : if Region.wanted o (yielded ops a.tmps) = true then Oper.wp P o a w K Q else E := by
  rw [if_pos (by simp [Region.wanted, hgd])]
  exact wp_store_row ty x y ho g cells hx hy t old hg hi hold h1 h
set_option maxRecDepth 100000 in
theorem results_row2 {P : Program} {fn : Func} {p q : Tmp} {ty : TypeId} (h : fn.results = #[.cell p ty, .tmp q]) (tmps : Array Value) (w : World) (g : Nat) (t : TypeId) (cs : Array Value) (d : TypeDesc)
    (hp : tmps.getD p undef = .pointer (some ⟨g, 0, none⟩)) (hg : w.heap[g]? = some (.cells cs t (0, 0)))
    (hu : P.underlying ty = some d) (hd : (match d with | .struct _ | .array _ _ => true | _ => false) = true) (hi : (P.info? ty).map (·.size) = some cs.size) :
    (results fn tmps).run P w = .ok (.tuple #[.agg cs, tmps.getD q undef]) w := by
  have hp' : tmps[p]?.getD undef = .pointer (some ⟨g, 0, none⟩) := by simpa using hp
  simp [results, h, hp', asAddr, run_loadVar_row w g t ty cs (0, 0) d hg hu hd hi]
set_option maxRecDepth 100000 in
theorem info_qs (f : Nat → Nat) : (Try.prog.info? 149).map (·.size) = some (qs f).size := by
  have h : (Try.prog.info? 149).map (·.size) = some 4 := by kernel_rfl
  exact h
set_option maxRecDepth 100000 in
theorem one_qs (f : Nat → Nat) : (qs f).all (·.oneCell') = true := by simp [qs, Value.oneCell']

set_option maxRecDepth 100000 in
theorem run_quarter (f : Nat → Nat) {i : Nat} (h : i < 4) (w : World) : (part 133 (qs f) i).run Try.prog w = .ok (.int .u32 (f i : Int)) w :=
  run_part_plain w (by kernel_rfl) (qs_at f h)
set_option maxRecDepth 100000 in
theorem run_quarters (d : Nat) (f g : Nat → Nat) (w : World) : ∀ is : List Nat, (∀ i ∈ is, i < 4) → (Op.eqItems (d + 1) 133 1 (qs f) (qs g) is).run Try.prog w = .ok (decide (∀ i ∈ is, f i = g i)) w
  | [], _ => by simp [Op.eqItems]
  | i :: is, h => by
    have h1 := h i (by simp)
    have IH := run_quarters d f g w is (fun j hj => h j (by simp [hj]))
    unfold Op.eqItems
    rw [Nat.mul_one, Sem.run_bind, run_quarter f h1, Result.andThen_ok, Sem.run_bind, run_quarter g h1, Result.andThen_ok, Sem.run_bind, run_equalIn_int w d _ _ _ _ _ Try.underlying133, Result.andThen_ok]
    by_cases e : f i = g i
    · rw [e, beq_self_eq_true]
      simp only [Bool.not_true, Bool.false_eq_true, if_false]
      rw [IH]
      simp [e]
    · have : ((f i : Int) == (g i : Int)) = false := by simp; omega
      rw [this]
      simp [e]
set_option maxRecDepth 100000 in
theorem run_eq_quarters (f g : Nat → Nat) (w : World) {b : Bool} (hb : b = true ↔ ∀ i, i < 4 → f i = g i) : (Op.equal 149 (.agg (qs f)) (.agg (qs g))).run Try.prog w = .ok b w := by
  unfold Op.equal
  obtain ⟨i, hi⟩ : ∃ i, Try.prog.info? 133 = some i := info_of_underlying Try.underlying133
  rw [show Op.maxDepth = 9998 + 1 + 1 from rfl, run_equalIn_array w (9998 + 1) _ _ Try.underlying149 hi, show Try.prog.cellsOf 133 = 1 by kernel_rfl]
  rw [run_quarters 9998 f g w (List.range 4) (fun i hi => by simpa using hi)]
  congr 1
  rw [Bool.eq_iff_iff, hb]
  simp
set_option maxRecDepth 100000 in
theorem wp_eq_qs {o : Oper} {a : Act} {w : World} {K : Act → World → Prop} {Q : Exit → Act → World → Prop} (x y : Operand) (ty : TypeId) (ho : o.op = .binOp .eql 149 x y ty) (f g : Nat → Nat)
    (hx : a.eval x = .agg (qs f)) (hy : a.eval y = .agg (qs g)) {b : Bool} (hb : b = true ↔ ∀ i, i < 4 → f i = g i) (h : K (a.put o.dst (.bool b)) w) : o.wp Try.prog a w K Q := by
  have he : Try.prog.eqGuardType Try.prog.depth 149 = false := by kernel_rfl
  unfold Oper.wp execOp
  simp [ho, hx, hy, binOp, eqGuard, Sem.run_bind, run_eq_quarters f g w hb, he]
  exact h
end Go.Proofs.Ytngbamoffjlodaa
