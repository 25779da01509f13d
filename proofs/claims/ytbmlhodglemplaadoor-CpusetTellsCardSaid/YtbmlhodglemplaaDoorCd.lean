/-
  The contracts of the library's count of noughts behind and of ones, and of the landed Count. No statement is proved here.
-/
import Derived.Test.YtbmlhodglemplaaDoorCc
import Derived.Lib.LaidTab
import Derived.Lib.BitFns
import Derived.Lib.Strings
import Derived.Lib.Slices
import Derived.Lib.Small
import Derived.Lib.Walk
namespace Go.Proofs.YtbmlhodglemplaaDoor
open Go.RowKit

def dbTab : List Int := [0, 1, 28, 2, 29, 14, 24, 3, 30, 22, 20, 15, 25, 17, 4, 8, 31, 27, 13, 23, 21, 19, 16, 7, 26, 12, 18, 6, 11, 5, 10, 9]
/-- the table of the noughts behind lies as its initialiser laid it -/
def Db (w : World) : Prop := Lib.TabIs Tryd.prog w "math/bits.deBruijn32tab" .u8 dbTab
theorem db_global : Tryd.prog.globalNamed "math/bits.deBruijn32tab" = some 0 := by kernel_rfl
theorem Db.lt {w : World} (h : Db w) : 0 < w.heap.size := by
  unfold Db Lib.TabIs World.var? at h
  rw [db_global, Option.bind_some] at h
  rcases Nat.lt_or_ge 0 w.heap.size with h' | h'
  · exact h'
  · rw [Array.getElem?_eq_none h'] at h; simp at h
theorem Db.below {B : Nat} {w w' : World} (h : Db w) (hb : Below B w w') (hB : 0 < B) : Db w' := by
  unfold Db Lib.TabIs World.var? at *
  rw [db_global, Option.bind_some] at h ⊢
  rw [hb.block _ hB]
  exact h
theorem Db.cell {w : World} (h : Db w) {i : Nat} {z : Int} (hz : dbTab[i]? = some z) : w.cell? ⟨0, i, none⟩ = some (.int .u8 z) := by
  obtain ⟨hi, _⟩ := List.getElem?_eq_some_iff.1 hz
  have := Lib.TabIs.cell h db_global i hi
  rwa [List.getD_eq_getElem?_getD, hz] at this

def tzN (x : Nat) : Nat := Lib.ntzAux 8 x
def tzB (x : Nat) : Bool := x == 0 || (decide (tzN x < 8) && bits .and .u32 (x : Int) (IntKind.u32.wrap (-(x : Int))) == 2 ^ (tzN x) && mem (x : Int) == (tzN x : Int) :: mem ((x : Int) - 2 ^ (tzN x)) && hasB (x : Int) (tzN x : Int))
theorem tz_all : (List.range 256).all tzB = true := by kernel_rfl
theorem tz_facts {x : Nat} (h0 : 0 < x) (h1 : x < 256) : tzN x < 8 ∧ bits .and .u32 (x : Int) (IntKind.u32.wrap (-(x : Int))) = 2 ^ (tzN x) ∧ mem (x : Int) = (tzN x : Int) :: mem ((x : Int) - 2 ^ (tzN x)) ∧ hasB (x : Int) (tzN x : Int) = true := by
  have := of_all 256 tz_all h1
  unfold tzB at this
  simp only [Bool.or_eq_true, Bool.and_eq_true, beq_iff_eq, decide_eq_true_eq] at this
  rcases this with h | ⟨⟨⟨a, b⟩, c⟩, d⟩
  · omega
  · exact ⟨a, b, c, d⟩

set_option maxRecDepth 100000 in
set_option maxHeartbeats 1000000 in
theorem tz_any (x : Nat) (w : World) (hT : Db w) (h0 : 0 < x) (h1 : x < 256) : Calls Tryd.prog 47 #[.int .u32 (x : Int)] w fun e w' => e = .returned (.int .i64 (tzN x : Int)) ∧ w = w' := by
  obtain ⟨t8, ht, _, _⟩ := tz_facts h0 h1
  have hm : IntKind.u32.wrap (-(x : Int)) = 4294967296 - (x : Int) := by rw [IntKind.wrap_u32']; omega
  rw [hm] at ht
  have hx : ((x : Int) == 0) = false := by simp; omega
  have c0 := hT.cell (i := 0) rfl
  have c1 := hT.cell (i := 1) rfl
  have c2 := hT.cell (i := 3) rfl
  have c3 := hT.cell (i := 7) rfl
  have c4 := hT.cell (i := 14) rfl
  have c5 := hT.cell (i := 29) rfl
  have c6 := hT.cell (i := 27) rfl
  have c7 := hT.cell (i := 23) rfl
  clear hT h0 h1
  generalize tzN x = n at *
  have : n = 0 ∨ n = 1 ∨ n = 2 ∨ n = 3 ∨ n = 4 ∨ n = 5 ∨ n = 6 ∨ n = 7 := by omega
  clear t8
  rcases this with rfl | rfl | rfl | rfl | rfl | rfl | rfl | rfl
  all_goals
    go_enter Tryd.func47, Tryd.ntmps47
    go_wp2
    go_ret
    exact ⟨rfl, rfl⟩

set_option maxRecDepth 100000 in
set_option maxHeartbeats 1000000 in
theorem ones_any (x : Nat) (w : World) (h1 : x < 256) : Calls Tryd.prog 39 #[.int .u32 (x : Int)] w (Draws (.int .i64 (Lib.onesCount x : Int)) w) := by
  have e1 : (x : Int) / 16777216 = 0 := by omega
  have e2 : (x : Int) / 65536 = 0 := by omega
  have e3 : (x : Int) / 256 = 0 := by omega
  have e4 : bits .and .u32 (x : Int) 255 = (x : Int) := by rw [and_all (by omega) (by omega)]; omega
  have e5 : bits .and .u32 0 255 = 0 := by decide
  have x1 : (x : Int) ≤ 255 := by omega
  have x0 : (0 : Int) ≤ (x : Int) := by omega
  have p0 : Lib.pop8 0 = 0 := by decide +kernel
  have px : Lib.pop8 (x : Int) = (Lib.onesCount x : Int) := Lib.pop8_eq ⟨x, h1⟩
  have pl : Lib.onesCount x ≤ 8 := Lib.onesCount_le8 ⟨x, h1⟩
  generalize Lib.onesCount x = N at *
  have w0 : IntKind.u8.wrap 0 = 0 := by decide
  have w1 : IntKind.u8.wrap (N : Int) = (N : Int) := by simp [IntKind.wrap, IntKind.bits, IntKind.signed]; omega
  have w2 : IntKind.i64.wrap (N : Int) = (N : Int) := by rw [IntKind.wrap_i64]; omega
  clear h1 pl
  go_enter Tryd.func39, Tryd.ntmps39
  go_wp2_with fail
  go_quiet (fail)
  go_wp2
  go_ret
  exact ⟨rfl, _, rfl⟩

def onesB (x : Nat) : Bool := Lib.onesCount x == (mem (x : Int)).length
theorem ones_all : (List.range 256).all onesB = true := by kernel_rfl
theorem ones_mem {x : Nat} (h : x < 256) : Lib.onesCount x = (mem (x : Int)).length := by
  have := of_all 256 ones_all h
  unfold onesB at this
  simpa using this

set_option maxRecDepth 100000 in
set_option maxHeartbeats 1000000 in
theorem count_any (s : Int) (w : World) (h0 : 0 ≤ s) (h1 : s < 4294967296) : Calls Tryd.prog 20 #[.int .u32 s] w (Draws (.int .i64 ((mem s).length : Int)) w) := by
  have ha := and_all h0 h1
  obtain ⟨x, hx⟩ : ∃ x : Nat, s % 256 = (x : Int) := ⟨(s % 256).toNat, by omega⟩
  have hx8 : x < 256 := by omega
  have HO := Lib.hid (fun u => ones_any x u hx8)
  have hm : mem s = mem (x : Int) := by rw [← hx, mem_mod]
  rw [hm, ← ones_mem hx8]
  rw [hx] at ha
  clear hx hx8 hm h0 h1
  go_enter Tryd.func20, Tryd.ntmps20
  go_wp2_with fail
  refine (HO.out _).mono ?_
  rintro e w' ⟨rfl, q, rfl⟩
  go_wp2
  go_ret
  exact ⟨rfl, _, rfl⟩

end Go.Proofs.YtbmlhodglemplaaDoor
