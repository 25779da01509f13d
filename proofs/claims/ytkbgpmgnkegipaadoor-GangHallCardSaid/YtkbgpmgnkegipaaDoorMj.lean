/-
  The landed cpuset, by its own unchanged code: Check, Without, Count; the table of noughts behind. No statement is proved here.
-/
import Derived.Test.YtkbgpmgnkegipaaDoorTi
import Derived.Test.YtkbgpmgnkegipaaDoorMd
import Derived.Lib.LaidTab
import Derived.Lib.BitFns
import Derived.Lib.Strings
import Derived.Lib.Slices
import Derived.Lib.Small
import Derived.Lib.Walk
namespace Go.Proofs.YtkbgpmgnkegipaaDoor
open Go.RowKit

theorem high_nat (n : Nat) : n &&& 4294967040 = ((n / 256) % 16777216) * 256 := by
  apply Nat.eq_of_testBit_eq
  intro i
  have e1 : (4294967040 : Nat) = (2 ^ 24 - 1) <<< 8 := rfl
  have e2 : n / 256 % 16777216 * 256 = (n / 2 ^ 8 % 2 ^ 24) <<< 8 := by rw [Nat.shiftLeft_eq]
  rw [e2, e1]
  rw [Nat.testBit_and, Nat.testBit_shiftLeft, Nat.testBit_shiftLeft, Nat.testBit_mod_two_pow, Nat.testBit_div_two_pow, Nat.testBit_two_pow_sub_one]
  by_cases hi : 8 ≤ i
  · simp [hi, show i - 8 + 8 = i by omega]
    rw [Bool.and_comm]
  · simp [hi]
theorem not_all {s : Int} (h0 : 0 ≤ s) (h1 : s < 4294967296) : bits .andNot .u32 s 255 = s / 256 * 256 := by
  rw [u32_andNot s 255 h0 h1 (by omega) (by omega)]
  rw [show 4294967295 - (255 : Int).toNat = 4294967040 from rfl, high_nat]
  omega

/-- a bit alone, in a set below 256 -/
def bitB (s n : Nat) : Bool :=
  if hasB (s : Int) (n : Int) = true then
    bits .or .u32 (s : Int) (2 ^ n) == (s : Int) && bits .and .u32 (s : Int) (2 ^ n) == 2 ^ n && bits .andNot .u32 (s : Int) (2 ^ n) == (s : Int) - 2 ^ n
  else bits .or .u32 (s : Int) (2 ^ n) == (s : Int) + 2 ^ n && bits .and .u32 (s : Int) (2 ^ n) == 0 && bits .andNot .u32 (s : Int) (2 ^ n) == (s : Int)
theorem of_all {f : Nat → Bool} (n : Nat) (h : (List.range n).all f = true) {s : Nat} (hs : s < n) : f s = true := List.all_eq_true.1 h s (List.mem_range.2 hs)
theorem bit_all : (List.range 256).all (fun s => (List.range 8).all (bitB s)) = true := by kernel_rfl
theorem bit_facts {s n : Nat} (hs : s < 256) (hn : n < 8) : bitB s n = true := of_all 8 (of_all 256 bit_all hs) hn

def chkV (s : Int) : Int := if s < 256 then 0 else 140
set_option maxRecDepth 100000 in
set_option maxHeartbeats 400000 in
theorem ccheck_any (s : Int) (w : World) (h0 : 0 ≤ s) (h1 : s < 4294967296) : Calls Tryd.prog 36 #[.int .u32 s] w fun e w' => e = .returned (.int .i64 (chkV s)) ∧ w = w' := by
  have hb := not_all h0 h1
  by_cases hs : s < 256
  · have HV : Hid (chkV s = 0) := Lib.hid (if_pos hs)
    have hz : bits .andNot .u32 s 255 = 0 := by rw [hb]; omega
    clear hb hs h0 h1
    go_enter Tryd.func36, Tryd.ntmps36
    go_wp2
    go_ret
    exact ⟨retI HV.out.symm, rfl⟩
  · have HV : Hid (chkV s = 140) := Lib.hid (if_neg hs)
    have hz : (bits .andNot .u32 s 255 == 0) = false := by rw [hb]; simp; omega
    clear hb hs h0 h1
    go_enter Tryd.func36, Tryd.ntmps36
    go_wp2
    go_ret
    exact ⟨retI HV.out.symm, rfl⟩

/-- a number and an error -/
def Two_m (a b : Int) (w : World) (e : Ending) (w' : World) : Prop := e = .returned (.tuple #[.int .u32 a, .int .i64 b]) ∧ w = w'
def refV (s c : Int) : Int := if s < 256 then (if cpuB c = true then 0 else 2) else 140

theorem bit_nat {s c : Int} (h0 : 0 ≤ s) (h1 : s < 256) (hc : cpuB c = true) : bitB s.toNat c.toNat = true ∧ ((s.toNat : Nat) : Int) = s ∧ ((c.toNat : Nat) : Int) = c := by
  obtain ⟨c0, c1⟩ := cpuB_true hc
  exact ⟨bit_facts (by omega) (by omega), by omega, by omega⟩
theorem or_there {s c : Int} (h0 : 0 ≤ s) (h1 : s < 256) (hc : cpuB c = true) (hh : hasB s c = true) : bits .or .u32 s (2 ^ c.toNat) = s ∧ bits .andNot .u32 s (2 ^ c.toNat) = s - 2 ^ c.toNat := by
  obtain ⟨hb, e1, e2⟩ := bit_nat h0 h1 hc
  unfold bitB at hb
  rw [e1, e2, hh] at hb
  simp at hb
  exact ⟨hb.1.1, hb.2⟩
theorem or_new {s c : Int} (h0 : 0 ≤ s) (h1 : s < 256) (hc : cpuB c = true) (hh : hasB s c = false) : bits .or .u32 s (2 ^ c.toNat) = s + 2 ^ c.toNat ∧ bits .andNot .u32 s (2 ^ c.toNat) = s := by
  obtain ⟨hb, e1, e2⟩ := bit_nat h0 h1 hc
  unfold bitB at hb
  rw [e1, e2, hh] at hb
  simp at hb
  exact ⟨hb.1.1, hb.2⟩
def withV (s c : Int) : Int × Int := if s < 256 then (if cpuB c = true then (if hasB s c = true then (0, 5) else (s + 2 ^ c.toNat, 0)) else (0, 2)) else (0, 140)
def outV (s c : Int) : Int × Int := if s < 256 then (if cpuB c = true then (if hasB s c = true then (s - 2 ^ c.toNat, 0) else (0, 4)) else (0, 2)) else (0, 140)

theorem and_all_m {s : Int} (h0 : 0 ≤ s) (h1 : s < 4294967296) : bits .and .u32 s 255 = s % 256 := by
  rw [u32_and s 255 h0 h1 (by omega) (by omega)]
  have : s.toNat &&& 255 = s.toNat % 256 := Nat.and_two_pow_sub_one_eq_mod s.toNat 8
  rw [show (255 : Int).toNat = 255 from rfl, this]
  omega

theorem eight {c : Int} (h : cpuB c = true) : c = 0 ∨ c = 1 ∨ c = 2 ∨ c = 3 ∨ c = 4 ∨ c = 5 ∨ c = 6 ∨ c = 7 := by
  have := cpuB_true h
  omega
theorem has_mod {s c : Int} : hasB (s % 256) c = hasB s c := by
  unfold hasB
  by_cases hc : cpuB c = true
  · rw [hc]
    have h8 := eight hc
    rcases h8 with rfl | rfl | rfl | rfl | rfl | rfl | rfl | rfl <;> (simp only [Bool.true_and]; apply decide_eq_decide.2; simp; try omega)
  · simp [hc]
theorem mem_mod {s : Int} : mem (s % 256) = mem s := by
  unfold mem memb
  have : hasB (s % 256) = hasB s := funext fun c => has_mod
  rw [this]
theorem bit_in {s c : Int} (h0 : 0 ≤ s) (h1 : s < 256) (hc : cpuB c = true) (hh : hasB s c = true) : 0 ≤ s - 2 ^ c.toNat := by
  have hb2 : s / 2 ^ c.toNat % 2 = 1 := by
    unfold hasB at hh
    rw [hc] at hh
    simpa using hh
  rcases eight hc with rfl | rfl | rfl | rfl | rfl | rfl | rfl | rfl <;> simp at hb2 ⊢ <;> omega


/-- what Of answers -/
def dbTab : List Int := [0, 1, 28, 2, 29, 14, 24, 3, 30, 22, 20, 15, 25, 17, 4, 8, 31, 27, 13, 23, 21, 19, 16, 7, 26, 12, 18, 6, 11, 5, 10, 9]
/-- the table of the noughts behind lies as its initialiser laid it -/
def Db (w : World) : Prop := Lib.TabIs Tryd.prog w "math/bits.deBruijn32tab" .u8 dbTab
theorem db_global : Tryd.prog.globalNamed "math/bits.deBruijn32tab" = some 0 := by kernel_rfl
theorem Db.lt {w : World} (h : Db w) : 0 < w.heap.size := by
  unfold Db Lib.TabIs World.var? at h
  rw [db_global, Option.bind_some] at h
  rcases Nat.lt_or_ge 0 w.heap.size with h' | h'
  · exact h'
  · rw [Array.getElem?_eq_none h'] at h; simp at h
theorem Db.below {B : Nat} {w w' : World} (h : Db w) (hb : Below B w w') (hB : 0 < B) : Db w' := by
  unfold Db Lib.TabIs World.var? at *
  rw [db_global, Option.bind_some] at h ⊢
  rw [hb.block _ hB]
  exact h
theorem Db.cell {w : World} (h : Db w) {i : Nat} {z : Int} (hz : dbTab[i]? = some z) : w.cell? ⟨0, i, none⟩ = some (.int .u8 z) := by
  obtain ⟨hi, _⟩ := List.getElem?_eq_some_iff.1 hz
  have := Lib.TabIs.cell h db_global i hi
  rwa [List.getD_eq_getElem?_getD, hz] at this

def tzN (x : Nat) : Nat := Lib.ntzAux 8 x
def tzB (x : Nat) : Bool := x == 0 || (decide (tzN x < 8) && bits .and .u32 (x : Int) (IntKind.u32.wrap (-(x : Int))) == 2 ^ (tzN x) && mem (x : Int) == (tzN x : Int) :: mem ((x : Int) - 2 ^ (tzN x)) && hasB (x : Int) (tzN x : Int))
theorem tz_all : (List.range 256).all tzB = true := by kernel_rfl
theorem tz_facts {x : Nat} (h0 : 0 < x) (h1 : x < 256) : tzN x < 8 ∧ bits .and .u32 (x : Int) (IntKind.u32.wrap (-(x : Int))) = 2 ^ (tzN x) ∧ mem (x : Int) = (tzN x : Int) :: mem ((x : Int) - 2 ^ (tzN x)) ∧ hasB (x : Int) (tzN x : Int) = true := by
  have := of_all 256 tz_all h1
  unfold tzB at this
  simp only [Bool.or_eq_true, Bool.and_eq_true, beq_iff_eq, decide_eq_true_eq] at this
  rcases this with h | ⟨⟨⟨a, b⟩, c⟩, d⟩
  · omega
  · exact ⟨a, b, c, d⟩

set_option maxRecDepth 100000 in
set_option maxHeartbeats 1000000 in
theorem tz_any (x : Nat) (w : World) (hT : Db w) (h0 : 0 < x) (h1 : x < 256) : Calls Tryd.prog 56 #[.int .u32 (x : Int)] w fun e w' => e = .returned (.int .i64 (tzN x : Int)) ∧ w = w' := by
  obtain ⟨t8, ht, _, _⟩ := tz_facts h0 h1
  have hm : IntKind.u32.wrap (-(x : Int)) = 4294967296 - (x : Int) := by rw [IntKind.wrap_u32']; omega
  rw [hm] at ht
  have hx : ((x : Int) == 0) = false := by simp; omega
  have c0 := hT.cell (i := 0) rfl
  have c1 := hT.cell (i := 1) rfl
  have c2 := hT.cell (i := 3) rfl
  have c3 := hT.cell (i := 7) rfl
  have c4 := hT.cell (i := 14) rfl
  have c5 := hT.cell (i := 29) rfl
  have c6 := hT.cell (i := 27) rfl
  have c7 := hT.cell (i := 23) rfl
  clear hT h0 h1
  generalize tzN x = n at *
  have : n = 0 ∨ n = 1 ∨ n = 2 ∨ n = 3 ∨ n = 4 ∨ n = 5 ∨ n = 6 ∨ n = 7 := by omega
  clear t8
  rcases this with rfl | rfl | rfl | rfl | rfl | rfl | rfl | rfl
  all_goals
    go_enter Tryd.func56, Tryd.ntmps56
    go_wp2
    go_ret
    exact ⟨rfl, rfl⟩

set_option maxRecDepth 100000 in
set_option maxHeartbeats 1000000 in
theorem ones_any_m (x : Nat) (w : World) (h1 : x < 256) : Calls Tryd.prog 23 #[.int .u32 (x : Int)] w (Draws (.int .i64 (Lib.onesCount x : Int)) w) := by
  have e1 : (x : Int) / 16777216 = 0 := by omega
  have e2 : (x : Int) / 65536 = 0 := by omega
  have e3 : (x : Int) / 256 = 0 := by omega
  have e4 : bits .and .u32 (x : Int) 255 = (x : Int) := by rw [and_all_m (by omega) (by omega)]; omega
  have e5 : bits .and .u32 0 255 = 0 := by decide
  have x1 : (x : Int) ≤ 255 := by omega
  have x0 : (0 : Int) ≤ (x : Int) := by omega
  have p0 : Lib.pop8 0 = 0 := by decide +kernel
  have px : Lib.pop8 (x : Int) = (Lib.onesCount x : Int) := Lib.pop8_eq ⟨x, h1⟩
  have pl : Lib.onesCount x ≤ 8 := Lib.onesCount_le8 ⟨x, h1⟩
  generalize Lib.onesCount x = N at *
  have w0 : IntKind.u8.wrap 0 = 0 := by decide
  have w1 : IntKind.u8.wrap (N : Int) = (N : Int) := by simp [IntKind.wrap, IntKind.bits, IntKind.signed]; omega
  have w2 : IntKind.i64.wrap (N : Int) = (N : Int) := by rw [IntKind.wrap_i64]; omega
  clear h1 pl
  go_enter Tryd.func23, Tryd.ntmps23
  go_wp2_with fail
  go_quiet (fail)
  go_wp2
  go_ret
  exact ⟨rfl, _, rfl⟩

def onesB (x : Nat) : Bool := Lib.onesCount x == (mem (x : Int)).length
theorem ones_all : (List.range 256).all onesB = true := by kernel_rfl
theorem ones_mem {x : Nat} (h : x < 256) : Lib.onesCount x = (mem (x : Int)).length := by
  have := of_all 256 ones_all h
  unfold onesB at this
  simpa using this

set_option maxRecDepth 100000 in
set_option maxHeartbeats 1000000 in
theorem count_any_m (s : Int) (w : World) (h0 : 0 ≤ s) (h1 : s < 4294967296) : Calls Tryd.prog 11 #[.int .u32 s] w (Draws (.int .i64 ((mem s).length : Int)) w) := by
  have ha := and_all_m h0 h1
  obtain ⟨x, hx⟩ : ∃ x : Nat, s % 256 = (x : Int) := ⟨(s % 256).toNat, by omega⟩
  have hx8 : x < 256 := by omega
  have HO := Lib.hid (fun u => ones_any_m x u hx8)
  have hm : mem s = mem (x : Int) := by rw [← hx, mem_mod]
  rw [hm, ← ones_mem hx8]
  rw [hx] at ha
  clear hx hx8 hm h0 h1
  go_enter Tryd.func11, Tryd.ntmps11
  go_wp2_with fail
  refine (HO.out _).mono ?_
  rintro e w' ⟨rfl, q, rfl⟩
  go_wp2
  go_ret
  exact ⟨rfl, _, rfl⟩

end Go.Proofs.YtkbgpmgnkegipaaDoor
