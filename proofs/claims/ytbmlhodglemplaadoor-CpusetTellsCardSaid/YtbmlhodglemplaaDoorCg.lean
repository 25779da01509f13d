/-
  The contracts of the library's Itoa of a digit, and of the landed rowText; what Text's rows are. No statement is proved here.
-/
import Derived.Test.YtbmlhodglemplaaDoorCf
import Derived.Lib.Join
namespace Go.Proofs.YtbmlhodglemplaaDoor
open Go.RowKit

set_option maxRecDepth 100000 in
set_option maxHeartbeats 1000000 in
theorem small_any (n : Nat) (w : World) (h : n < 10) : Calls Tryd.prog 65 #[.int .i64 (n : Int)] w fun e w' => e = .returned (.string (dgB n)) ∧ w = w' := by
  have : n = 0 ∨ n = 1 ∨ n = 2 ∨ n = 3 ∨ n = 4 ∨ n = 5 ∨ n = 6 ∨ n = 7 ∨ n = 8 ∨ n = 9 := by omega
  clear h
  rcases this with rfl | rfl | rfl | rfl | rfl | rfl | rfl | rfl | rfl | rfl
  all_goals
    go_enter Tryd.func65, Tryd.ntmps65
    go_wp2
    go_ret
    exact ⟨rfl, rfl⟩

set_option maxRecDepth 100000 in
set_option maxHeartbeats 1000000 in
theorem format_any (n : Nat) (w : World) (h : n < 10) : Calls Tryd.prog 60 #[.int .i64 (n : Int), .int .i64 10] w fun e w' => e = .returned (.string (dgB n)) ∧ w = w' := by
  have HS := Lib.hid (fun u => small_any n u h)
  have h1 : (n : Int) < 100 := by omega
  have h0 : (0 : Int) ≤ (n : Int) := by omega
  clear h
  generalize dgB n = X at *
  go_enter Tryd.func60, Tryd.ntmps60
  go_wp2_with fail
  refine (HS.out _).mono ?_
  rintro e w' ⟨rfl, rfl⟩
  go_wp2
  go_ret
  exact ⟨rfl, rfl⟩

set_option maxRecDepth 100000 in
set_option maxHeartbeats 1000000 in
theorem itoa_in (n : Nat) (w : World) (h : n < 10) : Calls Tryd.prog 55 #[.int .i64 (n : Int)] w fun e w' => e = .returned (.string (dgB n)) ∧ w = w' := by
  have HS := Lib.hid (fun u => format_any n u h)
  clear h
  generalize dgB n = X at *
  go_enter Tryd.func55, Tryd.ntmps55
  go_wp2_with fail
  refine (HS.out _).mono ?_
  rintro e w' ⟨rfl, rfl⟩
  go_wp2
  go_ret
  exact ⟨rfl, rfl⟩

set_option maxRecDepth 100000 in
set_option maxHeartbeats 1000000 in
theorem itoa_any (n : Nat) (w : World) (h : n < 10) : Calls Tryd.prog 48 #[.int .i64 (n : Int)] w fun e w' => e = .returned (.string (dgB n)) ∧ w = w' := by
  have HS := Lib.hid (fun u => itoa_in n u h)
  clear h
  generalize dgB n = X at *
  go_enter Tryd.func48, Tryd.ntmps48
  go_wp2_with fail
  refine (HS.out _).mono ?_
  rintro e w' ⟨rfl, rfl⟩
  go_wp2
  go_ret
  exact ⟨rfl, rfl⟩

def rowT (i j : Nat) : ByteArray := if i = j then dgB i else dgB i ++ ⟨#[45]⟩ ++ dgB j

set_option maxRecDepth 100000 in
set_option maxHeartbeats 1000000 in
theorem row_any (i j : Nat) (w : World) (hi : i < 10) (hj : j < 10) : Calls Tryd.prog 41 #[.int .i64 (i : Int), .int .i64 (j : Int)] w fun e w' => e = .returned (.string (rowT i j)) ∧ w = w' := by
  have H1 := Lib.hid (fun u => itoa_any i u hi)
  have H2 := Lib.hid (fun u => itoa_any j u hj)
  have d1 := size_dgB i
  have d2 := size_dgB j
  by_cases h : i = j
  · have HV : Hid (rowT i j = dgB i) := Lib.hid (if_pos h)
    subst h
    clear hi hj d1 d2 H2
    generalize dgB i = X at *
    go_enter Tryd.func41, Tryd.ntmps41
    go_wp2_with fail
    refine (H1.out _).mono ?_
    rintro e w' ⟨rfl, rfl⟩
    go_wp2
    go_ret
    exact ⟨by rw [HV.out]; rfl, rfl⟩
  · have HV : Hid (rowT i j = dgB i ++ ⟨#[45]⟩ ++ dgB j) := Lib.hid (if_neg h)
    have hn : ((i : Int) == (j : Int)) = false := by simp; omega
    clear hi hj h
    generalize dgB i = X at *
    generalize dgB j = Y at *
    have g2 : ¬ ((9223372036854775807 : Int) < (X.size : Int) + 1) := by omega
    have g3 : ¬ ((9223372036854775807 : Int) < (X.size : Int) + 1 + (Y.size : Int)) := by omega
    go_enter Tryd.func41, Tryd.ntmps41
    go_wp2_with fail
    refine (H1.out _).mono ?_
    rintro e w' ⟨rfl, rfl⟩
    go_wp2_with fail
    refine (H2.out _).mono ?_
    rintro e w' ⟨rfl, rfl⟩
    go_wp2
    go_ret
    exact ⟨by rw [HV.out]; rfl, rfl⟩

/-- where rows begin, and where they end -/
def begB (s : Nat) : Nat := (bits .andNot .u32 (s : Int) ((s : Int) * 2)).toNat
def endB (s : Nat) : Nat := (bits .andNot .u32 (s : Int) ((s : Int) / 2)).toNat
def rowsT (s : Nat) : List ByteArray := List.zipWith (fun a b => rowT a.toNat b.toNat) (mem (begB s : Int)) (mem (endB s : Int))
def joinT (s : Nat) : List UInt8 := Lib.join ((rowsT s).map (·.data.toList)) [44]
def rowsB (s : Nat) : Bool :=
  bits .andNot .u32 (s : Int) ((s : Int) * 2) == (begB s : Int) && bits .andNot .u32 (s : Int) ((s : Int) / 2) == (endB s : Int) && decide (begB s < 256) && decide (endB s < 256) &&
    (mem (begB s : Int)).length == (mem (endB s : Int)).length && (s == 0 || decide (0 < (mem (begB s : Int)).length)) && (s == 0 || (textB (s : Int)).data.toList == joinT s)
theorem rows_all : (List.range 256).all rowsB = true := by kernel_rfl
theorem rows_facts {s : Nat} (h0 : 0 < s) (h : s < 256) : bits .andNot .u32 (s : Int) ((s : Int) * 2) = (begB s : Int) ∧ bits .andNot .u32 (s : Int) ((s : Int) / 2) = (endB s : Int) ∧ begB s < 256 ∧ endB s < 256 ∧
    (mem (begB s : Int)).length = (mem (endB s : Int)).length ∧ 0 < (mem (begB s : Int)).length ∧ (textB (s : Int)).data.toList = joinT s := by
  have := of_all 256 rows_all h
  unfold rowsB at this
  have hs : (s == 0) = false := by simp; omega
  simp only [hs, Bool.false_or, Bool.and_eq_true, beq_iff_eq, decide_eq_true_eq] at this
  obtain ⟨⟨⟨⟨⟨⟨a, b⟩, c⟩, d⟩, e⟩, f⟩, g⟩ := this
  exact ⟨a, b, c, d, e, f, g⟩
theorem mem_cpu {s : Int} {x : Int} (h : x ∈ mem s) : ∃ n : Nat, x = (n : Int) ∧ n < 8 := by
  unfold mem memb at h
  obtain ⟨h1, h2⟩ := List.mem_filter.1 h
  obtain ⟨n, hn, rfl⟩ := List.mem_map.1 h1
  exact ⟨n, rfl, List.mem_range.1 hn⟩

end Go.Proofs.YtbmlhodglemplaaDoor
