/-
  The laws' wakes. No statement is proved here.
-/
import Derived.Test.YtbhcpkmofnfjgaaWp
import Derived.Test.YtbhcpkmofnfjgaaWk
namespace Go.Proofs.Ytbhcpkmofnfjgaa
open Go.RowKit

theorem wake_set : setV 60 [] 1 64 = ((60, [(1, 64)]), 0) := by decide
theorem wake_place : placeV 60 [(1, 64)] 1 = ((1, 1), true) := by decide
theorem wake_pass : passV 60 [(1, 64)] 64 = (((64, []), [(1, 64)]), 0) := by decide
/-- two cells at the head of a row of one's own -/
theorem own_head {w : World} {b n c : Nat} {A : Option Addr} {ts : List Tm} {a b' : Int} (h : w.ownsRow b 44 2 (.slice A n c) n (flat tv ((a, b') :: ts))) : ∃ g, A = some ⟨g, 0, none⟩ ∧ b ≤ g ∧ g < w.heap.size ∧ w.cell? ⟨g, 0, none⟩ = some (.int .i64 a) ∧ w.cell? ⟨g, 1, none⟩ = some (.int .i64 b') := by
  have hn : 0 < n := by have := own_len9 h; simp at this; omega
  obtain ⟨g, cur, rfl, hbg, K, -, -, -, -⟩ := blk_own h hn
  obtain ⟨ad, e1, -, c0, c1⟩ := tm_at (Reads.of_own h) (k := 0) rfl
  injection e1 with e1
  subst e1
  exact ⟨g, rfl, hbg, K.lt, c0, c1⟩

set_option maxRecDepth 100000 in
set_option maxHeartbeats 4000000 in
theorem wakes_any (w : World) : Calls Try.prog 8 #[] w (Said (.bool true) w) := by
  have HSe := Lib.hid (fun (u : World) => set_any 60 none 0 0 [] 1 64 u ⟨Reads.none_, by omega⟩)
  have HPl := Lib.hid (fun (u : World) (A : Option Addr) (c : Nat) (h : WR u A 1 [(1, 64)]) => place_any 60 A 1 c [(1, 64)] 1 u h)
  have HPa := Lib.hid (fun (u : World) (A : Option Addr) (c : Nat) (h : WR u A 1 [(1, 64)]) => pass_any 60 A 1 c [(1, 64)] 64 u h)
  rw [wake_set] at HSe
  rw [wake_place] at HPl
  rw [wake_pass] at HPa
  go_enter Try.func8, Try.ntmps8
  go_wp2_with fail
  refine (HSe.out _).mono ?_
  rintro e w1 ⟨A1, n1, c1, rfl, hl1, O1, h9⟩
  obtain rfl : n1 = 1 := by simpa using hl1.symm
  have GB := h9
  have HW := Lib.hid (WR.of_own O1 (by omega))
  have K1 := Blk.new w1 24 #[.int .i64 60, .slice A1 1 c1]
  have HB1 := (Below.refl w1.heap.size w1).alloc (Nat.le_refl _) (.cells #[.int .i64 60, .slice A1 1 c1] 24)
  replace GB := GB.alloc GB.size (.cells #[.int .i64 60, .slice A1 1 c1] 24)
  have HW1 := Lib.hid (HW.out.below HB1)
  have z0 := K1.cell 0
  have z1 := K1.cell 1
  clear h9 hl1 O1 HB1 HW HSe
  go_wp2_with fail
  refine (HPl.out _ A1 c1 HW1.out).mono ?_
  rintro e w2 ⟨rfl, h9⟩
  replace K1 := K1.below h9 K1.lt
  have HW2 := Lib.hid (HW1.out.below h9)
  replace GB := GB.trans (h9.mono GB.size)
  clear h9 z0 z1 HW1 HPl
  have z0 := K1.cell 0
  have z1 := K1.cell 1
  go_wp2_with fail
  refine (HPa.out _ A1 c1 HW2.out).mono ?_
  rintro e w3 ⟨A2, n2, c2, B2, m2, d2, rfl, hl2, hl3, O2, O3, h9⟩
  obtain rfl : m2 = 1 := by simpa using hl3.symm
  obtain ⟨g, rfl, -, hg, q0, q1⟩ := own_head O3
  replace GB := GB.trans (h9.mono GB.size)
  have HB3 := (Below.refl w3.heap.size w3).alloc (Nat.le_refl _) (.cells #[.int .i64 64, .slice A2 n2 c2] 24)
  replace GB := GB.alloc GB.size (.cells #[.int .i64 64, .slice A2 n2 c2] 24)
  have p0 := (HB3.cell (p := ⟨g, 0, none⟩) hg).trans q0
  have p1 := (HB3.cell (p := ⟨g, 1, none⟩) hg).trans q1
  clear h9 z0 z1 K1 O2 O3 HB3 hl2 hl3 HW2 HPa hg
  go_wp2_with fail
  go_ret
  exact ⟨rfl, GB⟩

end Go.Proofs.Ytbhcpkmofnfjgaa
