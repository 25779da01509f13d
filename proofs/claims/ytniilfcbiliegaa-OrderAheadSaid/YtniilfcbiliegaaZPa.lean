/-
  The statements' over, plain, and wakes. No statement is proved here.
-/
import Derived.Test.YtniilfcbiliegaaZMo
import Derived.Test.YtniilfcbiliegaaZVd
namespace Go.Proofs.Ytniilfcbiliegaa
open Go.RowKit Go.Maps

set_option maxRecDepth 100000 in
set_option maxHeartbeats 1000000 in
theorem over_lit (a b : Nat) (w : World) : Calls Try.prog 57 #[.int .u64 (a : Int), .int .u64 (b : Int)] w (Said (.agg #[.int .u64 0, .int .u64 (a : Int), .int .u64 (b : Int)]) w) := by
  have K := Blk.new w 45 #[.int .u64 0, .int .u64 (a : Int), .int .u64 (b : Int)]
  have GB := (Below.refl w.heap.size w).alloc (Nat.le_refl _) (.cells #[.int .u64 0, .int .u64 (a : Int), .int .u64 (b : Int)] 45)
  have HP := Lib.hid (And.intro K GB)
  clear K GB
  go_enter Try.func57, Try.ntmps57
  go_wp2_with fail
  exact bodyPost_ret (v := .agg #[.int .u64 0, .int .u64 (a : Int), .int .u64 (b : Int)]) (results_cell_row Try.results57 _ _ _ _ _ _ _ rfl HP.out.1 Try.underlying45 rfl (by kernel_rfl)) rfl ⟨rfl, HP.out.2⟩

theorem reads_blk {w : World} {g : Nat} {t : TypeId} {cs : Array Value} (h : Blk w g t cs) {xs : List Value} (hx : cs.toList = xs) {n k : Nat} (hl : xs.length = n * k) : Reads w w.heap.size k (some ⟨g, 0, none⟩) n xs := by
  refine ⟨hl, fun _ => ⟨_, rfl, h.lt, fun j u hj => ?_⟩⟩
  rw [Addr.add_lit, Nat.zero_add, h.cell j]
  rw [← hx] at hj
  simpa using hj
def plQ : List Rn := [(1, 1, 0, 10, 1), (2, 1, 0, 20, 2), (3, 1, 0, 5, 1)]
def plW : List Wt := [(1, 3, false), (2, 1, false), (3, 2, false)]
def plA : Array Value := #[.int .i64 1, .int .i64 1, .int .u64 0, .int .u64 10, .int .u64 1, .int .i64 2, .int .i64 1, .int .u64 0, .int .u64 20, .int .u64 2, .int .i64 3, .int .i64 1, .int .u64 0, .int .u64 5, .int .u64 1]
def plB : Array Value := #[.int .i64 1, .int .u64 3, .bool false, .int .i64 2, .int .u64 1, .bool false, .int .i64 3, .int .u64 2, .bool false]
theorem plQ_rows : plA.toList = flat rv plQ := rfl
theorem plW_rows : plB.toList = flat wtv plW := rfl
theorem plain_q {w : World} {g : Nat} (h : Blk w g 59 plA) : QR w (some ⟨g, 0, none⟩) 3 3 plQ :=
  ⟨reads_blk h plQ_rows rfl, Nat.le_refl _, by omega, fun r hr => by
    simp only [plQ, List.mem_cons, List.not_mem_nil, or_false] at hr
    rcases hr with rfl | rfl | rfl <;> exact ⟨by decide, by decide, by decide⟩⟩
theorem plain_w {w : World} {g : Nat} (h : Blk w g 67 plB) : WT w (some ⟨g, 0, none⟩) 3 3 plW :=
  ⟨reads_blk h plW_rows rfl, Nat.le_refl _, by omega, fun r hr => by
    simp only [plW, List.mem_cons, List.not_mem_nil, or_false] at hr
    rcases hr with rfl | rfl | rfl <;> decide⟩
/-- a queue and its waits in memory of their own -/
def Plain (w : World) (e : Ending) (w' : World) : Prop := ∃ g g', e = .returned (.tuple #[.agg #[.slice (some ⟨g, 0, none⟩) 3 3], .slice (some ⟨g', 0, none⟩) 3 3]) ∧ Blk w' g 59 plA ∧ Blk w' g' 67 plB ∧ Below w.heap.size w w'

set_option maxRecDepth 100000 in
set_option maxHeartbeats 4000000 in
theorem plain_any (w : World) : Calls Try.prog 30 #[] w (Plain w) := by
  obtain ⟨K0, GB⟩ := box1 w 26 #[.slice none 0 0]
  have HO := Lib.hid (fun (a b : Nat) (u : World) => over_lit a b u)
  go_enter Try.func30, Try.ntmps30
  go_wp2_with fail
  refine (HO.out 10 1 _).mono ?_
  rintro e w1 ⟨rfl, h9⟩
  replace K0 := K0.below h9 K0.lt
  replace GB := GB.trans (h9.mono GB.size)
  clear h9
  go_wp2_with fail
  refine (HO.out 20 2 _).mono ?_
  rintro e w2 ⟨rfl, h9⟩
  replace K0 := K0.below h9 K0.lt
  replace GB := GB.trans (h9.mono GB.size)
  clear h9
  go_wp2_with fail
  refine (HO.out 5 1 _).mono ?_
  rintro e w3 ⟨rfl, h9⟩
  replace K0 := K0.below h9 K0.lt
  replace GB := GB.trans (h9.mono GB.size)
  clear h9
  have HLT : Hid (w.heap.size < w3.heap.size) := Lib.hid K0.lt
  have KA := Blk.new w3 59 plA
  have K1 := K0.alloc (.cells plA 59)
  have G1 := GB.alloc GB.size (.cells plA 59)
  have HSZ : Hid ((w3.alloc (.cells plA 59)).heap.size = w3.heap.size + 1) := Lib.hid (by simp)
  have KB := Blk.new (w3.alloc (.cells plA 59)) 26 #[.slice (some ⟨w3.heap.size, 0, none⟩) 3 3]
  rw [HSZ.out] at KB
  replace KA := KA.alloc (.cells #[.slice (some ⟨w3.heap.size, 0, none⟩) 3 3] 26)
  replace K1 := K1.alloc (.cells #[.slice (some ⟨w3.heap.size, 0, none⟩) 3 3] 26)
  replace G1 := G1.alloc G1.size (.cells #[.slice (some ⟨w3.heap.size, 0, none⟩) 3 3] 26)
  have HSZ2 : Hid (((w3.alloc (.cells plA 59)).alloc (.cells #[.slice (some ⟨w3.heap.size, 0, none⟩) 3 3] 26)).heap.size = w3.heap.size + 1 + 1) := Lib.hid (by simp)
  clear K0 GB
  obtain ⟨X, hX⟩ : ∃ X, (w3.alloc (.cells plA 59)).alloc (.cells #[.slice (some ⟨w3.heap.size, 0, none⟩) 3 3] 26) = X := ⟨_, rfl⟩
  rw [hX] at KA K1 G1 KB HSZ2
  have HX := Lib.hid hX
  unfold plA at hX
  go_upto_region 2 with fail
  clear hX
  have z0 := KB.cell 0
  have KW := Blk.new X 67 plB
  rw [HSZ2.out] at KW
  have K2 := K1.alloc (.cells plB 67)
  have G2 := G1.alloc G1.size (.cells plB 67)
  have HP := Lib.hid (put1 (x := .slice (some ⟨w3.heap.size, 0, none⟩) 3 3) K2 G2 (Nat.le_refl _))
  have HKA := Lib.hid ((KA.alloc (.cells plB 67)).far (p := ⟨w.heap.size, 0, none⟩) (by have := HLT.out; show w3.heap.size ≠ w.heap.size; omega) (.slice (some ⟨w3.heap.size, 0, none⟩) 3 3))
  have HKW := Lib.hid (KW.far (p := ⟨w.heap.size, 0, none⟩) (by have := HLT.out; show w3.heap.size + 1 + 1 ≠ w.heap.size; omega) (.slice (some ⟨w3.heap.size, 0, none⟩) 3 3))
  have r0 := K2.cell 0
  have f0 := K2.frozen 0
  have q0 := K1.cell 0
  have g0 := K1.frozen 0
  clear KB K1 KA K2 G2 G1 KW
  unfold plB at *
  go_wp2_with fail
  rw [HSZ2.out]
  exact bodyPost_ret (v := .tuple #[.agg #[.slice (some ⟨w3.heap.size, 0, none⟩) 3 3], .slice (some ⟨w3.heap.size + 1 + 1, 0, none⟩) 3 3]) (results_cell_row_tmp Try.results30 _ _ _ _ _ _ rfl HP.out.1 Try.underlying26 rfl (by kernel_rfl)) rfl ⟨_, _, rfl, HKA.out, HKW.out, HP.out.2⟩

end Go.Proofs.Ytniilfcbiliegaa
