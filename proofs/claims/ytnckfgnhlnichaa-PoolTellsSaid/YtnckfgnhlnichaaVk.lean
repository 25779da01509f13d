/-
  PoolBack's walk, on what is asked of the landed calls.
-/
import Derived.Test.YtnckfgnhlnichaaVz
namespace Go.Proofs.Ytnckfgnhlnichaa
open Go.RowKit

theorem u32s_take {l : List Nat} (h : U32s l) (k : Nat) : U32s (l.take k) := fun x hx => h x (List.mem_of_mem_take hx)
theorem u32s_right {l : List Nat} (h : rightP l = true) : U32s l := fun x hx => by
  obtain ⟨k, hk, rfl⟩ := List.getElem_of_mem hx
  have := (sets_at (right_parts8 h).2.2.1 (List.getElem?_eq_getElem hk)).1
  omega
theorem right_len {l : List Nat} (h : rightP l = true) : l.length ≤ 1000 := by have := right_parts8 h; omega
theorem split_none {l l' : List Nat} {f k e : Int} {s : Nat} (h : splitV l f s = (l', k, e)) (he : e ≠ 0) : l' = [] := by
  unfold splitV at h
  (repeat' split at h) <;> simp only [Prod.mk.injEq] at h <;> first | exact h.1.symm | exact absurd h.2.2.symm he
theorem move_none {l l' : List Nat} {c t k e : Int} (h : moveV l c t = (l', k, e)) (he : e ≠ 0) : l' = [] := by
  unfold moveV at h
  (repeat' split at h) <;> simp only [Prod.mk.injEq] at h <;> first | exact h.1.symm | exact absurd h.2.2.symm he
abbrev OpV (k a b cpu : Int) (s : Nat) : Array Value := #[.int .i64 k, .int .i64 a, .int .i64 b, .int .i64 cpu, .int .u32 (s : Int)]

set_option maxRecDepth 100000 in
set_option maxHeartbeats 16000000 in
theorem back_no_no {G : World → Prop} (HG : Hid (Steady G)) (A : Option Addr) (n c : Nat) (L : List Nat) (k a b cpu : Int) (s : Nat) (w : World) (HU : Hid (U32s L)) (HRi : Hid (rightP L = true)) (HGs : Hid (∀ u : World, Below w.heap.size w u → G u))
    (HK : Hid (∀ u, G u → Calls Try.prog 9 #[] u (Said (.bool true) u)))
    (HSh : Hid (∀ (u : World), Below w.heap.size w u → Calls Try.prog 10 #[.agg #[.slice A n c]] u (GivesP L u)))
    (HCk : Hid (∀ (A : Option Addr) (n c : Nat) (u : World), PAt G u A n c L → Calls Try.prog 16 #[.agg #[.slice A n c]] u (Said (.int .i64 0) u)))
    (e1 n1 : Int) (he1 : (e1 == 0) = false)
    (HSp : Hid (∀ (A : Option Addr) (n c : Nat) (u : World), PAt G u A n c L → Calls Try.prog 29 #[.agg #[.slice A n c], .int .i64 a, .int .u32 (s : Int)] u (GivesP3 ([], n1, e1) u)))
    (e2 n2 : Int) (he2 : (e2 != 0) = true)
    (HMo : Hid (∀ (A : Option Addr) (n c : Nat) (u : World), PAt G u A n c L → Calls Try.prog 31 #[.agg #[.slice A n c], .int .i64 cpu, .int .i64 b] u (GivesP3 ([], n2, e2) u))) :
    Calls Try.prog 7 #[.agg #[.slice A n c], .agg (OpV k a b cpu s)] w (Said (.bool true) w) := by
  obtain ⟨K0, KA, B⟩ := blks2 w 24 31 #[.slice A n c] (OpV k a b cpu s)
  unfold OpV at *
  go_enter Try.func7, Try.ntmps7
  have kK00 : ((w.alloc (.cells #[.slice A n c] 24)).alloc (.cells #[.int .i64 k, .int .i64 a, .int .i64 b, .int .i64 cpu, .int .u32 (s : Int)] 31)).cell? ⟨w.heap.size, 0, none⟩ = some (.slice A n c) := K0.cell 0
  have kKA0 : ((w.alloc (.cells #[.slice A n c] 24)).alloc (.cells #[.int .i64 k, .int .i64 a, .int .i64 b, .int .i64 cpu, .int .u32 (s : Int)] 31)).cell? ⟨w.heap.size + 1, 0, none⟩ = some (.int .i64 k) := KA.cell 0
  have kKA1 : ((w.alloc (.cells #[.slice A n c] 24)).alloc (.cells #[.int .i64 k, .int .i64 a, .int .i64 b, .int .i64 cpu, .int .u32 (s : Int)] 31)).cell? ⟨w.heap.size + 1, 1, none⟩ = some (.int .i64 a) := KA.cell 1
  have kKA2 : ((w.alloc (.cells #[.slice A n c] 24)).alloc (.cells #[.int .i64 k, .int .i64 a, .int .i64 b, .int .i64 cpu, .int .u32 (s : Int)] 31)).cell? ⟨w.heap.size + 1, 2, none⟩ = some (.int .i64 b) := KA.cell 2
  have kKA3 : ((w.alloc (.cells #[.slice A n c] 24)).alloc (.cells #[.int .i64 k, .int .i64 a, .int .i64 b, .int .i64 cpu, .int .u32 (s : Int)] 31)).cell? ⟨w.heap.size + 1, 3, none⟩ = some (.int .i64 cpu) := KA.cell 3
  have kKA4 : ((w.alloc (.cells #[.slice A n c] 24)).alloc (.cells #[.int .i64 k, .int .i64 a, .int .i64 b, .int .i64 cpu, .int .u32 (s : Int)] 31)).cell? ⟨w.heap.size + 1, 4, none⟩ = some (.int .u32 (s : Int)) := KA.cell 4
  go_wp2_with fail
  refine (HK.out _ (HGs.out _ B)).mono ?_
  rintro e w1 ⟨rfl, h9⟩
  clear kK00 kKA0 kKA1 kKA2 kKA3 kKA4
  replace K0 := K0.below h9 K0.lt
  replace KA := KA.below h9 KA.lt
  have B2 := B.trans (h9.mono B.size)
  clear B
  have B := B2
  clear B2
  have kK00 : w1.cell? ⟨w.heap.size, 0, none⟩ = some (.slice A n c) := K0.cell 0
  have kKA0 : w1.cell? ⟨w.heap.size + 1, 0, none⟩ = some (.int .i64 k) := KA.cell 0
  have kKA1 : w1.cell? ⟨w.heap.size + 1, 1, none⟩ = some (.int .i64 a) := KA.cell 1
  have kKA2 : w1.cell? ⟨w.heap.size + 1, 2, none⟩ = some (.int .i64 b) := KA.cell 2
  have kKA3 : w1.cell? ⟨w.heap.size + 1, 3, none⟩ = some (.int .i64 cpu) := KA.cell 3
  have kKA4 : w1.cell? ⟨w.heap.size + 1, 4, none⟩ = some (.int .u32 (s : Int)) := KA.cell 4
  go_wp2_with fail
  refine (HSh.out _ B).mono ?_
  rintro e w2 ⟨A5, c5, rfl, own5, h9⟩
  clear kK00 kKA0 kKA1 kKA2 kKA3 kKA4
  obtain ⟨n5, hn5⟩ : ∃ n5, L.length = n5 := ⟨_, rfl⟩
  rw [hn5] at own5 ⊢
  replace K0 := K0.below h9 K0.lt
  replace KA := KA.below h9 KA.lt
  have B2 := B.trans (h9.mono B.size)
  clear B
  have B := B2
  clear B2 h9
  have AtP : Hid (PAt G w2 A5 n5 c5 L) := Lib.hid (PAt.own own5 (by have := right_len HRi.out; omega) HU.out (HGs.out _ B))
  clear own5
  have KP := Blk.new w2 24 #[.slice A5 n5 c5]
  replace K0 := K0.alloc (.cells #[.slice A5 n5 c5] 24)
  replace KA := KA.alloc (.cells #[.slice A5 n5 c5] 24)
  replace AtP := Lib.hid (AtP.out.below HG.out ((Below.refl _ w2).alloc (Nat.le_refl _) (.cells #[.slice A5 n5 c5] 24)))
  replace B := B.alloc B.size (.cells #[.slice A5 n5 c5] 24)
  have kK00 : (w2.alloc (.cells #[.slice A5 n5 c5] 24)).cell? ⟨w.heap.size, 0, none⟩ = some (.slice A n c) := K0.cell 0
  have kKA0 : (w2.alloc (.cells #[.slice A5 n5 c5] 24)).cell? ⟨w.heap.size + 1, 0, none⟩ = some (.int .i64 k) := KA.cell 0
  have kKA1 : (w2.alloc (.cells #[.slice A5 n5 c5] 24)).cell? ⟨w.heap.size + 1, 1, none⟩ = some (.int .i64 a) := KA.cell 1
  have kKA2 : (w2.alloc (.cells #[.slice A5 n5 c5] 24)).cell? ⟨w.heap.size + 1, 2, none⟩ = some (.int .i64 b) := KA.cell 2
  have kKA3 : (w2.alloc (.cells #[.slice A5 n5 c5] 24)).cell? ⟨w.heap.size + 1, 3, none⟩ = some (.int .i64 cpu) := KA.cell 3
  have kKA4 : (w2.alloc (.cells #[.slice A5 n5 c5] 24)).cell? ⟨w.heap.size + 1, 4, none⟩ = some (.int .u32 (s : Int)) := KA.cell 4
  have kKP0 : (w2.alloc (.cells #[.slice A5 n5 c5] 24)).cell? ⟨w2.heap.size, 0, none⟩ = some (.slice A5 n5 c5) := KP.cell 0
  go_wp2_with fail
  refine (HCk.out _ _ _ _ AtP.out).mono ?_
  rintro e w3 ⟨rfl, h9⟩
  clear kK00 kKA0 kKA1 kKA2 kKA3 kKA4 kKP0
  replace K0 := K0.below h9 K0.lt
  replace KA := KA.below h9 KA.lt
  replace KP := KP.below h9 KP.lt
  replace AtP := Lib.hid (AtP.out.below HG.out h9)
  have B2 := B.trans (h9.mono B.size)
  clear B
  have B := B2
  clear B2
  clear h9
  have kK00 : w3.cell? ⟨w.heap.size, 0, none⟩ = some (.slice A n c) := K0.cell 0
  have kKA0 : w3.cell? ⟨w.heap.size + 1, 0, none⟩ = some (.int .i64 k) := KA.cell 0
  have kKA1 : w3.cell? ⟨w.heap.size + 1, 1, none⟩ = some (.int .i64 a) := KA.cell 1
  have kKA2 : w3.cell? ⟨w.heap.size + 1, 2, none⟩ = some (.int .i64 b) := KA.cell 2
  have kKA3 : w3.cell? ⟨w.heap.size + 1, 3, none⟩ = some (.int .i64 cpu) := KA.cell 3
  have kKA4 : w3.cell? ⟨w.heap.size + 1, 4, none⟩ = some (.int .u32 (s : Int)) := KA.cell 4
  have kKP0 : w3.cell? ⟨w2.heap.size, 0, none⟩ = some (.slice A5 n5 c5) := KP.cell 0
  go_wp2_with fail
  refine (HSp.out _ _ _ _ AtP.out).mono ?_
  rintro e w4 ⟨A6, c6, rfl, own6, h9⟩
  clear kK00 kKA0 kKA1 kKA2 kKA3 kKA4 kKP0
  replace K0 := K0.below h9 K0.lt
  replace KA := KA.below h9 KA.lt
  replace KP := KP.below h9 KP.lt
  replace AtP := Lib.hid (AtP.out.below HG.out h9)
  have B2 := B.trans (h9.mono B.size)
  clear B
  have B := B2
  clear B2 h9
  rw [show (([], n1, e1) : List Nat × Int × Int).1.length = 0 from rfl] at own6 ⊢
  clear own6
  have KQ := Blk.new w4 24 #[.slice A6 0 c6]
  replace K0 := K0.alloc (.cells #[.slice A6 0 c6] 24)
  replace KA := KA.alloc (.cells #[.slice A6 0 c6] 24)
  replace KP := KP.alloc (.cells #[.slice A6 0 c6] 24)
  replace AtP := Lib.hid (AtP.out.below HG.out ((Below.refl _ w4).alloc (Nat.le_refl _) (.cells #[.slice A6 0 c6] 24)))
  replace B := B.alloc B.size (.cells #[.slice A6 0 c6] 24)
  have kK00 : (w4.alloc (.cells #[.slice A6 0 c6] 24)).cell? ⟨w.heap.size, 0, none⟩ = some (.slice A n c) := K0.cell 0
  have kKA0 : (w4.alloc (.cells #[.slice A6 0 c6] 24)).cell? ⟨w.heap.size + 1, 0, none⟩ = some (.int .i64 k) := KA.cell 0
  have kKA1 : (w4.alloc (.cells #[.slice A6 0 c6] 24)).cell? ⟨w.heap.size + 1, 1, none⟩ = some (.int .i64 a) := KA.cell 1
  have kKA2 : (w4.alloc (.cells #[.slice A6 0 c6] 24)).cell? ⟨w.heap.size + 1, 2, none⟩ = some (.int .i64 b) := KA.cell 2
  have kKA3 : (w4.alloc (.cells #[.slice A6 0 c6] 24)).cell? ⟨w.heap.size + 1, 3, none⟩ = some (.int .i64 cpu) := KA.cell 3
  have kKA4 : (w4.alloc (.cells #[.slice A6 0 c6] 24)).cell? ⟨w.heap.size + 1, 4, none⟩ = some (.int .u32 (s : Int)) := KA.cell 4
  have kKP0 : (w4.alloc (.cells #[.slice A6 0 c6] 24)).cell? ⟨w2.heap.size, 0, none⟩ = some (.slice A5 n5 c5) := KP.cell 0
  have kKQ0 : (w4.alloc (.cells #[.slice A6 0 c6] 24)).cell? ⟨w4.heap.size, 0, none⟩ = some (.slice A6 0 c6) := KQ.cell 0
  go_wp2_with fail
  refine (HMo.out _ _ _ _ AtP.out).mono ?_
  rintro e w9 ⟨A8, c8, rfl, own8, h9⟩
  clear kK00 kKA0 kKA1 kKA2 kKA3 kKA4 kKP0 kKQ0
  replace K0 := K0.below h9 K0.lt
  replace KA := KA.below h9 KA.lt
  replace KP := KP.below h9 KP.lt
  replace KQ := KQ.below h9 KQ.lt
  replace AtP := Lib.hid (AtP.out.below HG.out h9)
  have B2 := B.trans (h9.mono B.size)
  clear B
  have B := B2
  clear B2 h9
  rw [show (([], n2, e2) : List Nat × Int × Int).1.length = 0 from rfl] at own8 ⊢
  clear own8
  have KM := Blk.new w9 24 #[.slice A8 0 c8]
  replace K0 := K0.alloc (.cells #[.slice A8 0 c8] 24)
  replace KA := KA.alloc (.cells #[.slice A8 0 c8] 24)
  replace KP := KP.alloc (.cells #[.slice A8 0 c8] 24)
  replace KQ := KQ.alloc (.cells #[.slice A8 0 c8] 24)
  replace AtP := Lib.hid (AtP.out.below HG.out ((Below.refl _ w9).alloc (Nat.le_refl _) (.cells #[.slice A8 0 c8] 24)))
  replace B := B.alloc B.size (.cells #[.slice A8 0 c8] 24)
  have BH := Lib.hid B
  have kK00 : (w9.alloc (.cells #[.slice A8 0 c8] 24)).cell? ⟨w.heap.size, 0, none⟩ = some (.slice A n c) := K0.cell 0
  have kKA0 : (w9.alloc (.cells #[.slice A8 0 c8] 24)).cell? ⟨w.heap.size + 1, 0, none⟩ = some (.int .i64 k) := KA.cell 0
  have kKA1 : (w9.alloc (.cells #[.slice A8 0 c8] 24)).cell? ⟨w.heap.size + 1, 1, none⟩ = some (.int .i64 a) := KA.cell 1
  have kKA2 : (w9.alloc (.cells #[.slice A8 0 c8] 24)).cell? ⟨w.heap.size + 1, 2, none⟩ = some (.int .i64 b) := KA.cell 2
  have kKA3 : (w9.alloc (.cells #[.slice A8 0 c8] 24)).cell? ⟨w.heap.size + 1, 3, none⟩ = some (.int .i64 cpu) := KA.cell 3
  have kKA4 : (w9.alloc (.cells #[.slice A8 0 c8] 24)).cell? ⟨w.heap.size + 1, 4, none⟩ = some (.int .u32 (s : Int)) := KA.cell 4
  have kKP0 : (w9.alloc (.cells #[.slice A8 0 c8] 24)).cell? ⟨w2.heap.size, 0, none⟩ = some (.slice A5 n5 c5) := KP.cell 0
  have kKQ0 : (w9.alloc (.cells #[.slice A8 0 c8] 24)).cell? ⟨w4.heap.size, 0, none⟩ = some (.slice A6 0 c6) := KQ.cell 0
  have kKM0 : (w9.alloc (.cells #[.slice A8 0 c8] 24)).cell? ⟨w9.heap.size, 0, none⟩ = some (.slice A8 0 c8) := KM.cell 0
  go_wp2
  go_ret
  exact ⟨rfl, BH.out⟩

set_option maxRecDepth 100000 in
set_option maxHeartbeats 16000000 in
theorem back_no_yes {G : World → Prop} (HG : Hid (Steady G)) (A : Option Addr) (n c : Nat) (L : List Nat) (k a b cpu : Int) (s : Nat) (w : World) (HU : Hid (U32s L)) (HRi : Hid (rightP L = true)) (HGs : Hid (∀ u : World, Below w.heap.size w u → G u))
    (HK : Hid (∀ u, G u → Calls Try.prog 9 #[] u (Said (.bool true) u)))
    (HSh : Hid (∀ (u : World), Below w.heap.size w u → Calls Try.prog 10 #[.agg #[.slice A n c]] u (GivesP L u)))
    (HCk : Hid (∀ (A : Option Addr) (n c : Nat) (u : World), PAt G u A n c L → Calls Try.prog 16 #[.agg #[.slice A n c]] u (Said (.int .i64 0) u)))
    (e1 n1 : Int) (he1 : (e1 == 0) = false)
    (HSp : Hid (∀ (A : Option Addr) (n c : Nat) (u : World), PAt G u A n c L → Calls Try.prog 29 #[.agg #[.slice A n c], .int .i64 a, .int .u32 (s : Int)] u (GivesP3 ([], n1, e1) u)))
    (HSa : Hid (∀ (A A' : Option Addr) (n c n' c' : Nat) (u : World), PAt G u A n c L → PAt G u A' n' c' L → Calls Try.prog 17 #[.agg #[.slice A n c], .agg #[.slice A' n' c']] u (Said (.bool true) u)))
    (n2 : Int) (L2 : List Nat) (HU2 : Hid (U32s L2 ∧ L2.length ≤ 1000))
    (HMo : Hid (∀ (A : Option Addr) (n c : Nat) (u : World), PAt G u A n c L → Calls Try.prog 31 #[.agg #[.slice A n c], .int .i64 cpu, .int .i64 b] u (GivesP3 (L2, n2, 0) u)))
    (HOf : Hid (∀ (A : Option Addr) (n c : Nat) (u : World), PAt G u A n c L2 → Calls Try.prog 19 #[.agg #[.slice A n c], .int .i64 cpu] u (Said (.tuple #[.int .i64 b, .bool true]) u)))
    (HMb : Hid (∀ (A : Option Addr) (n c : Nat) (u : World), PAt G u A n c L2 → Calls Try.prog 31 #[.agg #[.slice A n c], .int .i64 cpu, .int .i64 n2] u (GivesP3 (L, b, 0) u))) :
    Calls Try.prog 7 #[.agg #[.slice A n c], .agg (OpV k a b cpu s)] w (Said (.bool true) w) := by
  obtain ⟨K0, KA, B⟩ := blks2 w 24 31 #[.slice A n c] (OpV k a b cpu s)
  unfold OpV at *
  go_enter Try.func7, Try.ntmps7
  have kK00 : ((w.alloc (.cells #[.slice A n c] 24)).alloc (.cells #[.int .i64 k, .int .i64 a, .int .i64 b, .int .i64 cpu, .int .u32 (s : Int)] 31)).cell? ⟨w.heap.size, 0, none⟩ = some (.slice A n c) := K0.cell 0
  have kKA0 : ((w.alloc (.cells #[.slice A n c] 24)).alloc (.cells #[.int .i64 k, .int .i64 a, .int .i64 b, .int .i64 cpu, .int .u32 (s : Int)] 31)).cell? ⟨w.heap.size + 1, 0, none⟩ = some (.int .i64 k) := KA.cell 0
  have kKA1 : ((w.alloc (.cells #[.slice A n c] 24)).alloc (.cells #[.int .i64 k, .int .i64 a, .int .i64 b, .int .i64 cpu, .int .u32 (s : Int)] 31)).cell? ⟨w.heap.size + 1, 1, none⟩ = some (.int .i64 a) := KA.cell 1
  have kKA2 : ((w.alloc (.cells #[.slice A n c] 24)).alloc (.cells #[.int .i64 k, .int .i64 a, .int .i64 b, .int .i64 cpu, .int .u32 (s : Int)] 31)).cell? ⟨w.heap.size + 1, 2, none⟩ = some (.int .i64 b) := KA.cell 2
  have kKA3 : ((w.alloc (.cells #[.slice A n c] 24)).alloc (.cells #[.int .i64 k, .int .i64 a, .int .i64 b, .int .i64 cpu, .int .u32 (s : Int)] 31)).cell? ⟨w.heap.size + 1, 3, none⟩ = some (.int .i64 cpu) := KA.cell 3
  have kKA4 : ((w.alloc (.cells #[.slice A n c] 24)).alloc (.cells #[.int .i64 k, .int .i64 a, .int .i64 b, .int .i64 cpu, .int .u32 (s : Int)] 31)).cell? ⟨w.heap.size + 1, 4, none⟩ = some (.int .u32 (s : Int)) := KA.cell 4
  go_wp2_with fail
  refine (HK.out _ (HGs.out _ B)).mono ?_
  rintro e w1 ⟨rfl, h9⟩
  clear kK00 kKA0 kKA1 kKA2 kKA3 kKA4
  replace K0 := K0.below h9 K0.lt
  replace KA := KA.below h9 KA.lt
  have B2 := B.trans (h9.mono B.size)
  clear B
  have B := B2
  clear B2
  have kK00 : w1.cell? ⟨w.heap.size, 0, none⟩ = some (.slice A n c) := K0.cell 0
  have kKA0 : w1.cell? ⟨w.heap.size + 1, 0, none⟩ = some (.int .i64 k) := KA.cell 0
  have kKA1 : w1.cell? ⟨w.heap.size + 1, 1, none⟩ = some (.int .i64 a) := KA.cell 1
  have kKA2 : w1.cell? ⟨w.heap.size + 1, 2, none⟩ = some (.int .i64 b) := KA.cell 2
  have kKA3 : w1.cell? ⟨w.heap.size + 1, 3, none⟩ = some (.int .i64 cpu) := KA.cell 3
  have kKA4 : w1.cell? ⟨w.heap.size + 1, 4, none⟩ = some (.int .u32 (s : Int)) := KA.cell 4
  go_wp2_with fail
  refine (HSh.out _ B).mono ?_
  rintro e w2 ⟨A5, c5, rfl, own5, h9⟩
  clear kK00 kKA0 kKA1 kKA2 kKA3 kKA4
  obtain ⟨n5, hn5⟩ : ∃ n5, L.length = n5 := ⟨_, rfl⟩
  rw [hn5] at own5 ⊢
  replace K0 := K0.below h9 K0.lt
  replace KA := KA.below h9 KA.lt
  have B2 := B.trans (h9.mono B.size)
  clear B
  have B := B2
  clear B2 h9
  have AtP : Hid (PAt G w2 A5 n5 c5 L) := Lib.hid (PAt.own own5 (by have := right_len HRi.out; omega) HU.out (HGs.out _ B))
  clear own5
  have KP := Blk.new w2 24 #[.slice A5 n5 c5]
  replace K0 := K0.alloc (.cells #[.slice A5 n5 c5] 24)
  replace KA := KA.alloc (.cells #[.slice A5 n5 c5] 24)
  replace AtP := Lib.hid (AtP.out.below HG.out ((Below.refl _ w2).alloc (Nat.le_refl _) (.cells #[.slice A5 n5 c5] 24)))
  replace B := B.alloc B.size (.cells #[.slice A5 n5 c5] 24)
  have kK00 : (w2.alloc (.cells #[.slice A5 n5 c5] 24)).cell? ⟨w.heap.size, 0, none⟩ = some (.slice A n c) := K0.cell 0
  have kKA0 : (w2.alloc (.cells #[.slice A5 n5 c5] 24)).cell? ⟨w.heap.size + 1, 0, none⟩ = some (.int .i64 k) := KA.cell 0
  have kKA1 : (w2.alloc (.cells #[.slice A5 n5 c5] 24)).cell? ⟨w.heap.size + 1, 1, none⟩ = some (.int .i64 a) := KA.cell 1
  have kKA2 : (w2.alloc (.cells #[.slice A5 n5 c5] 24)).cell? ⟨w.heap.size + 1, 2, none⟩ = some (.int .i64 b) := KA.cell 2
  have kKA3 : (w2.alloc (.cells #[.slice A5 n5 c5] 24)).cell? ⟨w.heap.size + 1, 3, none⟩ = some (.int .i64 cpu) := KA.cell 3
  have kKA4 : (w2.alloc (.cells #[.slice A5 n5 c5] 24)).cell? ⟨w.heap.size + 1, 4, none⟩ = some (.int .u32 (s : Int)) := KA.cell 4
  have kKP0 : (w2.alloc (.cells #[.slice A5 n5 c5] 24)).cell? ⟨w2.heap.size, 0, none⟩ = some (.slice A5 n5 c5) := KP.cell 0
  go_wp2_with fail
  refine (HCk.out _ _ _ _ AtP.out).mono ?_
  rintro e w3 ⟨rfl, h9⟩
  clear kK00 kKA0 kKA1 kKA2 kKA3 kKA4 kKP0
  replace K0 := K0.below h9 K0.lt
  replace KA := KA.below h9 KA.lt
  replace KP := KP.below h9 KP.lt
  replace AtP := Lib.hid (AtP.out.below HG.out h9)
  have B2 := B.trans (h9.mono B.size)
  clear B
  have B := B2
  clear B2
  clear h9
  have kK00 : w3.cell? ⟨w.heap.size, 0, none⟩ = some (.slice A n c) := K0.cell 0
  have kKA0 : w3.cell? ⟨w.heap.size + 1, 0, none⟩ = some (.int .i64 k) := KA.cell 0
  have kKA1 : w3.cell? ⟨w.heap.size + 1, 1, none⟩ = some (.int .i64 a) := KA.cell 1
  have kKA2 : w3.cell? ⟨w.heap.size + 1, 2, none⟩ = some (.int .i64 b) := KA.cell 2
  have kKA3 : w3.cell? ⟨w.heap.size + 1, 3, none⟩ = some (.int .i64 cpu) := KA.cell 3
  have kKA4 : w3.cell? ⟨w.heap.size + 1, 4, none⟩ = some (.int .u32 (s : Int)) := KA.cell 4
  have kKP0 : w3.cell? ⟨w2.heap.size, 0, none⟩ = some (.slice A5 n5 c5) := KP.cell 0
  go_wp2_with fail
  refine (HSp.out _ _ _ _ AtP.out).mono ?_
  rintro e w4 ⟨A6, c6, rfl, own6, h9⟩
  clear kK00 kKA0 kKA1 kKA2 kKA3 kKA4 kKP0
  replace K0 := K0.below h9 K0.lt
  replace KA := KA.below h9 KA.lt
  replace KP := KP.below h9 KP.lt
  replace AtP := Lib.hid (AtP.out.below HG.out h9)
  have B2 := B.trans (h9.mono B.size)
  clear B
  have B := B2
  clear B2 h9
  rw [show (([], n1, e1) : List Nat × Int × Int).1.length = 0 from rfl] at own6 ⊢
  clear own6
  have KQ := Blk.new w4 24 #[.slice A6 0 c6]
  replace K0 := K0.alloc (.cells #[.slice A6 0 c6] 24)
  replace KA := KA.alloc (.cells #[.slice A6 0 c6] 24)
  replace KP := KP.alloc (.cells #[.slice A6 0 c6] 24)
  replace AtP := Lib.hid (AtP.out.below HG.out ((Below.refl _ w4).alloc (Nat.le_refl _) (.cells #[.slice A6 0 c6] 24)))
  replace B := B.alloc B.size (.cells #[.slice A6 0 c6] 24)
  have kK00 : (w4.alloc (.cells #[.slice A6 0 c6] 24)).cell? ⟨w.heap.size, 0, none⟩ = some (.slice A n c) := K0.cell 0
  have kKA0 : (w4.alloc (.cells #[.slice A6 0 c6] 24)).cell? ⟨w.heap.size + 1, 0, none⟩ = some (.int .i64 k) := KA.cell 0
  have kKA1 : (w4.alloc (.cells #[.slice A6 0 c6] 24)).cell? ⟨w.heap.size + 1, 1, none⟩ = some (.int .i64 a) := KA.cell 1
  have kKA2 : (w4.alloc (.cells #[.slice A6 0 c6] 24)).cell? ⟨w.heap.size + 1, 2, none⟩ = some (.int .i64 b) := KA.cell 2
  have kKA3 : (w4.alloc (.cells #[.slice A6 0 c6] 24)).cell? ⟨w.heap.size + 1, 3, none⟩ = some (.int .i64 cpu) := KA.cell 3
  have kKA4 : (w4.alloc (.cells #[.slice A6 0 c6] 24)).cell? ⟨w.heap.size + 1, 4, none⟩ = some (.int .u32 (s : Int)) := KA.cell 4
  have kKP0 : (w4.alloc (.cells #[.slice A6 0 c6] 24)).cell? ⟨w2.heap.size, 0, none⟩ = some (.slice A5 n5 c5) := KP.cell 0
  have kKQ0 : (w4.alloc (.cells #[.slice A6 0 c6] 24)).cell? ⟨w4.heap.size, 0, none⟩ = some (.slice A6 0 c6) := KQ.cell 0
  go_wp2_with fail
  refine (HMo.out _ _ _ _ AtP.out).mono ?_
  rintro e w9 ⟨A8, c8, rfl, own8, h9⟩
  clear kK00 kKA0 kKA1 kKA2 kKA3 kKA4 kKP0 kKQ0
  replace K0 := K0.below h9 K0.lt
  replace KA := KA.below h9 KA.lt
  replace KP := KP.below h9 KP.lt
  replace KQ := KQ.below h9 KQ.lt
  replace AtP := Lib.hid (AtP.out.below HG.out h9)
  have B2 := B.trans (h9.mono B.size)
  clear B
  have B := B2
  clear B2 h9
  obtain ⟨n8, hn8⟩ : ∃ n8, L2.length = n8 := ⟨_, rfl⟩
  rw [show (L2, n2, (0 : Int)).1.length = n8 from hn8] at own8 ⊢
  have AtM : Hid (PAt G w9 A8 n8 c8 L2) := Lib.hid (PAt.own own8 (by have := HU2.out.2; omega) HU2.out.1 (HGs.out _ B))
  clear own8
  have KM := Blk.new w9 24 #[.slice A8 n8 c8]
  replace K0 := K0.alloc (.cells #[.slice A8 n8 c8] 24)
  replace KA := KA.alloc (.cells #[.slice A8 n8 c8] 24)
  replace KP := KP.alloc (.cells #[.slice A8 n8 c8] 24)
  replace KQ := KQ.alloc (.cells #[.slice A8 n8 c8] 24)
  replace AtP := Lib.hid (AtP.out.below HG.out ((Below.refl _ w9).alloc (Nat.le_refl _) (.cells #[.slice A8 n8 c8] 24)))
  replace AtM := Lib.hid (AtM.out.below HG.out ((Below.refl _ w9).alloc (Nat.le_refl _) (.cells #[.slice A8 n8 c8] 24)))
  replace B := B.alloc B.size (.cells #[.slice A8 n8 c8] 24)
  have kK00 : (w9.alloc (.cells #[.slice A8 n8 c8] 24)).cell? ⟨w.heap.size, 0, none⟩ = some (.slice A n c) := K0.cell 0
  have kKA0 : (w9.alloc (.cells #[.slice A8 n8 c8] 24)).cell? ⟨w.heap.size + 1, 0, none⟩ = some (.int .i64 k) := KA.cell 0
  have kKA1 : (w9.alloc (.cells #[.slice A8 n8 c8] 24)).cell? ⟨w.heap.size + 1, 1, none⟩ = some (.int .i64 a) := KA.cell 1
  have kKA2 : (w9.alloc (.cells #[.slice A8 n8 c8] 24)).cell? ⟨w.heap.size + 1, 2, none⟩ = some (.int .i64 b) := KA.cell 2
  have kKA3 : (w9.alloc (.cells #[.slice A8 n8 c8] 24)).cell? ⟨w.heap.size + 1, 3, none⟩ = some (.int .i64 cpu) := KA.cell 3
  have kKA4 : (w9.alloc (.cells #[.slice A8 n8 c8] 24)).cell? ⟨w.heap.size + 1, 4, none⟩ = some (.int .u32 (s : Int)) := KA.cell 4
  have kKP0 : (w9.alloc (.cells #[.slice A8 n8 c8] 24)).cell? ⟨w2.heap.size, 0, none⟩ = some (.slice A5 n5 c5) := KP.cell 0
  have kKQ0 : (w9.alloc (.cells #[.slice A8 n8 c8] 24)).cell? ⟨w4.heap.size, 0, none⟩ = some (.slice A6 0 c6) := KQ.cell 0
  have kKM0 : (w9.alloc (.cells #[.slice A8 n8 c8] 24)).cell? ⟨w9.heap.size, 0, none⟩ = some (.slice A8 n8 c8) := KM.cell 0
  go_wp2_with fail
  refine (HOf.out _ _ _ _ AtM.out).mono ?_
  rintro e w10 ⟨rfl, h9⟩
  clear kK00 kKA0 kKA1 kKA2 kKA3 kKA4 kKP0 kKQ0 kKM0
  replace K0 := K0.below h9 K0.lt
  replace KA := KA.below h9 KA.lt
  replace KP := KP.below h9 KP.lt
  replace KQ := KQ.below h9 KQ.lt
  replace KM := KM.below h9 KM.lt
  replace AtP := Lib.hid (AtP.out.below HG.out h9)
  replace AtM := Lib.hid (AtM.out.below HG.out h9)
  have B2 := B.trans (h9.mono B.size)
  clear B
  have B := B2
  clear B2
  clear h9
  have kK00 : w10.cell? ⟨w.heap.size, 0, none⟩ = some (.slice A n c) := K0.cell 0
  have kKA0 : w10.cell? ⟨w.heap.size + 1, 0, none⟩ = some (.int .i64 k) := KA.cell 0
  have kKA1 : w10.cell? ⟨w.heap.size + 1, 1, none⟩ = some (.int .i64 a) := KA.cell 1
  have kKA2 : w10.cell? ⟨w.heap.size + 1, 2, none⟩ = some (.int .i64 b) := KA.cell 2
  have kKA3 : w10.cell? ⟨w.heap.size + 1, 3, none⟩ = some (.int .i64 cpu) := KA.cell 3
  have kKA4 : w10.cell? ⟨w.heap.size + 1, 4, none⟩ = some (.int .u32 (s : Int)) := KA.cell 4
  have kKP0 : w10.cell? ⟨w2.heap.size, 0, none⟩ = some (.slice A5 n5 c5) := KP.cell 0
  have kKQ0 : w10.cell? ⟨w4.heap.size, 0, none⟩ = some (.slice A6 0 c6) := KQ.cell 0
  have kKM0 : w10.cell? ⟨w9.heap.size, 0, none⟩ = some (.slice A8 n8 c8) := KM.cell 0
  go_wp2_with fail
  refine (HMb.out _ _ _ _ AtM.out).mono ?_
  rintro e w11 ⟨A9, c9, rfl, own9, h9⟩
  clear kK00 kKA0 kKA1 kKA2 kKA3 kKA4 kKP0 kKQ0 kKM0
  replace K0 := K0.below h9 K0.lt
  replace KA := KA.below h9 KA.lt
  replace KP := KP.below h9 KP.lt
  replace KQ := KQ.below h9 KQ.lt
  replace KM := KM.below h9 KM.lt
  replace AtP := Lib.hid (AtP.out.below HG.out h9)
  replace AtM := Lib.hid (AtM.out.below HG.out h9)
  have B2 := B.trans (h9.mono B.size)
  clear B
  have B := B2
  clear B2 h9
  rw [show (L, b, (0 : Int)).1.length = n5 from hn5] at own9 ⊢
  have AtB : Hid (PAt G w11 A9 n5 c9 L) := Lib.hid (PAt.own own9 (by have := right_len HRi.out; omega) HU.out (HGs.out _ B))
  clear own9
  have KB := Blk.new w11 24 #[.slice A9 n5 c9]
  replace K0 := K0.alloc (.cells #[.slice A9 n5 c9] 24)
  replace KA := KA.alloc (.cells #[.slice A9 n5 c9] 24)
  replace KP := KP.alloc (.cells #[.slice A9 n5 c9] 24)
  replace KQ := KQ.alloc (.cells #[.slice A9 n5 c9] 24)
  replace KM := KM.alloc (.cells #[.slice A9 n5 c9] 24)
  replace AtP := Lib.hid (AtP.out.below HG.out ((Below.refl _ w11).alloc (Nat.le_refl _) (.cells #[.slice A9 n5 c9] 24)))
  replace AtM := Lib.hid (AtM.out.below HG.out ((Below.refl _ w11).alloc (Nat.le_refl _) (.cells #[.slice A9 n5 c9] 24)))
  replace AtB := Lib.hid (AtB.out.below HG.out ((Below.refl _ w11).alloc (Nat.le_refl _) (.cells #[.slice A9 n5 c9] 24)))
  replace B := B.alloc B.size (.cells #[.slice A9 n5 c9] 24)
  have kK00 : (w11.alloc (.cells #[.slice A9 n5 c9] 24)).cell? ⟨w.heap.size, 0, none⟩ = some (.slice A n c) := K0.cell 0
  have kKA0 : (w11.alloc (.cells #[.slice A9 n5 c9] 24)).cell? ⟨w.heap.size + 1, 0, none⟩ = some (.int .i64 k) := KA.cell 0
  have kKA1 : (w11.alloc (.cells #[.slice A9 n5 c9] 24)).cell? ⟨w.heap.size + 1, 1, none⟩ = some (.int .i64 a) := KA.cell 1
  have kKA2 : (w11.alloc (.cells #[.slice A9 n5 c9] 24)).cell? ⟨w.heap.size + 1, 2, none⟩ = some (.int .i64 b) := KA.cell 2
  have kKA3 : (w11.alloc (.cells #[.slice A9 n5 c9] 24)).cell? ⟨w.heap.size + 1, 3, none⟩ = some (.int .i64 cpu) := KA.cell 3
  have kKA4 : (w11.alloc (.cells #[.slice A9 n5 c9] 24)).cell? ⟨w.heap.size + 1, 4, none⟩ = some (.int .u32 (s : Int)) := KA.cell 4
  have kKP0 : (w11.alloc (.cells #[.slice A9 n5 c9] 24)).cell? ⟨w2.heap.size, 0, none⟩ = some (.slice A5 n5 c5) := KP.cell 0
  have kKQ0 : (w11.alloc (.cells #[.slice A9 n5 c9] 24)).cell? ⟨w4.heap.size, 0, none⟩ = some (.slice A6 0 c6) := KQ.cell 0
  have kKM0 : (w11.alloc (.cells #[.slice A9 n5 c9] 24)).cell? ⟨w9.heap.size, 0, none⟩ = some (.slice A8 n8 c8) := KM.cell 0
  have kKB0 : (w11.alloc (.cells #[.slice A9 n5 c9] 24)).cell? ⟨w11.heap.size, 0, none⟩ = some (.slice A9 n5 c9) := KB.cell 0
  go_wp2_with fail
  refine (HSa.out _ _ _ _ _ _ _ AtB.out AtP.out).mono ?_
  rintro e w12 ⟨rfl, h9⟩
  clear kK00 kKA0 kKA1 kKA2 kKA3 kKA4 kKP0 kKQ0 kKM0 kKB0
  replace K0 := K0.below h9 K0.lt
  replace KA := KA.below h9 KA.lt
  replace KP := KP.below h9 KP.lt
  replace KQ := KQ.below h9 KQ.lt
  replace KM := KM.below h9 KM.lt
  replace KB := KB.below h9 KB.lt
  replace AtP := Lib.hid (AtP.out.below HG.out h9)
  replace AtM := Lib.hid (AtM.out.below HG.out h9)
  replace AtB := Lib.hid (AtB.out.below HG.out h9)
  have B2 := B.trans (h9.mono B.size)
  clear B
  have B := B2
  clear B2
  clear h9
  have BH := Lib.hid B
  go_wp2
  go_ret
  exact ⟨rfl, BH.out⟩

set_option maxRecDepth 100000 in
set_option maxHeartbeats 16000000 in
theorem back_yes_no {G : World → Prop} (HG : Hid (Steady G)) (A : Option Addr) (n c : Nat) (L : List Nat) (k a b cpu : Int) (s : Nat) (w : World) (HU : Hid (U32s L)) (HRi : Hid (rightP L = true)) (HGs : Hid (∀ u : World, Below w.heap.size w u → G u))
    (HK : Hid (∀ u, G u → Calls Try.prog 9 #[] u (Said (.bool true) u)))
    (HSh : Hid (∀ (u : World), Below w.heap.size w u → Calls Try.prog 10 #[.agg #[.slice A n c]] u (GivesP L u)))
    (HCk : Hid (∀ (A : Option Addr) (n c : Nat) (u : World), PAt G u A n c L → Calls Try.prog 16 #[.agg #[.slice A n c]] u (Said (.int .i64 0) u)))
    (n1 : Int) (L1 : List Nat) (HU1 : Hid (U32s L1 ∧ L1.length ≤ 1000))
    (HSp : Hid (∀ (A : Option Addr) (n c : Nat) (u : World), PAt G u A n c L → Calls Try.prog 29 #[.agg #[.slice A n c], .int .i64 a, .int .u32 (s : Int)] u (GivesP3 (L1, n1, 0) u)))
    (HJo : Hid (∀ (A : Option Addr) (n c : Nat) (u : World), PAt G u A n c L1 → Calls Try.prog 30 #[.agg #[.slice A n c], .int .i64 n1, .int .i64 a] u (GivesP2 (L, 0) u)))
    (HSe : Hid (∀ (A : Option Addr) (n c : Nat) (u : World), PAt G u A n c L1 → Calls Try.prog 22 #[.agg #[.slice A n c], .int .i64 n1] u (Said (.int .u32 (s : Int)) u)))
    (HSa : Hid (∀ (A A' : Option Addr) (n c n' c' : Nat) (u : World), PAt G u A n c L → PAt G u A' n' c' L → Calls Try.prog 17 #[.agg #[.slice A n c], .agg #[.slice A' n' c']] u (Said (.bool true) u)))
    (e2 n2 : Int) (he2 : (e2 != 0) = true)
    (HMo : Hid (∀ (A : Option Addr) (n c : Nat) (u : World), PAt G u A n c L → Calls Try.prog 31 #[.agg #[.slice A n c], .int .i64 cpu, .int .i64 b] u (GivesP3 ([], n2, e2) u))) :
    Calls Try.prog 7 #[.agg #[.slice A n c], .agg (OpV k a b cpu s)] w (Said (.bool true) w) := by
  obtain ⟨K0, KA, B⟩ := blks2 w 24 31 #[.slice A n c] (OpV k a b cpu s)
  unfold OpV at *
  go_enter Try.func7, Try.ntmps7
  have kK00 : ((w.alloc (.cells #[.slice A n c] 24)).alloc (.cells #[.int .i64 k, .int .i64 a, .int .i64 b, .int .i64 cpu, .int .u32 (s : Int)] 31)).cell? ⟨w.heap.size, 0, none⟩ = some (.slice A n c) := K0.cell 0
  have kKA0 : ((w.alloc (.cells #[.slice A n c] 24)).alloc (.cells #[.int .i64 k, .int .i64 a, .int .i64 b, .int .i64 cpu, .int .u32 (s : Int)] 31)).cell? ⟨w.heap.size + 1, 0, none⟩ = some (.int .i64 k) := KA.cell 0
  have kKA1 : ((w.alloc (.cells #[.slice A n c] 24)).alloc (.cells #[.int .i64 k, .int .i64 a, .int .i64 b, .int .i64 cpu, .int .u32 (s : Int)] 31)).cell? ⟨w.heap.size + 1, 1, none⟩ = some (.int .i64 a) := KA.cell 1
  have kKA2 : ((w.alloc (.cells #[.slice A n c] 24)).alloc (.cells #[.int .i64 k, .int .i64 a, .int .i64 b, .int .i64 cpu, .int .u32 (s : Int)] 31)).cell? ⟨w.heap.size + 1, 2, none⟩ = some (.int .i64 b) := KA.cell 2
  have kKA3 : ((w.alloc (.cells #[.slice A n c] 24)).alloc (.cells #[.int .i64 k, .int .i64 a, .int .i64 b, .int .i64 cpu, .int .u32 (s : Int)] 31)).cell? ⟨w.heap.size + 1, 3, none⟩ = some (.int .i64 cpu) := KA.cell 3
  have kKA4 : ((w.alloc (.cells #[.slice A n c] 24)).alloc (.cells #[.int .i64 k, .int .i64 a, .int .i64 b, .int .i64 cpu, .int .u32 (s : Int)] 31)).cell? ⟨w.heap.size + 1, 4, none⟩ = some (.int .u32 (s : Int)) := KA.cell 4
  go_wp2_with fail
  refine (HK.out _ (HGs.out _ B)).mono ?_
  rintro e w1 ⟨rfl, h9⟩
  clear kK00 kKA0 kKA1 kKA2 kKA3 kKA4
  replace K0 := K0.below h9 K0.lt
  replace KA := KA.below h9 KA.lt
  have B2 := B.trans (h9.mono B.size)
  clear B
  have B := B2
  clear B2
  have kK00 : w1.cell? ⟨w.heap.size, 0, none⟩ = some (.slice A n c) := K0.cell 0
  have kKA0 : w1.cell? ⟨w.heap.size + 1, 0, none⟩ = some (.int .i64 k) := KA.cell 0
  have kKA1 : w1.cell? ⟨w.heap.size + 1, 1, none⟩ = some (.int .i64 a) := KA.cell 1
  have kKA2 : w1.cell? ⟨w.heap.size + 1, 2, none⟩ = some (.int .i64 b) := KA.cell 2
  have kKA3 : w1.cell? ⟨w.heap.size + 1, 3, none⟩ = some (.int .i64 cpu) := KA.cell 3
  have kKA4 : w1.cell? ⟨w.heap.size + 1, 4, none⟩ = some (.int .u32 (s : Int)) := KA.cell 4
  go_wp2_with fail
  refine (HSh.out _ B).mono ?_
  rintro e w2 ⟨A5, c5, rfl, own5, h9⟩
  clear kK00 kKA0 kKA1 kKA2 kKA3 kKA4
  obtain ⟨n5, hn5⟩ : ∃ n5, L.length = n5 := ⟨_, rfl⟩
  rw [hn5] at own5 ⊢
  replace K0 := K0.below h9 K0.lt
  replace KA := KA.below h9 KA.lt
  have B2 := B.trans (h9.mono B.size)
  clear B
  have B := B2
  clear B2 h9
  have AtP : Hid (PAt G w2 A5 n5 c5 L) := Lib.hid (PAt.own own5 (by have := right_len HRi.out; omega) HU.out (HGs.out _ B))
  clear own5
  have KP := Blk.new w2 24 #[.slice A5 n5 c5]
  replace K0 := K0.alloc (.cells #[.slice A5 n5 c5] 24)
  replace KA := KA.alloc (.cells #[.slice A5 n5 c5] 24)
  replace AtP := Lib.hid (AtP.out.below HG.out ((Below.refl _ w2).alloc (Nat.le_refl _) (.cells #[.slice A5 n5 c5] 24)))
  replace B := B.alloc B.size (.cells #[.slice A5 n5 c5] 24)
  have kK00 : (w2.alloc (.cells #[.slice A5 n5 c5] 24)).cell? ⟨w.heap.size, 0, none⟩ = some (.slice A n c) := K0.cell 0
  have kKA0 : (w2.alloc (.cells #[.slice A5 n5 c5] 24)).cell? ⟨w.heap.size + 1, 0, none⟩ = some (.int .i64 k) := KA.cell 0
  have kKA1 : (w2.alloc (.cells #[.slice A5 n5 c5] 24)).cell? ⟨w.heap.size + 1, 1, none⟩ = some (.int .i64 a) := KA.cell 1
  have kKA2 : (w2.alloc (.cells #[.slice A5 n5 c5] 24)).cell? ⟨w.heap.size + 1, 2, none⟩ = some (.int .i64 b) := KA.cell 2
  have kKA3 : (w2.alloc (.cells #[.slice A5 n5 c5] 24)).cell? ⟨w.heap.size + 1, 3, none⟩ = some (.int .i64 cpu) := KA.cell 3
  have kKA4 : (w2.alloc (.cells #[.slice A5 n5 c5] 24)).cell? ⟨w.heap.size + 1, 4, none⟩ = some (.int .u32 (s : Int)) := KA.cell 4
  have kKP0 : (w2.alloc (.cells #[.slice A5 n5 c5] 24)).cell? ⟨w2.heap.size, 0, none⟩ = some (.slice A5 n5 c5) := KP.cell 0
  go_wp2_with fail
  refine (HCk.out _ _ _ _ AtP.out).mono ?_
  rintro e w3 ⟨rfl, h9⟩
  clear kK00 kKA0 kKA1 kKA2 kKA3 kKA4 kKP0
  replace K0 := K0.below h9 K0.lt
  replace KA := KA.below h9 KA.lt
  replace KP := KP.below h9 KP.lt
  replace AtP := Lib.hid (AtP.out.below HG.out h9)
  have B2 := B.trans (h9.mono B.size)
  clear B
  have B := B2
  clear B2
  clear h9
  have kK00 : w3.cell? ⟨w.heap.size, 0, none⟩ = some (.slice A n c) := K0.cell 0
  have kKA0 : w3.cell? ⟨w.heap.size + 1, 0, none⟩ = some (.int .i64 k) := KA.cell 0
  have kKA1 : w3.cell? ⟨w.heap.size + 1, 1, none⟩ = some (.int .i64 a) := KA.cell 1
  have kKA2 : w3.cell? ⟨w.heap.size + 1, 2, none⟩ = some (.int .i64 b) := KA.cell 2
  have kKA3 : w3.cell? ⟨w.heap.size + 1, 3, none⟩ = some (.int .i64 cpu) := KA.cell 3
  have kKA4 : w3.cell? ⟨w.heap.size + 1, 4, none⟩ = some (.int .u32 (s : Int)) := KA.cell 4
  have kKP0 : w3.cell? ⟨w2.heap.size, 0, none⟩ = some (.slice A5 n5 c5) := KP.cell 0
  go_wp2_with fail
  refine (HSp.out _ _ _ _ AtP.out).mono ?_
  rintro e w4 ⟨A6, c6, rfl, own6, h9⟩
  clear kK00 kKA0 kKA1 kKA2 kKA3 kKA4 kKP0
  replace K0 := K0.below h9 K0.lt
  replace KA := KA.below h9 KA.lt
  replace KP := KP.below h9 KP.lt
  replace AtP := Lib.hid (AtP.out.below HG.out h9)
  have B2 := B.trans (h9.mono B.size)
  clear B
  have B := B2
  clear B2 h9
  obtain ⟨n6, hn6⟩ : ∃ n6, L1.length = n6 := ⟨_, rfl⟩
  rw [show (L1, n1, (0 : Int)).1.length = n6 from hn6] at own6 ⊢
  have AtQ : Hid (PAt G w4 A6 n6 c6 L1) := Lib.hid (PAt.own own6 (by have := HU1.out.2; omega) HU1.out.1 (HGs.out _ B))
  clear own6
  have KQ := Blk.new w4 24 #[.slice A6 n6 c6]
  replace K0 := K0.alloc (.cells #[.slice A6 n6 c6] 24)
  replace KA := KA.alloc (.cells #[.slice A6 n6 c6] 24)
  replace KP := KP.alloc (.cells #[.slice A6 n6 c6] 24)
  replace AtP := Lib.hid (AtP.out.below HG.out ((Below.refl _ w4).alloc (Nat.le_refl _) (.cells #[.slice A6 n6 c6] 24)))
  replace AtQ := Lib.hid (AtQ.out.below HG.out ((Below.refl _ w4).alloc (Nat.le_refl _) (.cells #[.slice A6 n6 c6] 24)))
  replace B := B.alloc B.size (.cells #[.slice A6 n6 c6] 24)
  have kK00 : (w4.alloc (.cells #[.slice A6 n6 c6] 24)).cell? ⟨w.heap.size, 0, none⟩ = some (.slice A n c) := K0.cell 0
  have kKA0 : (w4.alloc (.cells #[.slice A6 n6 c6] 24)).cell? ⟨w.heap.size + 1, 0, none⟩ = some (.int .i64 k) := KA.cell 0
  have kKA1 : (w4.alloc (.cells #[.slice A6 n6 c6] 24)).cell? ⟨w.heap.size + 1, 1, none⟩ = some (.int .i64 a) := KA.cell 1
  have kKA2 : (w4.alloc (.cells #[.slice A6 n6 c6] 24)).cell? ⟨w.heap.size + 1, 2, none⟩ = some (.int .i64 b) := KA.cell 2
  have kKA3 : (w4.alloc (.cells #[.slice A6 n6 c6] 24)).cell? ⟨w.heap.size + 1, 3, none⟩ = some (.int .i64 cpu) := KA.cell 3
  have kKA4 : (w4.alloc (.cells #[.slice A6 n6 c6] 24)).cell? ⟨w.heap.size + 1, 4, none⟩ = some (.int .u32 (s : Int)) := KA.cell 4
  have kKP0 : (w4.alloc (.cells #[.slice A6 n6 c6] 24)).cell? ⟨w2.heap.size, 0, none⟩ = some (.slice A5 n5 c5) := KP.cell 0
  have kKQ0 : (w4.alloc (.cells #[.slice A6 n6 c6] 24)).cell? ⟨w4.heap.size, 0, none⟩ = some (.slice A6 n6 c6) := KQ.cell 0
  go_wp2_with fail
  refine (HJo.out _ _ _ _ AtQ.out).mono ?_
  rintro e w5 ⟨A7, c7, rfl, own7, h9⟩
  clear kK00 kKA0 kKA1 kKA2 kKA3 kKA4 kKP0 kKQ0
  replace K0 := K0.below h9 K0.lt
  replace KA := KA.below h9 KA.lt
  replace KP := KP.below h9 KP.lt
  replace KQ := KQ.below h9 KQ.lt
  replace AtP := Lib.hid (AtP.out.below HG.out h9)
  replace AtQ := Lib.hid (AtQ.out.below HG.out h9)
  have B2 := B.trans (h9.mono B.size)
  clear B
  have B := B2
  clear B2 h9
  rw [show (L, (0 : Int)).1.length = n5 from hn5] at own7 ⊢
  have AtR : Hid (PAt G w5 A7 n5 c7 L) := Lib.hid (PAt.own own7 (by have := right_len HRi.out; omega) HU.out (HGs.out _ B))
  clear own7
  have KR := Blk.new w5 24 #[.slice A7 n5 c7]
  replace K0 := K0.alloc (.cells #[.slice A7 n5 c7] 24)
  replace KA := KA.alloc (.cells #[.slice A7 n5 c7] 24)
  replace KP := KP.alloc (.cells #[.slice A7 n5 c7] 24)
  replace KQ := KQ.alloc (.cells #[.slice A7 n5 c7] 24)
  replace AtP := Lib.hid (AtP.out.below HG.out ((Below.refl _ w5).alloc (Nat.le_refl _) (.cells #[.slice A7 n5 c7] 24)))
  replace AtQ := Lib.hid (AtQ.out.below HG.out ((Below.refl _ w5).alloc (Nat.le_refl _) (.cells #[.slice A7 n5 c7] 24)))
  replace AtR := Lib.hid (AtR.out.below HG.out ((Below.refl _ w5).alloc (Nat.le_refl _) (.cells #[.slice A7 n5 c7] 24)))
  replace B := B.alloc B.size (.cells #[.slice A7 n5 c7] 24)
  have HX := Lib.hid (fun (u : World) (h : Below (w5.alloc (.cells #[.slice A7 n5 c7] 24)).heap.size (w5.alloc (.cells #[.slice A7 n5 c7] 24)) u) => show u.cell? ⟨w5.heap.size, 0, none⟩ = some (.slice A7 n5 c7) ∧ u.cell? ⟨w2.heap.size, 0, none⟩ = some (.slice A5 n5 c5) ∧ u.cell? ⟨w4.heap.size, 0, none⟩ = some (.slice A6 n6 c6) ∧ u.cell? ⟨w.heap.size + 1, 4, none⟩ = some (.int .u32 (s : Int)) from ⟨(KR.below h KR.lt).cell 0, (KP.below h KP.lt).cell 0, (KQ.below h KQ.lt).cell 0, (KA.below h KA.lt).cell 4⟩)
  have HAP := Lib.hid (fun (u : World) (h : Below (w5.alloc (.cells #[.slice A7 n5 c7] 24)).heap.size (w5.alloc (.cells #[.slice A7 n5 c7] 24)) u) => AtP.out.below HG.out h)
  have HAQ := Lib.hid (fun (u : World) (h : Below (w5.alloc (.cells #[.slice A7 n5 c7] 24)).heap.size (w5.alloc (.cells #[.slice A7 n5 c7] 24)) u) => AtQ.out.below HG.out h)
  have HAR := Lib.hid (fun (u : World) (h : Below (w5.alloc (.cells #[.slice A7 n5 c7] 24)).heap.size (w5.alloc (.cells #[.slice A7 n5 c7] 24)) u) => AtR.out.below HG.out h)
  have HKS := Lib.hid (And.intro K0 (And.intro KA (And.intro KP (And.intro KQ (And.intro KR B)))))
  clear K0 KA KP KQ KR B
  have D0 := Below.refl (w5.alloc (.cells #[.slice A7 n5 c7] 24)).heap.size (w5.alloc (.cells #[.slice A7 n5 c7] 24))
  go_upto_region 9 with fail
  have D1 := D0.drew
  have k1 := HX.out _ D1
  clear D0
  go_region_held3 (fun w' => w'.cell? ⟨w5.heap.size, 0, none⟩ = some (.slice A7 n5 c7) ∧ w'.cell? ⟨w2.heap.size, 0, none⟩ = some (.slice A5 n5 c5) ∧ w'.cell? ⟨w4.heap.size, 0, none⟩ = some (.slice A6 n6 c6) ∧ w'.cell? ⟨w.heap.size + 1, 4, none⟩ = some (.int .u32 (s : Int)))
    (first | exact k3 | exact k2 | exact k1)
    (first
      | (go_at_call 22; (with_reducible refine (HSe.out _ _ _ _ (HAQ.out _ D2)).mono ?_); rintro e w8 ⟨rfl, h9⟩; have D3 := D2.trans (h9.mono D2.size); have k3 := HX.out _ D3; clear h9)
      | (go_at_call 17; (with_reducible refine (HSa.out _ _ _ _ _ _ _ (HAR.out _ D1) (HAP.out _ D1)).mono ?_); rintro e w7 ⟨rfl, h9⟩; have D2 := D1.trans (h9.mono D1.size); have k2 := HX.out _ D2; clear h9))
  obtain ⟨K0, KA, KP, KQ, KR, B⟩ := HKS.out
  clear HKS k1 k2 k3 D1 D2
  replace K0 := K0.below D3 K0.lt
  replace KA := KA.below D3 KA.lt
  replace KP := KP.below D3 KP.lt
  replace KQ := KQ.below D3 KQ.lt
  replace KR := KR.below D3 KR.lt
  replace AtP := Lib.hid (HAP.out _ D3)
  have B2 := B.trans (D3.mono B.size)
  clear B
  have B := B2
  clear B2 D3 AtQ AtR HAP HAQ HAR HX
  clear KQ KR
  have kK00 : w8.cell? ⟨w.heap.size, 0, none⟩ = some (.slice A n c) := K0.cell 0
  have kKA0 : w8.cell? ⟨w.heap.size + 1, 0, none⟩ = some (.int .i64 k) := KA.cell 0
  have kKA1 : w8.cell? ⟨w.heap.size + 1, 1, none⟩ = some (.int .i64 a) := KA.cell 1
  have kKA2 : w8.cell? ⟨w.heap.size + 1, 2, none⟩ = some (.int .i64 b) := KA.cell 2
  have kKA3 : w8.cell? ⟨w.heap.size + 1, 3, none⟩ = some (.int .i64 cpu) := KA.cell 3
  have kKA4 : w8.cell? ⟨w.heap.size + 1, 4, none⟩ = some (.int .u32 (s : Int)) := KA.cell 4
  have kKP0 : w8.cell? ⟨w2.heap.size, 0, none⟩ = some (.slice A5 n5 c5) := KP.cell 0
  go_wp2_with fail
  refine (HMo.out _ _ _ _ AtP.out).mono ?_
  rintro e w9 ⟨A8, c8, rfl, own8, h9⟩
  clear kK00 kKA0 kKA1 kKA2 kKA3 kKA4 kKP0
  replace K0 := K0.below h9 K0.lt
  replace KA := KA.below h9 KA.lt
  replace KP := KP.below h9 KP.lt
  replace AtP := Lib.hid (AtP.out.below HG.out h9)
  have B2 := B.trans (h9.mono B.size)
  clear B
  have B := B2
  clear B2 h9
  rw [show (([], n2, e2) : List Nat × Int × Int).1.length = 0 from rfl] at own8 ⊢
  clear own8
  have KM := Blk.new w9 24 #[.slice A8 0 c8]
  replace K0 := K0.alloc (.cells #[.slice A8 0 c8] 24)
  replace KA := KA.alloc (.cells #[.slice A8 0 c8] 24)
  replace KP := KP.alloc (.cells #[.slice A8 0 c8] 24)
  replace AtP := Lib.hid (AtP.out.below HG.out ((Below.refl _ w9).alloc (Nat.le_refl _) (.cells #[.slice A8 0 c8] 24)))
  replace B := B.alloc B.size (.cells #[.slice A8 0 c8] 24)
  have BH := Lib.hid B
  have kK00 : (w9.alloc (.cells #[.slice A8 0 c8] 24)).cell? ⟨w.heap.size, 0, none⟩ = some (.slice A n c) := K0.cell 0
  have kKA0 : (w9.alloc (.cells #[.slice A8 0 c8] 24)).cell? ⟨w.heap.size + 1, 0, none⟩ = some (.int .i64 k) := KA.cell 0
  have kKA1 : (w9.alloc (.cells #[.slice A8 0 c8] 24)).cell? ⟨w.heap.size + 1, 1, none⟩ = some (.int .i64 a) := KA.cell 1
  have kKA2 : (w9.alloc (.cells #[.slice A8 0 c8] 24)).cell? ⟨w.heap.size + 1, 2, none⟩ = some (.int .i64 b) := KA.cell 2
  have kKA3 : (w9.alloc (.cells #[.slice A8 0 c8] 24)).cell? ⟨w.heap.size + 1, 3, none⟩ = some (.int .i64 cpu) := KA.cell 3
  have kKA4 : (w9.alloc (.cells #[.slice A8 0 c8] 24)).cell? ⟨w.heap.size + 1, 4, none⟩ = some (.int .u32 (s : Int)) := KA.cell 4
  have kKP0 : (w9.alloc (.cells #[.slice A8 0 c8] 24)).cell? ⟨w2.heap.size, 0, none⟩ = some (.slice A5 n5 c5) := KP.cell 0
  have kKM0 : (w9.alloc (.cells #[.slice A8 0 c8] 24)).cell? ⟨w9.heap.size, 0, none⟩ = some (.slice A8 0 c8) := KM.cell 0
  go_wp2
  go_ret
  exact ⟨rfl, BH.out⟩

set_option maxRecDepth 100000 in
set_option maxHeartbeats 16000000 in
theorem back_yes_yes {G : World → Prop} (HG : Hid (Steady G)) (A : Option Addr) (n c : Nat) (L : List Nat) (k a b cpu : Int) (s : Nat) (w : World) (HU : Hid (U32s L)) (HRi : Hid (rightP L = true)) (HGs : Hid (∀ u : World, Below w.heap.size w u → G u))
    (HK : Hid (∀ u, G u → Calls Try.prog 9 #[] u (Said (.bool true) u)))
    (HSh : Hid (∀ (u : World), Below w.heap.size w u → Calls Try.prog 10 #[.agg #[.slice A n c]] u (GivesP L u)))
    (HCk : Hid (∀ (A : Option Addr) (n c : Nat) (u : World), PAt G u A n c L → Calls Try.prog 16 #[.agg #[.slice A n c]] u (Said (.int .i64 0) u)))
    (n1 : Int) (L1 : List Nat) (HU1 : Hid (U32s L1 ∧ L1.length ≤ 1000))
    (HSp : Hid (∀ (A : Option Addr) (n c : Nat) (u : World), PAt G u A n c L → Calls Try.prog 29 #[.agg #[.slice A n c], .int .i64 a, .int .u32 (s : Int)] u (GivesP3 (L1, n1, 0) u)))
    (HJo : Hid (∀ (A : Option Addr) (n c : Nat) (u : World), PAt G u A n c L1 → Calls Try.prog 30 #[.agg #[.slice A n c], .int .i64 n1, .int .i64 a] u (GivesP2 (L, 0) u)))
    (HSe : Hid (∀ (A : Option Addr) (n c : Nat) (u : World), PAt G u A n c L1 → Calls Try.prog 22 #[.agg #[.slice A n c], .int .i64 n1] u (Said (.int .u32 (s : Int)) u)))
    (HSa : Hid (∀ (A A' : Option Addr) (n c n' c' : Nat) (u : World), PAt G u A n c L → PAt G u A' n' c' L → Calls Try.prog 17 #[.agg #[.slice A n c], .agg #[.slice A' n' c']] u (Said (.bool true) u)))
    (n2 : Int) (L2 : List Nat) (HU2 : Hid (U32s L2 ∧ L2.length ≤ 1000))
    (HMo : Hid (∀ (A : Option Addr) (n c : Nat) (u : World), PAt G u A n c L → Calls Try.prog 31 #[.agg #[.slice A n c], .int .i64 cpu, .int .i64 b] u (GivesP3 (L2, n2, 0) u)))
    (HOf : Hid (∀ (A : Option Addr) (n c : Nat) (u : World), PAt G u A n c L2 → Calls Try.prog 19 #[.agg #[.slice A n c], .int .i64 cpu] u (Said (.tuple #[.int .i64 b, .bool true]) u)))
    (HMb : Hid (∀ (A : Option Addr) (n c : Nat) (u : World), PAt G u A n c L2 → Calls Try.prog 31 #[.agg #[.slice A n c], .int .i64 cpu, .int .i64 n2] u (GivesP3 (L, b, 0) u))) :
    Calls Try.prog 7 #[.agg #[.slice A n c], .agg (OpV k a b cpu s)] w (Said (.bool true) w) := by
  obtain ⟨K0, KA, B⟩ := blks2 w 24 31 #[.slice A n c] (OpV k a b cpu s)
  unfold OpV at *
  go_enter Try.func7, Try.ntmps7
  have kK00 : ((w.alloc (.cells #[.slice A n c] 24)).alloc (.cells #[.int .i64 k, .int .i64 a, .int .i64 b, .int .i64 cpu, .int .u32 (s : Int)] 31)).cell? ⟨w.heap.size, 0, none⟩ = some (.slice A n c) := K0.cell 0
  have kKA0 : ((w.alloc (.cells #[.slice A n c] 24)).alloc (.cells #[.int .i64 k, .int .i64 a, .int .i64 b, .int .i64 cpu, .int .u32 (s : Int)] 31)).cell? ⟨w.heap.size + 1, 0, none⟩ = some (.int .i64 k) := KA.cell 0
  have kKA1 : ((w.alloc (.cells #[.slice A n c] 24)).alloc (.cells #[.int .i64 k, .int .i64 a, .int .i64 b, .int .i64 cpu, .int .u32 (s : Int)] 31)).cell? ⟨w.heap.size + 1, 1, none⟩ = some (.int .i64 a) := KA.cell 1
  have kKA2 : ((w.alloc (.cells #[.slice A n c] 24)).alloc (.cells #[.int .i64 k, .int .i64 a, .int .i64 b, .int .i64 cpu, .int .u32 (s : Int)] 31)).cell? ⟨w.heap.size + 1, 2, none⟩ = some (.int .i64 b) := KA.cell 2
  have kKA3 : ((w.alloc (.cells #[.slice A n c] 24)).alloc (.cells #[.int .i64 k, .int .i64 a, .int .i64 b, .int .i64 cpu, .int .u32 (s : Int)] 31)).cell? ⟨w.heap.size + 1, 3, none⟩ = some (.int .i64 cpu) := KA.cell 3
  have kKA4 : ((w.alloc (.cells #[.slice A n c] 24)).alloc (.cells #[.int .i64 k, .int .i64 a, .int .i64 b, .int .i64 cpu, .int .u32 (s : Int)] 31)).cell? ⟨w.heap.size + 1, 4, none⟩ = some (.int .u32 (s : Int)) := KA.cell 4
  go_wp2_with fail
  refine (HK.out _ (HGs.out _ B)).mono ?_
  rintro e w1 ⟨rfl, h9⟩
  clear kK00 kKA0 kKA1 kKA2 kKA3 kKA4
  replace K0 := K0.below h9 K0.lt
  replace KA := KA.below h9 KA.lt
  have B2 := B.trans (h9.mono B.size)
  clear B
  have B := B2
  clear B2
  have kK00 : w1.cell? ⟨w.heap.size, 0, none⟩ = some (.slice A n c) := K0.cell 0
  have kKA0 : w1.cell? ⟨w.heap.size + 1, 0, none⟩ = some (.int .i64 k) := KA.cell 0
  have kKA1 : w1.cell? ⟨w.heap.size + 1, 1, none⟩ = some (.int .i64 a) := KA.cell 1
  have kKA2 : w1.cell? ⟨w.heap.size + 1, 2, none⟩ = some (.int .i64 b) := KA.cell 2
  have kKA3 : w1.cell? ⟨w.heap.size + 1, 3, none⟩ = some (.int .i64 cpu) := KA.cell 3
  have kKA4 : w1.cell? ⟨w.heap.size + 1, 4, none⟩ = some (.int .u32 (s : Int)) := KA.cell 4
  go_wp2_with fail
  refine (HSh.out _ B).mono ?_
  rintro e w2 ⟨A5, c5, rfl, own5, h9⟩
  clear kK00 kKA0 kKA1 kKA2 kKA3 kKA4
  obtain ⟨n5, hn5⟩ : ∃ n5, L.length = n5 := ⟨_, rfl⟩
  rw [hn5] at own5 ⊢
  replace K0 := K0.below h9 K0.lt
  replace KA := KA.below h9 KA.lt
  have B2 := B.trans (h9.mono B.size)
  clear B
  have B := B2
  clear B2 h9
  have AtP : Hid (PAt G w2 A5 n5 c5 L) := Lib.hid (PAt.own own5 (by have := right_len HRi.out; omega) HU.out (HGs.out _ B))
  clear own5
  have KP := Blk.new w2 24 #[.slice A5 n5 c5]
  replace K0 := K0.alloc (.cells #[.slice A5 n5 c5] 24)
  replace KA := KA.alloc (.cells #[.slice A5 n5 c5] 24)
  replace AtP := Lib.hid (AtP.out.below HG.out ((Below.refl _ w2).alloc (Nat.le_refl _) (.cells #[.slice A5 n5 c5] 24)))
  replace B := B.alloc B.size (.cells #[.slice A5 n5 c5] 24)
  have kK00 : (w2.alloc (.cells #[.slice A5 n5 c5] 24)).cell? ⟨w.heap.size, 0, none⟩ = some (.slice A n c) := K0.cell 0
  have kKA0 : (w2.alloc (.cells #[.slice A5 n5 c5] 24)).cell? ⟨w.heap.size + 1, 0, none⟩ = some (.int .i64 k) := KA.cell 0
  have kKA1 : (w2.alloc (.cells #[.slice A5 n5 c5] 24)).cell? ⟨w.heap.size + 1, 1, none⟩ = some (.int .i64 a) := KA.cell 1
  have kKA2 : (w2.alloc (.cells #[.slice A5 n5 c5] 24)).cell? ⟨w.heap.size + 1, 2, none⟩ = some (.int .i64 b) := KA.cell 2
  have kKA3 : (w2.alloc (.cells #[.slice A5 n5 c5] 24)).cell? ⟨w.heap.size + 1, 3, none⟩ = some (.int .i64 cpu) := KA.cell 3
  have kKA4 : (w2.alloc (.cells #[.slice A5 n5 c5] 24)).cell? ⟨w.heap.size + 1, 4, none⟩ = some (.int .u32 (s : Int)) := KA.cell 4
  have kKP0 : (w2.alloc (.cells #[.slice A5 n5 c5] 24)).cell? ⟨w2.heap.size, 0, none⟩ = some (.slice A5 n5 c5) := KP.cell 0
  go_wp2_with fail
  refine (HCk.out _ _ _ _ AtP.out).mono ?_
  rintro e w3 ⟨rfl, h9⟩
  clear kK00 kKA0 kKA1 kKA2 kKA3 kKA4 kKP0
  replace K0 := K0.below h9 K0.lt
  replace KA := KA.below h9 KA.lt
  replace KP := KP.below h9 KP.lt
  replace AtP := Lib.hid (AtP.out.below HG.out h9)
  have B2 := B.trans (h9.mono B.size)
  clear B
  have B := B2
  clear B2
  clear h9
  have kK00 : w3.cell? ⟨w.heap.size, 0, none⟩ = some (.slice A n c) := K0.cell 0
  have kKA0 : w3.cell? ⟨w.heap.size + 1, 0, none⟩ = some (.int .i64 k) := KA.cell 0
  have kKA1 : w3.cell? ⟨w.heap.size + 1, 1, none⟩ = some (.int .i64 a) := KA.cell 1
  have kKA2 : w3.cell? ⟨w.heap.size + 1, 2, none⟩ = some (.int .i64 b) := KA.cell 2
  have kKA3 : w3.cell? ⟨w.heap.size + 1, 3, none⟩ = some (.int .i64 cpu) := KA.cell 3
  have kKA4 : w3.cell? ⟨w.heap.size + 1, 4, none⟩ = some (.int .u32 (s : Int)) := KA.cell 4
  have kKP0 : w3.cell? ⟨w2.heap.size, 0, none⟩ = some (.slice A5 n5 c5) := KP.cell 0
  go_wp2_with fail
  refine (HSp.out _ _ _ _ AtP.out).mono ?_
  rintro e w4 ⟨A6, c6, rfl, own6, h9⟩
  clear kK00 kKA0 kKA1 kKA2 kKA3 kKA4 kKP0
  replace K0 := K0.below h9 K0.lt
  replace KA := KA.below h9 KA.lt
  replace KP := KP.below h9 KP.lt
  replace AtP := Lib.hid (AtP.out.below HG.out h9)
  have B2 := B.trans (h9.mono B.size)
  clear B
  have B := B2
  clear B2 h9
  obtain ⟨n6, hn6⟩ : ∃ n6, L1.length = n6 := ⟨_, rfl⟩
  rw [show (L1, n1, (0 : Int)).1.length = n6 from hn6] at own6 ⊢
  have AtQ : Hid (PAt G w4 A6 n6 c6 L1) := Lib.hid (PAt.own own6 (by have := HU1.out.2; omega) HU1.out.1 (HGs.out _ B))
  clear own6
  have KQ := Blk.new w4 24 #[.slice A6 n6 c6]
  replace K0 := K0.alloc (.cells #[.slice A6 n6 c6] 24)
  replace KA := KA.alloc (.cells #[.slice A6 n6 c6] 24)
  replace KP := KP.alloc (.cells #[.slice A6 n6 c6] 24)
  replace AtP := Lib.hid (AtP.out.below HG.out ((Below.refl _ w4).alloc (Nat.le_refl _) (.cells #[.slice A6 n6 c6] 24)))
  replace AtQ := Lib.hid (AtQ.out.below HG.out ((Below.refl _ w4).alloc (Nat.le_refl _) (.cells #[.slice A6 n6 c6] 24)))
  replace B := B.alloc B.size (.cells #[.slice A6 n6 c6] 24)
  have kK00 : (w4.alloc (.cells #[.slice A6 n6 c6] 24)).cell? ⟨w.heap.size, 0, none⟩ = some (.slice A n c) := K0.cell 0
  have kKA0 : (w4.alloc (.cells #[.slice A6 n6 c6] 24)).cell? ⟨w.heap.size + 1, 0, none⟩ = some (.int .i64 k) := KA.cell 0
  have kKA1 : (w4.alloc (.cells #[.slice A6 n6 c6] 24)).cell? ⟨w.heap.size + 1, 1, none⟩ = some (.int .i64 a) := KA.cell 1
  have kKA2 : (w4.alloc (.cells #[.slice A6 n6 c6] 24)).cell? ⟨w.heap.size + 1, 2, none⟩ = some (.int .i64 b) := KA.cell 2
  have kKA3 : (w4.alloc (.cells #[.slice A6 n6 c6] 24)).cell? ⟨w.heap.size + 1, 3, none⟩ = some (.int .i64 cpu) := KA.cell 3
  have kKA4 : (w4.alloc (.cells #[.slice A6 n6 c6] 24)).cell? ⟨w.heap.size + 1, 4, none⟩ = some (.int .u32 (s : Int)) := KA.cell 4
  have kKP0 : (w4.alloc (.cells #[.slice A6 n6 c6] 24)).cell? ⟨w2.heap.size, 0, none⟩ = some (.slice A5 n5 c5) := KP.cell 0
  have kKQ0 : (w4.alloc (.cells #[.slice A6 n6 c6] 24)).cell? ⟨w4.heap.size, 0, none⟩ = some (.slice A6 n6 c6) := KQ.cell 0
  go_wp2_with fail
  refine (HJo.out _ _ _ _ AtQ.out).mono ?_
  rintro e w5 ⟨A7, c7, rfl, own7, h9⟩
  clear kK00 kKA0 kKA1 kKA2 kKA3 kKA4 kKP0 kKQ0
  replace K0 := K0.below h9 K0.lt
  replace KA := KA.below h9 KA.lt
  replace KP := KP.below h9 KP.lt
  replace KQ := KQ.below h9 KQ.lt
  replace AtP := Lib.hid (AtP.out.below HG.out h9)
  replace AtQ := Lib.hid (AtQ.out.below HG.out h9)
  have B2 := B.trans (h9.mono B.size)
  clear B
  have B := B2
  clear B2 h9
  rw [show (L, (0 : Int)).1.length = n5 from hn5] at own7 ⊢
  have AtR : Hid (PAt G w5 A7 n5 c7 L) := Lib.hid (PAt.own own7 (by have := right_len HRi.out; omega) HU.out (HGs.out _ B))
  clear own7
  have KR := Blk.new w5 24 #[.slice A7 n5 c7]
  replace K0 := K0.alloc (.cells #[.slice A7 n5 c7] 24)
  replace KA := KA.alloc (.cells #[.slice A7 n5 c7] 24)
  replace KP := KP.alloc (.cells #[.slice A7 n5 c7] 24)
  replace KQ := KQ.alloc (.cells #[.slice A7 n5 c7] 24)
  replace AtP := Lib.hid (AtP.out.below HG.out ((Below.refl _ w5).alloc (Nat.le_refl _) (.cells #[.slice A7 n5 c7] 24)))
  replace AtQ := Lib.hid (AtQ.out.below HG.out ((Below.refl _ w5).alloc (Nat.le_refl _) (.cells #[.slice A7 n5 c7] 24)))
  replace AtR := Lib.hid (AtR.out.below HG.out ((Below.refl _ w5).alloc (Nat.le_refl _) (.cells #[.slice A7 n5 c7] 24)))
  replace B := B.alloc B.size (.cells #[.slice A7 n5 c7] 24)
  have HX := Lib.hid (fun (u : World) (h : Below (w5.alloc (.cells #[.slice A7 n5 c7] 24)).heap.size (w5.alloc (.cells #[.slice A7 n5 c7] 24)) u) => show u.cell? ⟨w5.heap.size, 0, none⟩ = some (.slice A7 n5 c7) ∧ u.cell? ⟨w2.heap.size, 0, none⟩ = some (.slice A5 n5 c5) ∧ u.cell? ⟨w4.heap.size, 0, none⟩ = some (.slice A6 n6 c6) ∧ u.cell? ⟨w.heap.size + 1, 4, none⟩ = some (.int .u32 (s : Int)) from ⟨(KR.below h KR.lt).cell 0, (KP.below h KP.lt).cell 0, (KQ.below h KQ.lt).cell 0, (KA.below h KA.lt).cell 4⟩)
  have HAP := Lib.hid (fun (u : World) (h : Below (w5.alloc (.cells #[.slice A7 n5 c7] 24)).heap.size (w5.alloc (.cells #[.slice A7 n5 c7] 24)) u) => AtP.out.below HG.out h)
  have HAQ := Lib.hid (fun (u : World) (h : Below (w5.alloc (.cells #[.slice A7 n5 c7] 24)).heap.size (w5.alloc (.cells #[.slice A7 n5 c7] 24)) u) => AtQ.out.below HG.out h)
  have HAR := Lib.hid (fun (u : World) (h : Below (w5.alloc (.cells #[.slice A7 n5 c7] 24)).heap.size (w5.alloc (.cells #[.slice A7 n5 c7] 24)) u) => AtR.out.below HG.out h)
  have HKS := Lib.hid (And.intro K0 (And.intro KA (And.intro KP (And.intro KQ (And.intro KR B)))))
  clear K0 KA KP KQ KR B
  have D0 := Below.refl (w5.alloc (.cells #[.slice A7 n5 c7] 24)).heap.size (w5.alloc (.cells #[.slice A7 n5 c7] 24))
  go_upto_region 9 with fail
  have D1 := D0.drew
  have k1 := HX.out _ D1
  clear D0
  go_region_held3 (fun w' => w'.cell? ⟨w5.heap.size, 0, none⟩ = some (.slice A7 n5 c7) ∧ w'.cell? ⟨w2.heap.size, 0, none⟩ = some (.slice A5 n5 c5) ∧ w'.cell? ⟨w4.heap.size, 0, none⟩ = some (.slice A6 n6 c6) ∧ w'.cell? ⟨w.heap.size + 1, 4, none⟩ = some (.int .u32 (s : Int)))
    (first | exact k3 | exact k2 | exact k1)
    (first
      | (go_at_call 22; (with_reducible refine (HSe.out _ _ _ _ (HAQ.out _ D2)).mono ?_); rintro e w8 ⟨rfl, h9⟩; have D3 := D2.trans (h9.mono D2.size); have k3 := HX.out _ D3; clear h9)
      | (go_at_call 17; (with_reducible refine (HSa.out _ _ _ _ _ _ _ (HAR.out _ D1) (HAP.out _ D1)).mono ?_); rintro e w7 ⟨rfl, h9⟩; have D2 := D1.trans (h9.mono D1.size); have k2 := HX.out _ D2; clear h9))
  obtain ⟨K0, KA, KP, KQ, KR, B⟩ := HKS.out
  clear HKS k1 k2 k3 D1 D2
  replace K0 := K0.below D3 K0.lt
  replace KA := KA.below D3 KA.lt
  replace KP := KP.below D3 KP.lt
  replace KQ := KQ.below D3 KQ.lt
  replace KR := KR.below D3 KR.lt
  replace AtP := Lib.hid (HAP.out _ D3)
  have B2 := B.trans (D3.mono B.size)
  clear B
  have B := B2
  clear B2 D3 AtQ AtR HAP HAQ HAR HX
  clear KQ KR
  have kK00 : w8.cell? ⟨w.heap.size, 0, none⟩ = some (.slice A n c) := K0.cell 0
  have kKA0 : w8.cell? ⟨w.heap.size + 1, 0, none⟩ = some (.int .i64 k) := KA.cell 0
  have kKA1 : w8.cell? ⟨w.heap.size + 1, 1, none⟩ = some (.int .i64 a) := KA.cell 1
  have kKA2 : w8.cell? ⟨w.heap.size + 1, 2, none⟩ = some (.int .i64 b) := KA.cell 2
  have kKA3 : w8.cell? ⟨w.heap.size + 1, 3, none⟩ = some (.int .i64 cpu) := KA.cell 3
  have kKA4 : w8.cell? ⟨w.heap.size + 1, 4, none⟩ = some (.int .u32 (s : Int)) := KA.cell 4
  have kKP0 : w8.cell? ⟨w2.heap.size, 0, none⟩ = some (.slice A5 n5 c5) := KP.cell 0
  go_wp2_with fail
  refine (HMo.out _ _ _ _ AtP.out).mono ?_
  rintro e w9 ⟨A8, c8, rfl, own8, h9⟩
  clear kK00 kKA0 kKA1 kKA2 kKA3 kKA4 kKP0
  replace K0 := K0.below h9 K0.lt
  replace KA := KA.below h9 KA.lt
  replace KP := KP.below h9 KP.lt
  replace AtP := Lib.hid (AtP.out.below HG.out h9)
  have B2 := B.trans (h9.mono B.size)
  clear B
  have B := B2
  clear B2 h9
  obtain ⟨n8, hn8⟩ : ∃ n8, L2.length = n8 := ⟨_, rfl⟩
  rw [show (L2, n2, (0 : Int)).1.length = n8 from hn8] at own8 ⊢
  have AtM : Hid (PAt G w9 A8 n8 c8 L2) := Lib.hid (PAt.own own8 (by have := HU2.out.2; omega) HU2.out.1 (HGs.out _ B))
  clear own8
  have KM := Blk.new w9 24 #[.slice A8 n8 c8]
  replace K0 := K0.alloc (.cells #[.slice A8 n8 c8] 24)
  replace KA := KA.alloc (.cells #[.slice A8 n8 c8] 24)
  replace KP := KP.alloc (.cells #[.slice A8 n8 c8] 24)
  replace AtP := Lib.hid (AtP.out.below HG.out ((Below.refl _ w9).alloc (Nat.le_refl _) (.cells #[.slice A8 n8 c8] 24)))
  replace AtM := Lib.hid (AtM.out.below HG.out ((Below.refl _ w9).alloc (Nat.le_refl _) (.cells #[.slice A8 n8 c8] 24)))
  replace B := B.alloc B.size (.cells #[.slice A8 n8 c8] 24)
  have kK00 : (w9.alloc (.cells #[.slice A8 n8 c8] 24)).cell? ⟨w.heap.size, 0, none⟩ = some (.slice A n c) := K0.cell 0
  have kKA0 : (w9.alloc (.cells #[.slice A8 n8 c8] 24)).cell? ⟨w.heap.size + 1, 0, none⟩ = some (.int .i64 k) := KA.cell 0
  have kKA1 : (w9.alloc (.cells #[.slice A8 n8 c8] 24)).cell? ⟨w.heap.size + 1, 1, none⟩ = some (.int .i64 a) := KA.cell 1
  have kKA2 : (w9.alloc (.cells #[.slice A8 n8 c8] 24)).cell? ⟨w.heap.size + 1, 2, none⟩ = some (.int .i64 b) := KA.cell 2
  have kKA3 : (w9.alloc (.cells #[.slice A8 n8 c8] 24)).cell? ⟨w.heap.size + 1, 3, none⟩ = some (.int .i64 cpu) := KA.cell 3
  have kKA4 : (w9.alloc (.cells #[.slice A8 n8 c8] 24)).cell? ⟨w.heap.size + 1, 4, none⟩ = some (.int .u32 (s : Int)) := KA.cell 4
  have kKP0 : (w9.alloc (.cells #[.slice A8 n8 c8] 24)).cell? ⟨w2.heap.size, 0, none⟩ = some (.slice A5 n5 c5) := KP.cell 0
  have kKM0 : (w9.alloc (.cells #[.slice A8 n8 c8] 24)).cell? ⟨w9.heap.size, 0, none⟩ = some (.slice A8 n8 c8) := KM.cell 0
  go_wp2_with fail
  refine (HOf.out _ _ _ _ AtM.out).mono ?_
  rintro e w10 ⟨rfl, h9⟩
  clear kK00 kKA0 kKA1 kKA2 kKA3 kKA4 kKP0 kKM0
  replace K0 := K0.below h9 K0.lt
  replace KA := KA.below h9 KA.lt
  replace KP := KP.below h9 KP.lt
  replace KM := KM.below h9 KM.lt
  replace AtP := Lib.hid (AtP.out.below HG.out h9)
  replace AtM := Lib.hid (AtM.out.below HG.out h9)
  have B2 := B.trans (h9.mono B.size)
  clear B
  have B := B2
  clear B2
  clear h9
  have kK00 : w10.cell? ⟨w.heap.size, 0, none⟩ = some (.slice A n c) := K0.cell 0
  have kKA0 : w10.cell? ⟨w.heap.size + 1, 0, none⟩ = some (.int .i64 k) := KA.cell 0
  have kKA1 : w10.cell? ⟨w.heap.size + 1, 1, none⟩ = some (.int .i64 a) := KA.cell 1
  have kKA2 : w10.cell? ⟨w.heap.size + 1, 2, none⟩ = some (.int .i64 b) := KA.cell 2
  have kKA3 : w10.cell? ⟨w.heap.size + 1, 3, none⟩ = some (.int .i64 cpu) := KA.cell 3
  have kKA4 : w10.cell? ⟨w.heap.size + 1, 4, none⟩ = some (.int .u32 (s : Int)) := KA.cell 4
  have kKP0 : w10.cell? ⟨w2.heap.size, 0, none⟩ = some (.slice A5 n5 c5) := KP.cell 0
  have kKM0 : w10.cell? ⟨w9.heap.size, 0, none⟩ = some (.slice A8 n8 c8) := KM.cell 0
  go_wp2_with fail
  refine (HMb.out _ _ _ _ AtM.out).mono ?_
  rintro e w11 ⟨A9, c9, rfl, own9, h9⟩
  clear kK00 kKA0 kKA1 kKA2 kKA3 kKA4 kKP0 kKM0
  replace K0 := K0.below h9 K0.lt
  replace KA := KA.below h9 KA.lt
  replace KP := KP.below h9 KP.lt
  replace KM := KM.below h9 KM.lt
  replace AtP := Lib.hid (AtP.out.below HG.out h9)
  replace AtM := Lib.hid (AtM.out.below HG.out h9)
  have B2 := B.trans (h9.mono B.size)
  clear B
  have B := B2
  clear B2 h9
  rw [show (L, b, (0 : Int)).1.length = n5 from hn5] at own9 ⊢
  have AtB : Hid (PAt G w11 A9 n5 c9 L) := Lib.hid (PAt.own own9 (by have := right_len HRi.out; omega) HU.out (HGs.out _ B))
  clear own9
  have KB := Blk.new w11 24 #[.slice A9 n5 c9]
  replace K0 := K0.alloc (.cells #[.slice A9 n5 c9] 24)
  replace KA := KA.alloc (.cells #[.slice A9 n5 c9] 24)
  replace KP := KP.alloc (.cells #[.slice A9 n5 c9] 24)
  replace KM := KM.alloc (.cells #[.slice A9 n5 c9] 24)
  replace AtP := Lib.hid (AtP.out.below HG.out ((Below.refl _ w11).alloc (Nat.le_refl _) (.cells #[.slice A9 n5 c9] 24)))
  replace AtM := Lib.hid (AtM.out.below HG.out ((Below.refl _ w11).alloc (Nat.le_refl _) (.cells #[.slice A9 n5 c9] 24)))
  replace AtB := Lib.hid (AtB.out.below HG.out ((Below.refl _ w11).alloc (Nat.le_refl _) (.cells #[.slice A9 n5 c9] 24)))
  replace B := B.alloc B.size (.cells #[.slice A9 n5 c9] 24)
  have kK00 : (w11.alloc (.cells #[.slice A9 n5 c9] 24)).cell? ⟨w.heap.size, 0, none⟩ = some (.slice A n c) := K0.cell 0
  have kKA0 : (w11.alloc (.cells #[.slice A9 n5 c9] 24)).cell? ⟨w.heap.size + 1, 0, none⟩ = some (.int .i64 k) := KA.cell 0
  have kKA1 : (w11.alloc (.cells #[.slice A9 n5 c9] 24)).cell? ⟨w.heap.size + 1, 1, none⟩ = some (.int .i64 a) := KA.cell 1
  have kKA2 : (w11.alloc (.cells #[.slice A9 n5 c9] 24)).cell? ⟨w.heap.size + 1, 2, none⟩ = some (.int .i64 b) := KA.cell 2
  have kKA3 : (w11.alloc (.cells #[.slice A9 n5 c9] 24)).cell? ⟨w.heap.size + 1, 3, none⟩ = some (.int .i64 cpu) := KA.cell 3
  have kKA4 : (w11.alloc (.cells #[.slice A9 n5 c9] 24)).cell? ⟨w.heap.size + 1, 4, none⟩ = some (.int .u32 (s : Int)) := KA.cell 4
  have kKP0 : (w11.alloc (.cells #[.slice A9 n5 c9] 24)).cell? ⟨w2.heap.size, 0, none⟩ = some (.slice A5 n5 c5) := KP.cell 0
  have kKM0 : (w11.alloc (.cells #[.slice A9 n5 c9] 24)).cell? ⟨w9.heap.size, 0, none⟩ = some (.slice A8 n8 c8) := KM.cell 0
  have kKB0 : (w11.alloc (.cells #[.slice A9 n5 c9] 24)).cell? ⟨w11.heap.size, 0, none⟩ = some (.slice A9 n5 c9) := KB.cell 0
  go_wp2_with fail
  refine (HSa.out _ _ _ _ _ _ _ AtB.out AtP.out).mono ?_
  rintro e w12 ⟨rfl, h9⟩
  clear kK00 kKA0 kKA1 kKA2 kKA3 kKA4 kKP0 kKM0 kKB0
  replace K0 := K0.below h9 K0.lt
  replace KA := KA.below h9 KA.lt
  replace KP := KP.below h9 KP.lt
  replace KM := KM.below h9 KM.lt
  replace KB := KB.below h9 KB.lt
  replace AtP := Lib.hid (AtP.out.below HG.out h9)
  replace AtM := Lib.hid (AtM.out.below HG.out h9)
  replace AtB := Lib.hid (AtB.out.below HG.out h9)
  have B2 := B.trans (h9.mono B.size)
  clear B
  have B := B2
  clear B2
  clear h9
  have BH := Lib.hid B
  go_wp2
  go_ret
  exact ⟨rfl, BH.out⟩

set_option maxRecDepth 100000 in
set_option maxHeartbeats 2000000 in
theorem back_not {G : World → Prop} (A : Option Addr) (n c : Nat) (L : List Nat) (k a b cpu : Int) (s : Nat) (w : World) (HU : Hid (U32s L ∧ L.length ≤ 1000)) (HGs : Hid (∀ u : World, Below w.heap.size w u → G u))
    (HK : Hid (∀ u, G u → Calls Try.prog 9 #[] u (Said (.bool true) u)))
    (HSh : Hid (∀ (u : World), Below w.heap.size w u → Calls Try.prog 10 #[.agg #[.slice A n c]] u (GivesP L u)))
    (HCk : Hid (∀ (A : Option Addr) (n c : Nat) (u : World), PAt G u A n c L → Calls Try.prog 16 #[.agg #[.slice A n c]] u (Said (.int .i64 180) u))) (HG : Hid (Steady G)) :
    Calls Try.prog 7 #[.agg #[.slice A n c], .agg (OpV k a b cpu s)] w (Said (.bool true) w) := by
  obtain ⟨K0, KA, B⟩ := blks2 w 24 31 #[.slice A n c] (OpV k a b cpu s)
  unfold OpV at *
  clear KA
  go_enter Try.func7, Try.ntmps7
  have kK00 : ((w.alloc (.cells #[.slice A n c] 24)).alloc (.cells #[.int .i64 k, .int .i64 a, .int .i64 b, .int .i64 cpu, .int .u32 (s : Int)] 31)).cell? ⟨w.heap.size, 0, none⟩ = some (.slice A n c) := K0.cell 0
  go_wp2_with fail
  refine (HK.out _ (HGs.out _ B)).mono ?_
  rintro e w1 ⟨rfl, h9⟩
  clear kK00
  replace K0 := K0.below h9 K0.lt
  have B2 := B.trans (h9.mono B.size)
  clear B
  have B := B2
  clear B2
  have kK00 : w1.cell? ⟨w.heap.size, 0, none⟩ = some (.slice A n c) := K0.cell 0
  go_wp2_with fail
  refine (HSh.out _ B).mono ?_
  rintro e w2 ⟨A5, c5, rfl, own5, h9⟩
  clear kK00
  obtain ⟨n5, hn5⟩ : ∃ n5, L.length = n5 := ⟨_, rfl⟩
  rw [hn5] at own5 ⊢
  replace K0 := K0.below h9 K0.lt
  have B2 := B.trans (h9.mono B.size)
  clear B
  have B := B2
  clear B2 h9
  have AtP : Hid (PAt G w2 A5 n5 c5 L) := Lib.hid (PAt.own own5 (by have := HU.out.2; omega) HU.out.1 (HGs.out _ B))
  clear own5
  have KP := Blk.new w2 24 #[.slice A5 n5 c5]
  replace K0 := K0.alloc (.cells #[.slice A5 n5 c5] 24)
  replace AtP := Lib.hid (AtP.out.below HG.out ((Below.refl _ w2).alloc (Nat.le_refl _) (.cells #[.slice A5 n5 c5] 24)))
  replace B := B.alloc B.size (.cells #[.slice A5 n5 c5] 24)
  have kK00 : (w2.alloc (.cells #[.slice A5 n5 c5] 24)).cell? ⟨w.heap.size, 0, none⟩ = some (.slice A n c) := K0.cell 0
  have kKP0 : (w2.alloc (.cells #[.slice A5 n5 c5] 24)).cell? ⟨w2.heap.size, 0, none⟩ = some (.slice A5 n5 c5) := KP.cell 0
  go_wp2_with fail
  refine (HCk.out _ _ _ _ AtP.out).mono ?_
  rintro e w3 ⟨rfl, h9⟩
  clear kK00 kKP0
  replace K0 := K0.below h9 K0.lt
  replace KP := KP.below h9 KP.lt
  replace AtP := Lib.hid (AtP.out.below HG.out h9)
  have B2 := B.trans (h9.mono B.size)
  clear B
  have B := B2
  clear B2
  clear h9
  have BH := Lib.hid B
  go_wp2
  go_ret
  exact ⟨rfl, BH.out⟩

/-- PoolBack, whatever the pools, what is done -/
theorem back_walk {G : World → Prop} (hG : Steady G) (HCk : PCheckOk G) (HSp : PSplitOk G) (HJo : PJoinOk G) (HMo : PMoveOk G) (HOf : POfOk G) (HSe : PSetOk G) (HSa : PSameOk G) (hk : ∀ u, G u → Calls Try.prog 9 #[] u (Said (.bool true) u))
    (A : Option Addr) (n c : Nat) (l : List Nat) (k a b cpu : Int) (s : Nat) (w : World) (hg : G w) (hR : Reads w w.heap.size 1 A n (us l)) (hnc : n ≤ c) (hU : U32s l) (hs : s < 4294967296) :
    Calls Try.prog 7 #[.agg #[.slice A n c], .agg (OpV k a b cpu s)] w (Said (.bool true) w) := by
  have HGs : ∀ u : World, Below w.heap.size w u → G u := fun u h => hG w u hg h
  have HSh : ∀ (u : World), Below w.heap.size w u → Calls Try.prog 10 #[.agg #[.slice A n c]] u (GivesP (l.take 12) u) := fun u h => shortP_any A n c l u ((hR.below h).more h.size) hnc
  have hU2 : U32s (l.take 12) := u32s_take hU 12
  have hlen : (l.take 12).length ≤ 1000 := by rw [List.length_take]; omega
  generalize l.take 12 = L at *
  cases hr : rightP L with
  | false =>
    have h1 : ∀ (A : Option Addr) (n c : Nat) (u : World), PAt G u A n c L → Calls Try.prog 16 #[.agg #[.slice A n c]] u (Said (.int .i64 180) u) := fun A n c u h => by
      have := HCk A n c L u h
      rwa [if_neg (by rw [hr]; simp)] at this
    exact back_not A n c L k a b cpu s w (Lib.hid ⟨hU2, hlen⟩) (Lib.hid HGs) (Lib.hid hk) (Lib.hid HSh) (Lib.hid h1) (Lib.hid hG)
  | true =>
    have h1 : ∀ (A : Option Addr) (n c : Nat) (u : World), PAt G u A n c L → Calls Try.prog 16 #[.agg #[.slice A n c]] u (Said (.int .i64 0) u) := fun A n c u h => by
      have := HCk A n c L u h
      rwa [if_pos hr] at this
    have h7 : ∀ (A A' : Option Addr) (n c n' c' : Nat) (u : World), PAt G u A n c L → PAt G u A' n' c' L → Calls Try.prog 17 #[.agg #[.slice A n c], .agg #[.slice A' n' c']] u (Said (.bool true) u) := fun A A' n c n' c' u x y => by
      have := HSa A A' n c n' c' L L u x y
      rwa [sameP_self] at this
    obtain ⟨q1, hq1⟩ : ∃ q, splitV L a s = q := ⟨_, rfl⟩
    obtain ⟨L1, n1, e1⟩ := q1
    obtain ⟨q2, hq2⟩ : ∃ q, moveV L cpu b = q := ⟨_, rfl⟩
    obtain ⟨L2, n2, e2⟩ := q2
    have h2 : ∀ (A : Option Addr) (n c : Nat) (u : World), PAt G u A n c L → Calls Try.prog 29 #[.agg #[.slice A n c], .int .i64 a, .int .u32 (s : Int)] u (GivesP3 (L1, n1, e1) u) := fun A n c u h => by
      have := HSp A n c L a s u h hs
      rwa [show splitR L a s = (L1, n1, e1) by unfold splitR; rw [if_pos hr, hq1]] at this
    have h3 : ∀ (A : Option Addr) (n c : Nat) (u : World), PAt G u A n c L → Calls Try.prog 31 #[.agg #[.slice A n c], .int .i64 cpu, .int .i64 b] u (GivesP3 (L2, n2, e2) u) := fun A n c u h => by
      have := HMo A n c L cpu b u h
      rwa [show moveR L cpu b = (L2, n2, e2) by unfold moveR; rw [if_pos hr, hq2]] at this
    by_cases he1 : e1 = 0
    · subst he1
      obtain ⟨j, x, rfl, hx, h8, h0, hsx, hne, h4, rfl, rfl⟩ := split_ok hq1
      have hr1 := split_right hr hx h0 h8 hsx hne h4
      have h4' : ∀ (A : Option Addr) (n c : Nat) (u : World), PAt G u A n c (L.set j (x - s) ++ [s]) → Calls Try.prog 30 #[.agg #[.slice A n c], .int .i64 (L.length : Int), .int .i64 (j : Int)] u (GivesP2 (L, 0) u) := fun A n c u h => by
        have := HJo A n c _ (L.length : Int) (j : Int) u h
        rwa [show joinR (L.set j (x - s) ++ [s]) (L.length : Int) (j : Int) = (L, 0) by unfold joinR; rw [if_pos hr1, join_back hx (and_le hsx)]] at this
      have h5 : ∀ (A : Option Addr) (n c : Nat) (u : World), PAt G u A n c (L.set j (x - s) ++ [s]) → Calls Try.prog 22 #[.agg #[.slice A n c], .int .i64 (L.length : Int)] u (Said (.int .u32 (s : Int)) u) := fun A n c u h => by
        have := HSe A n c _ (L.length : Int) u h
        rwa [show setR (L.set j (x - s) ++ [s]) (L.length : Int) = s by unfold setR; rw [if_pos ⟨hr1, poolB_nat (by simp)⟩, Int.toNat_natCast, split_set]] at this
      by_cases he2 : e2 = 0
      · subst he2
        obtain ⟨j2, b2, m, y, z, rfl, rfl, rfl, m8, ho, hjb, hy, hz, hbit, hle, hc1, rfl⟩ := move_ok hq2
        have hr2 := move_right hr hjb hy hz m8 hbit hle hc1
        exact back_yes_yes (Lib.hid hG) A n c L k _ _ _ s w (Lib.hid hU2) (Lib.hid hr) (Lib.hid HGs) (Lib.hid hk) (Lib.hid HSh) (Lib.hid h1) _ _ (Lib.hid ⟨u32s_right hr1, right_len hr1⟩) (Lib.hid h2) (Lib.hid h4') (Lib.hid h5) (Lib.hid h7) _ _ (Lib.hid ⟨u32s_right hr2, right_len hr2⟩) (Lib.hid h3)
          (Lib.hid fun A n c u h => by
            have := HOf A n c _ (m : Int) u h
            rwa [show ofR ((L.set j2 (y - 2 ^ m)).set b2 (z + 2 ^ m)) (m : Int) = ((b2 : Int), true) by unfold ofR; rw [if_pos hr2, move_of hr hjb hy hz m8 hbit hle hc1]] at this)
          (Lib.hid fun A n c u h => by
            have := HMo A n c _ (m : Int) (j2 : Int) u h
            rwa [show moveR ((L.set j2 (y - 2 ^ m)).set b2 (z + 2 ^ m)) (m : Int) (j2 : Int) = (L, (b2 : Int), 0) by unfold moveR; rw [if_pos hr2, move_back hr hjb hy hz m8 hbit hle hc1]] at this)
      · obtain rfl := move_none hq2 he2
        exact back_yes_no (Lib.hid hG) A n c L k _ _ _ s w (Lib.hid hU2) (Lib.hid hr) (Lib.hid HGs) (Lib.hid hk) (Lib.hid HSh) (Lib.hid h1) _ _ (Lib.hid ⟨u32s_right hr1, right_len hr1⟩) (Lib.hid h2) (Lib.hid h4') (Lib.hid h5) (Lib.hid h7) _ _ (by simpa using he2) (Lib.hid h3)
    · obtain rfl := split_none hq1 he1
      by_cases he2 : e2 = 0
      · subst he2
        obtain ⟨j2, b2, m, y, z, rfl, rfl, rfl, m8, ho, hjb, hy, hz, hbit, hle, hc1, rfl⟩ := move_ok hq2
        have hr2 := move_right hr hjb hy hz m8 hbit hle hc1
        exact back_no_yes (Lib.hid hG) A n c L k _ _ _ s w (Lib.hid hU2) (Lib.hid hr) (Lib.hid HGs) (Lib.hid hk) (Lib.hid HSh) (Lib.hid h1) _ _ (by simpa using he1) (Lib.hid h2) (Lib.hid h7) _ _ (Lib.hid ⟨u32s_right hr2, right_len hr2⟩) (Lib.hid h3)
          (Lib.hid fun A n c u h => by
            have := HOf A n c _ (m : Int) u h
            rwa [show ofR ((L.set j2 (y - 2 ^ m)).set b2 (z + 2 ^ m)) (m : Int) = ((b2 : Int), true) by unfold ofR; rw [if_pos hr2, move_of hr hjb hy hz m8 hbit hle hc1]] at this)
          (Lib.hid fun A n c u h => by
            have := HMo A n c _ (m : Int) (j2 : Int) u h
            rwa [show moveR ((L.set j2 (y - 2 ^ m)).set b2 (z + 2 ^ m)) (m : Int) (j2 : Int) = (L, (b2 : Int), 0) by unfold moveR; rw [if_pos hr2, move_back hr hjb hy hz m8 hbit hle hc1]] at this)
      · obtain rfl := move_none hq2 he2
        exact back_no_no (Lib.hid hG) A n c L k _ _ _ s w (Lib.hid hU2) (Lib.hid hr) (Lib.hid HGs) (Lib.hid hk) (Lib.hid HSh) (Lib.hid h1) _ _ (by simpa using he1) (Lib.hid h2) _ _ (by simpa using he2) (Lib.hid h3)

end Go.Proofs.Ytnckfgnhlnichaa
