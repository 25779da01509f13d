/-
  MaskTells' walk, on what is asked of the landed calls.
-/
import Derived.Test.YtcdlhfhachpcdaaDoorMe
import Derived.Deep.Cut
import Derived.Deep.RegionHeld3
namespace Go.Proofs.YtcdlhfhachpcdaaDoor
open Go.RowKit

theorem mem_zero : mem 0 = [] := by decide +kernel
theorem has_zero (a : Int) : hasB 0 a = false := by simp [hasB]
theorem best_none {m : Int × Int} {s a : Int} (h : allowsR m s = 0) (h2 : likesR m s = 0) : bestR m s a = (0, false) := by
  unfold bestR
  rw [h, h2, Int.ofNat_zero, has_zero, mem_zero, if_neg (by simp)]
  rfl
/-- a call that answers v, where the table of noughts lies -/
abbrev TellsD (f : Nat) (args : Array Value) (v : Value) : Prop := ∀ u : World, Db u → Calls Tryd.prog f args u (Said v u)
/-- a call that answers v, whatever the world -/
abbrev Tells (f : Nat) (args : Array Value) (v : Value) : Prop := ∀ u : World, Calls Tryd.prog f args u (Said v u)
theorem Tells.of_same {f : Nat} {args : Array Value} {v : Value} (h : ∀ u : World, Calls Tryd.prog f args u fun e w' => e = .returned v ∧ u = w') : Tells f args v := fun u => (h u).mono (by rintro e w' ⟨rfl, rfl⟩; exact ⟨rfl, Below.refl _ _⟩)
theorem Tells.of_ans {f : Nat} {args : Array Value} {v : Value} (h : ∀ u : World, Calls Tryd.prog f args u (Ans v u)) : Tells f args v := h

set_option maxRecDepth 100000 in
set_option maxHeartbeats 16000000 in
theorem tells_no (x y s a : Int) (w : World)
    (HD : Hid (∀ u : World, Below w.heap.size w u → Db u))
    (HK : Hid (TellsD 8 #[] (.bool true)))
    (HR : Hid (Tells 9 #[.agg #[.int .u32 x, .int .u32 y]] (.bool false)))
    (HC : Hid (Tells 10 #[.agg #[.int .u32 x, .int .u32 y]] (.int .i64 170)))
    (HB : Hid (TellsD 11 #[.agg #[.int .u32 x, .int .u32 y], .int .u32 s, .int .i64 a] (.tuple #[.int .i64 0, .bool false])))
    (HA : Hid (Tells 13 #[.agg #[.int .u32 x, .int .u32 y], .int .u32 s] (.int .u32 0)))
    (HL : Hid (Tells 14 #[.agg #[.int .u32 x, .int .u32 y], .int .u32 s] (.int .u32 0))) :
    Calls Tryd.prog 3 #[.agg #[.int .u32 x, .int .u32 y], .int .u32 s, .int .i64 a] w (Said (.bool true) w) := by
  obtain ⟨K, B⟩ : Blk (w.alloc (.cells #[.int .u32 x, .int .u32 y] 25)) w.heap.size 25 #[.int .u32 x, .int .u32 y] ∧ Below w.heap.size w (w.alloc (.cells #[.int .u32 x, .int .u32 y] 25)) := ⟨Blk.new _ _ _, (Below.refl _ _).alloc (Nat.le_refl _) _⟩
  have c0 : (w.alloc (.cells #[.int .u32 x, .int .u32 y] 25)).cell? ⟨w.heap.size, 0, none⟩ = some (.int .u32 x) := K.cell 0
  have c1 : (w.alloc (.cells #[.int .u32 x, .int .u32 y] 25)).cell? ⟨w.heap.size, 1, none⟩ = some (.int .u32 y) := K.cell 1
  go_enter Tryd.func3, Tryd.ntmps3
  go_wp2_with fail
  refine (HK.out _ (HD.out _ B)).mono ?_
  rintro e v1 ⟨rfl, h1⟩
  replace K := K.below h1 K.lt
  replace B := B.trans (h1.mono B.size)
  generalize hg : w.heap.size = g at K ⊢
  have c0 : v1.cell? ⟨g, 0, none⟩ = some (.int .u32 x) := K.cell 0
  have c1 : v1.cell? ⟨g, 1, none⟩ = some (.int .u32 y) := K.cell 1
  clear h1
  go_wp2_with fail
  refine (HR.out _).mono ?_
  rintro e v2 ⟨rfl, h1⟩
  replace K := K.below h1 K.lt
  replace B := B.trans (h1.mono B.size)
  have c0 : v2.cell? ⟨g, 0, none⟩ = some (.int .u32 x) := K.cell 0
  have c1 : v2.cell? ⟨g, 1, none⟩ = some (.int .u32 y) := K.cell 1
  clear h1
  go_wp2_with fail
  refine (HC.out _).mono ?_
  rintro e v3 ⟨rfl, h1⟩
  replace K := K.below h1 K.lt
  replace B := B.trans (h1.mono B.size)
  have c0 : v3.cell? ⟨g, 0, none⟩ = some (.int .u32 x) := K.cell 0
  have c1 : v3.cell? ⟨g, 1, none⟩ = some (.int .u32 y) := K.cell 1
  clear h1
  go_wp2_with fail
  refine (HB.out _ (HD.out _ B)).mono ?_
  rintro e v4 ⟨rfl, h1⟩
  replace K := K.below h1 K.lt
  replace B := B.trans (h1.mono B.size)
  have c0 : v4.cell? ⟨g, 0, none⟩ = some (.int .u32 x) := K.cell 0
  have c1 : v4.cell? ⟨g, 1, none⟩ = some (.int .u32 y) := K.cell 1
  clear h1
  go_wp2_with fail
  refine (HA.out _).mono ?_
  rintro e v5 ⟨rfl, h1⟩
  replace K := K.below h1 K.lt
  replace B := B.trans (h1.mono B.size)
  have c0 : v5.cell? ⟨g, 0, none⟩ = some (.int .u32 x) := K.cell 0
  have c1 : v5.cell? ⟨g, 1, none⟩ = some (.int .u32 y) := K.cell 1
  clear h1
  go_wp2_with fail
  refine (HL.out _).mono ?_
  rintro e v6 ⟨rfl, h1⟩
  replace K := K.below h1 K.lt
  replace B := B.trans (h1.mono B.size)
  have c0 : v6.cell? ⟨g, 0, none⟩ = some (.int .u32 x) := K.cell 0
  have c1 : v6.cell? ⟨g, 1, none⟩ = some (.int .u32 y) := K.cell 1
  clear h1
  go_wp2
  go_ret
  exact ⟨rfl, B⟩

set_option maxRecDepth 100000 in
set_option maxHeartbeats 16000000 in
theorem tells_no2 (x y s a : Int) (w : World)
    (HD : Hid (∀ u : World, Below w.heap.size w u → Db u))
    (HK : Hid (TellsD 8 #[] (.bool true)))
    (HR : Hid (Tells 9 #[.agg #[.int .u32 x, .int .u32 y]] (.bool true)))
    (HC : Hid (Tells 10 #[.agg #[.int .u32 x, .int .u32 y]] (.int .i64 0)))
    (HB : Hid (TellsD 11 #[.agg #[.int .u32 x, .int .u32 y], .int .u32 s, .int .i64 a] (.tuple #[.int .i64 0, .bool false])))
    (HS : Hid (Tells 12 #[.int .u32 s] (.bool false)))
    (HA : Hid (Tells 13 #[.agg #[.int .u32 x, .int .u32 y], .int .u32 s] (.int .u32 0)))
    (HL : Hid (Tells 14 #[.agg #[.int .u32 x, .int .u32 y], .int .u32 s] (.int .u32 0))) :
    Calls Tryd.prog 3 #[.agg #[.int .u32 x, .int .u32 y], .int .u32 s, .int .i64 a] w (Said (.bool true) w) := by
  obtain ⟨K, B⟩ : Blk (w.alloc (.cells #[.int .u32 x, .int .u32 y] 25)) w.heap.size 25 #[.int .u32 x, .int .u32 y] ∧ Below w.heap.size w (w.alloc (.cells #[.int .u32 x, .int .u32 y] 25)) := ⟨Blk.new _ _ _, (Below.refl _ _).alloc (Nat.le_refl _) _⟩
  have c0 : (w.alloc (.cells #[.int .u32 x, .int .u32 y] 25)).cell? ⟨w.heap.size, 0, none⟩ = some (.int .u32 x) := K.cell 0
  have c1 : (w.alloc (.cells #[.int .u32 x, .int .u32 y] 25)).cell? ⟨w.heap.size, 1, none⟩ = some (.int .u32 y) := K.cell 1
  go_enter Tryd.func3, Tryd.ntmps3
  go_wp2_with fail
  refine (HK.out _ (HD.out _ B)).mono ?_
  rintro e v7 ⟨rfl, h1⟩
  replace K := K.below h1 K.lt
  replace B := B.trans (h1.mono B.size)
  generalize hg : w.heap.size = g at K ⊢
  have c0 : v7.cell? ⟨g, 0, none⟩ = some (.int .u32 x) := K.cell 0
  have c1 : v7.cell? ⟨g, 1, none⟩ = some (.int .u32 y) := K.cell 1
  clear h1
  go_wp2_with fail
  refine (HR.out _).mono ?_
  rintro e v8 ⟨rfl, h1⟩
  replace K := K.below h1 K.lt
  replace B := B.trans (h1.mono B.size)
  have c0 : v8.cell? ⟨g, 0, none⟩ = some (.int .u32 x) := K.cell 0
  have c1 : v8.cell? ⟨g, 1, none⟩ = some (.int .u32 y) := K.cell 1
  clear h1
  go_wp2_with fail
  refine (HC.out _).mono ?_
  rintro e v9 ⟨rfl, h1⟩
  replace K := K.below h1 K.lt
  replace B := B.trans (h1.mono B.size)
  have c0 : v9.cell? ⟨g, 0, none⟩ = some (.int .u32 x) := K.cell 0
  have c1 : v9.cell? ⟨g, 1, none⟩ = some (.int .u32 y) := K.cell 1
  clear h1
  go_wp2_with fail
  refine (HB.out _ (HD.out _ B)).mono ?_
  rintro e v10 ⟨rfl, h1⟩
  replace K := K.below h1 K.lt
  replace B := B.trans (h1.mono B.size)
  have c0 : v10.cell? ⟨g, 0, none⟩ = some (.int .u32 x) := K.cell 0
  have c1 : v10.cell? ⟨g, 1, none⟩ = some (.int .u32 y) := K.cell 1
  clear h1
  go_wp2_with fail
  refine (HS.out _).mono ?_
  rintro e v11 ⟨rfl, h1⟩
  replace K := K.below h1 K.lt
  replace B := B.trans (h1.mono B.size)
  have c0 : v11.cell? ⟨g, 0, none⟩ = some (.int .u32 x) := K.cell 0
  have c1 : v11.cell? ⟨g, 1, none⟩ = some (.int .u32 y) := K.cell 1
  clear h1
  go_wp2_with fail
  refine (HA.out _).mono ?_
  rintro e v12 ⟨rfl, h1⟩
  replace K := K.below h1 K.lt
  replace B := B.trans (h1.mono B.size)
  have c0 : v12.cell? ⟨g, 0, none⟩ = some (.int .u32 x) := K.cell 0
  have c1 : v12.cell? ⟨g, 1, none⟩ = some (.int .u32 y) := K.cell 1
  clear h1
  go_wp2_with fail
  refine (HL.out _).mono ?_
  rintro e v13 ⟨rfl, h1⟩
  replace K := K.below h1 K.lt
  replace B := B.trans (h1.mono B.size)
  have c0 : v13.cell? ⟨g, 0, none⟩ = some (.int .u32 x) := K.cell 0
  have c1 : v13.cell? ⟨g, 1, none⟩ = some (.int .u32 y) := K.cell 1
  clear h1
  go_wp2
  go_ret
  exact ⟨rfl, B⟩

set_option maxRecDepth 100000 in
set_option maxHeartbeats 16000000 in
theorem tells_at (x y s a A L : Int) (w : World)
    (HD : Hid (∀ u : World, Below w.heap.size w u → Db u))
    (HK : Hid (TellsD 8 #[] (.bool true)))
    (HR : Hid (Tells 9 #[.agg #[.int .u32 x, .int .u32 y]] (.bool true)))
    (HC : Hid (Tells 10 #[.agg #[.int .u32 x, .int .u32 y]] (.int .i64 0)))
    (HB : Hid (TellsD 11 #[.agg #[.int .u32 x, .int .u32 y], .int .u32 s, .int .i64 a] (.tuple #[.int .i64 a, .bool true])))
    (HS : Hid (Tells 12 #[.int .u32 s] (.bool true)))
    (HA : Hid (Tells 13 #[.agg #[.int .u32 x, .int .u32 y], .int .u32 s] (.int .u32 A)))
    (HL : Hid (Tells 14 #[.agg #[.int .u32 x, .int .u32 y], .int .u32 s] (.int .u32 L)))
    (HA7 : Hid (Tells 15 #[.agg #[.int .u32 x, .int .u32 y], .int .u32 s] (.int .u32 A)))
    (HL7 : Hid (Tells 16 #[.agg #[.int .u32 x, .int .u32 y], .int .u32 s] (.int .u32 L)))
    (H4 : Hid (Tells 17 #[.int .u32 A, .int .i64 a] (.bool true))) :
    Calls Tryd.prog 3 #[.agg #[.int .u32 x, .int .u32 y], .int .u32 s, .int .i64 a] w (Said (.bool true) w) := by
  obtain ⟨K, B⟩ : Blk (w.alloc (.cells #[.int .u32 x, .int .u32 y] 25)) w.heap.size 25 #[.int .u32 x, .int .u32 y] ∧ Below w.heap.size w (w.alloc (.cells #[.int .u32 x, .int .u32 y] 25)) := ⟨Blk.new _ _ _, (Below.refl _ _).alloc (Nat.le_refl _) _⟩
  have c0 : (w.alloc (.cells #[.int .u32 x, .int .u32 y] 25)).cell? ⟨w.heap.size, 0, none⟩ = some (.int .u32 x) := K.cell 0
  have c1 : (w.alloc (.cells #[.int .u32 x, .int .u32 y] 25)).cell? ⟨w.heap.size, 1, none⟩ = some (.int .u32 y) := K.cell 1
  go_enter Tryd.func3, Tryd.ntmps3
  go_wp2_with fail
  refine (HK.out _ (HD.out _ B)).mono ?_
  rintro e v14 ⟨rfl, h1⟩
  replace K := K.below h1 K.lt
  replace B := B.trans (h1.mono B.size)
  generalize hg : w.heap.size = g at K ⊢
  have c0 : v14.cell? ⟨g, 0, none⟩ = some (.int .u32 x) := K.cell 0
  have c1 : v14.cell? ⟨g, 1, none⟩ = some (.int .u32 y) := K.cell 1
  clear h1
  go_wp2_with fail
  refine (HR.out _).mono ?_
  rintro e v15 ⟨rfl, h1⟩
  replace K := K.below h1 K.lt
  replace B := B.trans (h1.mono B.size)
  have c0 : v15.cell? ⟨g, 0, none⟩ = some (.int .u32 x) := K.cell 0
  have c1 : v15.cell? ⟨g, 1, none⟩ = some (.int .u32 y) := K.cell 1
  clear h1
  go_wp2_with fail
  refine (HC.out _).mono ?_
  rintro e v16 ⟨rfl, h1⟩
  replace K := K.below h1 K.lt
  replace B := B.trans (h1.mono B.size)
  have c0 : v16.cell? ⟨g, 0, none⟩ = some (.int .u32 x) := K.cell 0
  have c1 : v16.cell? ⟨g, 1, none⟩ = some (.int .u32 y) := K.cell 1
  clear h1
  go_wp2_with fail
  refine (HB.out _ (HD.out _ B)).mono ?_
  rintro e v17 ⟨rfl, h1⟩
  replace K := K.below h1 K.lt
  replace B := B.trans (h1.mono B.size)
  have c0 : v17.cell? ⟨g, 0, none⟩ = some (.int .u32 x) := K.cell 0
  have c1 : v17.cell? ⟨g, 1, none⟩ = some (.int .u32 y) := K.cell 1
  clear h1
  go_wp2_with fail
  refine (HS.out _).mono ?_
  rintro e v18 ⟨rfl, h1⟩
  replace K := K.below h1 K.lt
  replace B := B.trans (h1.mono B.size)
  have c0 : v18.cell? ⟨g, 0, none⟩ = some (.int .u32 x) := K.cell 0
  have c1 : v18.cell? ⟨g, 1, none⟩ = some (.int .u32 y) := K.cell 1
  clear h1
  go_upto_region 10 with fail
  have HX := Lib.hid (fun (u : World) (h : Below v18.heap.size v18 u) => show u.cell? ⟨g, 0, none⟩ = some (.int .u32 x) ∧ u.cell? ⟨g, 1, none⟩ = some (.int .u32 y) from ⟨(K.below h K.lt).cell 0, (K.below h K.lt).cell 1⟩)
  have D1 := (Below.refl v18.heap.size v18).drew
  have k1 := HX.out _ D1
  clear c0 c1
  go_region_held3 (fun w' => w'.cell? ⟨g, 0, none⟩ = some (.int .u32 x) ∧ w'.cell? ⟨g, 1, none⟩ = some (.int .u32 y))
    (first | exact k3 | exact k2 | exact k1)
    (first
      | (go_at_call 16; (with_reducible refine (HL7.out _).mono ?_); rintro e w5 ⟨rfl, h9⟩; have D3 := D2.trans (h9.mono D2.size); have k3 := HX.out _ D3; clear h9)
      | (go_at_call 15; (with_reducible refine (HA7.out _).mono ?_); rintro e w4 ⟨rfl, h9⟩; have D2 := D1.trans (h9.mono D1.size); have k2 := HX.out _ D2; clear h9))
  replace K := K.below D3 K.lt
  replace B := B.trans (D3.mono B.size)
  obtain ⟨c0, c1⟩ := k3
  clear D1 D2 D3 k1 k2 HX
  go_wp2_with fail
  refine (HA.out _).mono ?_
  rintro e v19 ⟨rfl, h1⟩
  replace K := K.below h1 K.lt
  replace B := B.trans (h1.mono B.size)
  have c0 : v19.cell? ⟨g, 0, none⟩ = some (.int .u32 x) := K.cell 0
  have c1 : v19.cell? ⟨g, 1, none⟩ = some (.int .u32 y) := K.cell 1
  clear h1
  go_wp2_with fail
  refine (HL.out _).mono ?_
  rintro e v20 ⟨rfl, h1⟩
  replace K := K.below h1 K.lt
  replace B := B.trans (h1.mono B.size)
  have c0 : v20.cell? ⟨g, 0, none⟩ = some (.int .u32 x) := K.cell 0
  have c1 : v20.cell? ⟨g, 1, none⟩ = some (.int .u32 y) := K.cell 1
  clear h1
  go_wp2_with fail
  refine (H4.out _).mono ?_
  rintro e v21 ⟨rfl, h1⟩
  replace K := K.below h1 K.lt
  replace B := B.trans (h1.mono B.size)
  have c0 : v21.cell? ⟨g, 0, none⟩ = some (.int .u32 x) := K.cell 0
  have c1 : v21.cell? ⟨g, 1, none⟩ = some (.int .u32 y) := K.cell 1
  clear h1
  go_wp2
  go_ret
  exact ⟨rfl, B⟩

set_option maxRecDepth 100000 in
set_option maxHeartbeats 16000000 in
theorem tells_free (x y s a A L N : Int) (w : World) (d : Bool)
    (HD : Hid (∀ u : World, Below w.heap.size w u → Db u))
    (HK : Hid (TellsD 8 #[] (.bool true)))
    (HR : Hid (Tells 9 #[.agg #[.int .u32 x, .int .u32 y]] (.bool true)))
    (HC : Hid (Tells 10 #[.agg #[.int .u32 x, .int .u32 y]] (.int .i64 0)))
    (HB : Hid (TellsD 11 #[.agg #[.int .u32 x, .int .u32 y], .int .u32 s, .int .i64 a] (.tuple #[.int .i64 N, .bool d])))
    (HS : Hid (Tells 12 #[.int .u32 s] (.bool true)))
    (HA : Hid (Tells 13 #[.agg #[.int .u32 x, .int .u32 y], .int .u32 s] (.int .u32 A)))
    (HL : Hid (Tells 14 #[.agg #[.int .u32 x, .int .u32 y], .int .u32 s] (.int .u32 L)))
    (HA7 : Hid (Tells 15 #[.agg #[.int .u32 x, .int .u32 y], .int .u32 s] (.int .u32 A)))
    (HL7 : Hid (Tells 16 #[.agg #[.int .u32 x, .int .u32 y], .int .u32 s] (.int .u32 L)))
    (H4 : Hid (Tells 17 #[.int .u32 A, .int .i64 a] (.bool false)))
    (HN : Hid (Tells 18 #[.int .u32 L, .int .i64 (-1)] (.tuple #[.int .i64 N, .bool d]))) :
    Calls Tryd.prog 3 #[.agg #[.int .u32 x, .int .u32 y], .int .u32 s, .int .i64 a] w (Said (.bool true) w) := by
  obtain ⟨K, B⟩ : Blk (w.alloc (.cells #[.int .u32 x, .int .u32 y] 25)) w.heap.size 25 #[.int .u32 x, .int .u32 y] ∧ Below w.heap.size w (w.alloc (.cells #[.int .u32 x, .int .u32 y] 25)) := ⟨Blk.new _ _ _, (Below.refl _ _).alloc (Nat.le_refl _) _⟩
  have c0 : (w.alloc (.cells #[.int .u32 x, .int .u32 y] 25)).cell? ⟨w.heap.size, 0, none⟩ = some (.int .u32 x) := K.cell 0
  have c1 : (w.alloc (.cells #[.int .u32 x, .int .u32 y] 25)).cell? ⟨w.heap.size, 1, none⟩ = some (.int .u32 y) := K.cell 1
  go_enter Tryd.func3, Tryd.ntmps3
  go_wp2_with fail
  refine (HK.out _ (HD.out _ B)).mono ?_
  rintro e v22 ⟨rfl, h1⟩
  replace K := K.below h1 K.lt
  replace B := B.trans (h1.mono B.size)
  generalize hg : w.heap.size = g at K ⊢
  have c0 : v22.cell? ⟨g, 0, none⟩ = some (.int .u32 x) := K.cell 0
  have c1 : v22.cell? ⟨g, 1, none⟩ = some (.int .u32 y) := K.cell 1
  clear h1
  go_wp2_with fail
  refine (HR.out _).mono ?_
  rintro e v23 ⟨rfl, h1⟩
  replace K := K.below h1 K.lt
  replace B := B.trans (h1.mono B.size)
  have c0 : v23.cell? ⟨g, 0, none⟩ = some (.int .u32 x) := K.cell 0
  have c1 : v23.cell? ⟨g, 1, none⟩ = some (.int .u32 y) := K.cell 1
  clear h1
  go_wp2_with fail
  refine (HC.out _).mono ?_
  rintro e v24 ⟨rfl, h1⟩
  replace K := K.below h1 K.lt
  replace B := B.trans (h1.mono B.size)
  have c0 : v24.cell? ⟨g, 0, none⟩ = some (.int .u32 x) := K.cell 0
  have c1 : v24.cell? ⟨g, 1, none⟩ = some (.int .u32 y) := K.cell 1
  clear h1
  go_wp2_with fail
  refine (HB.out _ (HD.out _ B)).mono ?_
  rintro e v25 ⟨rfl, h1⟩
  replace K := K.below h1 K.lt
  replace B := B.trans (h1.mono B.size)
  have c0 : v25.cell? ⟨g, 0, none⟩ = some (.int .u32 x) := K.cell 0
  have c1 : v25.cell? ⟨g, 1, none⟩ = some (.int .u32 y) := K.cell 1
  clear h1
  go_wp2_with fail
  refine (HS.out _).mono ?_
  rintro e v26 ⟨rfl, h1⟩
  replace K := K.below h1 K.lt
  replace B := B.trans (h1.mono B.size)
  have c0 : v26.cell? ⟨g, 0, none⟩ = some (.int .u32 x) := K.cell 0
  have c1 : v26.cell? ⟨g, 1, none⟩ = some (.int .u32 y) := K.cell 1
  clear h1
  go_upto_region 10 with fail
  have HX := Lib.hid (fun (u : World) (h : Below v26.heap.size v26 u) => show u.cell? ⟨g, 0, none⟩ = some (.int .u32 x) ∧ u.cell? ⟨g, 1, none⟩ = some (.int .u32 y) from ⟨(K.below h K.lt).cell 0, (K.below h K.lt).cell 1⟩)
  have D1 := (Below.refl v26.heap.size v26).drew
  have k1 := HX.out _ D1
  clear c0 c1
  go_region_held3 (fun w' => w'.cell? ⟨g, 0, none⟩ = some (.int .u32 x) ∧ w'.cell? ⟨g, 1, none⟩ = some (.int .u32 y))
    (first | exact k3 | exact k2 | exact k1)
    (first
      | (go_at_call 16; (with_reducible refine (HL7.out _).mono ?_); rintro e w5 ⟨rfl, h9⟩; have D3 := D2.trans (h9.mono D2.size); have k3 := HX.out _ D3; clear h9)
      | (go_at_call 15; (with_reducible refine (HA7.out _).mono ?_); rintro e w4 ⟨rfl, h9⟩; have D2 := D1.trans (h9.mono D1.size); have k2 := HX.out _ D2; clear h9))
  replace K := K.below D3 K.lt
  replace B := B.trans (D3.mono B.size)
  obtain ⟨c0, c1⟩ := k3
  clear D1 D2 D3 k1 k2 HX
  go_wp2_with fail
  refine (HA.out _).mono ?_
  rintro e v27 ⟨rfl, h1⟩
  replace K := K.below h1 K.lt
  replace B := B.trans (h1.mono B.size)
  have c0 : v27.cell? ⟨g, 0, none⟩ = some (.int .u32 x) := K.cell 0
  have c1 : v27.cell? ⟨g, 1, none⟩ = some (.int .u32 y) := K.cell 1
  clear h1
  go_wp2_with fail
  refine (HL.out _).mono ?_
  rintro e v28 ⟨rfl, h1⟩
  replace K := K.below h1 K.lt
  replace B := B.trans (h1.mono B.size)
  have c0 : v28.cell? ⟨g, 0, none⟩ = some (.int .u32 x) := K.cell 0
  have c1 : v28.cell? ⟨g, 1, none⟩ = some (.int .u32 y) := K.cell 1
  clear h1
  go_wp2_with fail
  refine (H4.out _).mono ?_
  rintro e v29 ⟨rfl, h1⟩
  replace K := K.below h1 K.lt
  replace B := B.trans (h1.mono B.size)
  have c0 : v29.cell? ⟨g, 0, none⟩ = some (.int .u32 x) := K.cell 0
  have c1 : v29.cell? ⟨g, 1, none⟩ = some (.int .u32 y) := K.cell 1
  clear h1
  go_wp2_with fail
  refine (HN.out _).mono ?_
  rintro e v30 ⟨rfl, h1⟩
  replace K := K.below h1 K.lt
  replace B := B.trans (h1.mono B.size)
  have c0 : v30.cell? ⟨g, 0, none⟩ = some (.int .u32 x) := K.cell 0
  have c1 : v30.cell? ⟨g, 1, none⟩ = some (.int .u32 y) := K.cell 1
  clear h1
  go_wp2
  go_ret
  exact ⟨rfl, B⟩

/-- MaskTells, whatever the mask, the set, the pCPU -/
theorem tells_walk (HCk : MCheckOk) (HA : MAllowsOk) (HL : MLikesOk) (HBe : MBestOk) (hk : ∀ u, Db u → Calls Tryd.prog 8 #[] u (Said (.bool true) u)) (x y s a : Int) (w : World) (hD : Db w) (hx : U32 x) (hy : U32 y) (hs : U32 s) :
    Calls Tryd.prog 3 #[.agg #[.int .u32 x, .int .u32 y], .int .u32 s, .int .i64 a] w (Said (.bool true) w) := by
  have h7 := fun u => rrightM_any x y u
  have hc := fun u => HCk x y u hx hy
  have hb := fun u (hu : Db u) => HBe x y s a u hu hx hy hs
  have hd := fun (u : World) (h : Below w.heap.size w u) => hD.below h hD.lt
  have ha := fun u => HA x y s u hx hy hs
  have hl := fun u => HL x y s u hx hy hs
  have h4 := fun u => rright_any s u
  cases hr : rightM (x, y) with
  | false =>
    have a0 : allowsR (x, y) s = 0 := by unfold allowsR; rw [hr]; rfl
    have l0 : likesR (x, y) s = 0 := by unfold likesR; rw [hr]; rfl
    rw [hr] at h7 hc
    rw [best_none a0 l0] at hb
    rw [a0] at ha
    rw [l0] at hl
    exact tells_no x y s a w (Lib.hid hd) (Lib.hid hk) (Lib.hid h7) (Lib.hid hc) (Lib.hid hb) (Lib.hid ha) (Lib.hid hl)
  | true =>
    rw [hr] at h7 hc
    by_cases h256 : s < 256
    · have a1 : allowsR (x, y) s = alN (x, y) s := by unfold allowsR; rw [hr, decide_eq_true h256]; rfl
      have l1 : likesR (x, y) s = liN (x, y) s := by unfold likesR; rw [hr, decide_eq_true h256]; rfl
      have h8 : x < 256 := by
        unfold rightM at hr
        simp only [Bool.and_eq_true, decide_eq_true_eq] at hr
        exact hr.1.1
      rw [decide_eq_true h256] at h4
      rw [a1] at ha
      rw [l1] at hl
      have ha7 := fun u => rallows_any x y s u hx hs
      have hl7 := fun u => rlikes_any x y s u hx hy hs h8
      have hh := fun u => rhas_any (alN (x, y) s : Int) a u (by omega)
      have hn := fun u => rnext_any (liN (x, y) s : Int) (-1) u (by omega)
      unfold bestR at hb
      rw [a1, l1] at hb
      cases hq : hasB (alN (x, y) s : Int) a with
      | true =>
        rw [hq] at hh
        rw [hq, if_pos rfl] at hb
        exact tells_at x y s a _ _ w (Lib.hid hd) (Lib.hid hk) (Lib.hid h7) (Lib.hid hc) (Lib.hid hb) (Lib.hid (Tells.of_same h4)) (Lib.hid ha) (Lib.hid hl) (Lib.hid ha7) (Lib.hid hl7) (Lib.hid (Tells.of_same hh))
      | false =>
        rw [hq] at hh
        rw [hq, if_neg (by simp)] at hb
        exact tells_free x y s a _ _ _ w _ (Lib.hid hd) (Lib.hid hk) (Lib.hid h7) (Lib.hid hc) (Lib.hid hb) (Lib.hid (Tells.of_same h4)) (Lib.hid ha) (Lib.hid hl) (Lib.hid ha7) (Lib.hid hl7) (Lib.hid (Tells.of_same hh)) (Lib.hid (Tells.of_ans hn))
    · have a0 : allowsR (x, y) s = 0 := by unfold allowsR; rw [hr, decide_eq_false h256]; rfl
      have l0 : likesR (x, y) s = 0 := by unfold likesR; rw [hr, decide_eq_false h256]; rfl
      rw [best_none a0 l0] at hb
      rw [a0] at ha
      rw [l0] at hl
      rw [decide_eq_false h256] at h4
      exact tells_no2 x y s a w (Lib.hid hd) (Lib.hid hk) (Lib.hid h7) (Lib.hid hc) (Lib.hid hb) (Lib.hid (Tells.of_same h4)) (Lib.hid ha) (Lib.hid hl)

end Go.Proofs.YtcdlhfhachpcdaaDoor
