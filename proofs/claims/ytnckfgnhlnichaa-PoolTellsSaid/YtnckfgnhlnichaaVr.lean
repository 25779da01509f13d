/-
  PoolRead's walk, on what is asked of the landed calls.
-/
import Derived.Test.YtnckfgnhlnichaaVk
import Derived.Test.YtnckfgnhlnichaaVu
namespace Go.Proofs.Ytnckfgnhlnichaa
open Go.RowKit

set_option maxRecDepth 100000 in
set_option maxHeartbeats 16000000 in
theorem read_no_no_short {G : World → Prop} (HG : Hid (Steady G)) (A A' : Option Addr) (n c n' c' : Nat) (L BS : List Nat) (w : World) (HU : Hid (U32s L ∧ L.length ≤ 1000)) (HGs : Hid (∀ u : World, Below w.heap.size w u → G u))
    (h300 : (n' : Int) ≤ 300) (hmc : (n' : Int) ≤ (c' : Int)) (HB0 : Hid (BAt G w A' n' c' BS))
    (HK : Hid (∀ u, G u → Calls Try.prog 9 #[] u (Said (.bool true) u)))
    (HSh : Hid (∀ (u : World), Below w.heap.size w u → Calls Try.prog 10 #[.agg #[.slice A n c]] u (GivesP L u)))
    (HEn : Hid (∀ (A : Option Addr) (n c : Nat) (u : World), PAt G u A n c L → Calls Try.prog 24 #[.agg #[.slice A n c]] u (GivesB ([], 180) u)))
    (e2 : Int) (he2 : (e2 != 0) = true) (HE2 : Hid (e2 = 7 ∨ e2 = 180))
    (HDb : Hid (∀ (A : Option Addr) (n c : Nat) (u : World), BAt G u A n c BS → Calls Try.prog 27 #[.slice A n c] u (GivesP2 ([], e2) u))) :
    Calls Try.prog 8 #[.agg #[.slice A n c], .slice A' n' c'] w (Said (.bool true) w) := by
  obtain ⟨K0, B⟩ : Blk (w.alloc (.cells #[.slice A n c] 24)) w.heap.size 24 #[.slice A n c] ∧ Below w.heap.size w (w.alloc (.cells #[.slice A n c] 24)) := ⟨Blk.new _ _ _, (Below.refl _ _).alloc (Nat.le_refl _) _⟩
  go_enter Try.func8, Try.ntmps8
  have kK00 : (w.alloc (.cells #[.slice A n c] 24)).cell? ⟨w.heap.size, 0, none⟩ = some (.slice A n c) := K0.cell 0
  go_wp2_with fail
  refine (HK.out _ (HGs.out _ B)).mono ?_
  rintro e w1 ⟨rfl, h9⟩
  clear kK00
  replace K0 := K0.below h9 K0.lt
  have B2 := B.trans (h9.mono B.size)
  clear B
  have B := B2
  clear B2
  clear h9
  have kK00 : w1.cell? ⟨w.heap.size, 0, none⟩ = some (.slice A n c) := K0.cell 0
  go_wp2_with fail
  refine (HSh.out _ B).mono ?_
  rintro e w2 ⟨A5, c5, rfl, own5, h9⟩
  clear kK00
  replace K0 := K0.below h9 K0.lt
  have B2 := B.trans (h9.mono B.size)
  clear B
  have B := B2
  clear B2 h9
  obtain ⟨n5, hn5⟩ : ∃ n5, L.length = n5 := ⟨_, rfl⟩
  rw [hn5] at own5 ⊢
  have AtP : Hid (PAt G w2 A5 n5 c5 L) := Lib.hid (PAt.own own5 (by have := HU.out.2; omega) HU.out.1 (HGs.out _ B))
  clear own5
  have KP := Blk.new w2 24 #[.slice A5 n5 c5]
  replace K0 := K0.alloc (.cells #[.slice A5 n5 c5] 24)
  replace AtP := Lib.hid (AtP.out.below HG.out ((Below.refl _ w2).alloc (Nat.le_refl _) (.cells #[.slice A5 n5 c5] 24)))
  replace B := B.alloc B.size (.cells #[.slice A5 n5 c5] 24)
  have kK00 : (w2.alloc (.cells #[.slice A5 n5 c5] 24)).cell? ⟨w.heap.size, 0, none⟩ = some (.slice A n c) := K0.cell 0
  have kKP0 : (w2.alloc (.cells #[.slice A5 n5 c5] 24)).cell? ⟨w2.heap.size, 0, none⟩ = some (.slice A5 n5 c5) := KP.cell 0
  go_wp2_with fail
  refine (HEn.out _ _ _ _ AtP.out).mono ?_
  rintro e w3 ⟨A6, c6, rfl, hc6, r6, h9⟩
  clear kK00 kKP0
  replace K0 := K0.below h9 K0.lt
  replace KP := KP.below h9 KP.lt
  replace AtP := Lib.hid (AtP.out.below HG.out h9)
  have B2 := B.trans (h9.mono B.size)
  clear B
  have B := B2
  clear B2 h9
  rw [show (([], (180 : Int)) : List Nat × Int).1.length = 0 from rfl] at hc6 r6 ⊢
  clear hc6 r6 AtP
  have AtB : Hid (BAt G w3 A' n' c' BS) := Lib.hid (HB0.out.below HG.out B)
  clear K0 KP
  go_wp2_with fail
  refine (HDb.out _ _ _ _ AtB.out).mono ?_
  rintro e w9 ⟨A8, c8, rfl, own8, h9⟩
  replace AtB := Lib.hid (AtB.out.below HG.out h9)
  have B2 := B.trans (h9.mono B.size)
  clear B
  have B := B2
  clear B2 h9
  rw [show (([], e2) : List Nat × Int).1.length = 0 from rfl] at own8 ⊢
  clear own8
  have KD := Blk.new w9 24 #[.slice A8 0 c8]
  replace AtB := Lib.hid (AtB.out.below HG.out ((Below.refl _ w9).alloc (Nat.le_refl _) (.cells #[.slice A8 0 c8] 24)))
  replace B := B.alloc B.size (.cells #[.slice A8 0 c8] 24)
  have BH := Lib.hid B
  rcases HE2.out with rfl | rfl
  all_goals
    go_wp2
    go_ret
    exact ⟨rfl, BH.out⟩

set_option maxRecDepth 100000 in
set_option maxHeartbeats 16000000 in
theorem read_no_yes_short {G : World → Prop} (HG : Hid (Steady G)) (A A' : Option Addr) (n c n' c' : Nat) (L BS : List Nat) (w : World) (HU : Hid (U32s L ∧ L.length ≤ 1000)) (HGs : Hid (∀ u : World, Below w.heap.size w u → G u))
    (h300 : (n' : Int) ≤ 300) (hmc : (n' : Int) ≤ (c' : Int)) (HB0 : Hid (BAt G w A' n' c' BS))
    (HK : Hid (∀ u, G u → Calls Try.prog 9 #[] u (Said (.bool true) u)))
    (HSh : Hid (∀ (u : World), Below w.heap.size w u → Calls Try.prog 10 #[.agg #[.slice A n c]] u (GivesP L u)))
    (HEn : Hid (∀ (A : Option Addr) (n c : Nat) (u : World), PAt G u A n c L → Calls Try.prog 24 #[.agg #[.slice A n c]] u (GivesB ([], 180) u)))
    (Q : List Nat) (HUQ : Hid (U32s Q ∧ Q.length ≤ 1000))
    (HDb : Hid (∀ (A : Option Addr) (n c : Nat) (u : World), BAt G u A n c BS → Calls Try.prog 27 #[.slice A n c] u (GivesP2 (Q, 0) u)))
    (HEq : Hid (∀ (A : Option Addr) (n c : Nat) (u : World), PAt G u A n c Q → Calls Try.prog 24 #[.agg #[.slice A n c]] u (GivesB (BS, 0) u))) :
    Calls Try.prog 8 #[.agg #[.slice A n c], .slice A' n' c'] w (Said (.bool true) w) := by
  obtain ⟨K0, B⟩ : Blk (w.alloc (.cells #[.slice A n c] 24)) w.heap.size 24 #[.slice A n c] ∧ Below w.heap.size w (w.alloc (.cells #[.slice A n c] 24)) := ⟨Blk.new _ _ _, (Below.refl _ _).alloc (Nat.le_refl _) _⟩
  go_enter Try.func8, Try.ntmps8
  have kK00 : (w.alloc (.cells #[.slice A n c] 24)).cell? ⟨w.heap.size, 0, none⟩ = some (.slice A n c) := K0.cell 0
  go_wp2_with fail
  refine (HK.out _ (HGs.out _ B)).mono ?_
  rintro e w1 ⟨rfl, h9⟩
  clear kK00
  replace K0 := K0.below h9 K0.lt
  have B2 := B.trans (h9.mono B.size)
  clear B
  have B := B2
  clear B2
  clear h9
  have kK00 : w1.cell? ⟨w.heap.size, 0, none⟩ = some (.slice A n c) := K0.cell 0
  go_wp2_with fail
  refine (HSh.out _ B).mono ?_
  rintro e w2 ⟨A5, c5, rfl, own5, h9⟩
  clear kK00
  replace K0 := K0.below h9 K0.lt
  have B2 := B.trans (h9.mono B.size)
  clear B
  have B := B2
  clear B2 h9
  obtain ⟨n5, hn5⟩ : ∃ n5, L.length = n5 := ⟨_, rfl⟩
  rw [hn5] at own5 ⊢
  have AtP : Hid (PAt G w2 A5 n5 c5 L) := Lib.hid (PAt.own own5 (by have := HU.out.2; omega) HU.out.1 (HGs.out _ B))
  clear own5
  have KP := Blk.new w2 24 #[.slice A5 n5 c5]
  replace K0 := K0.alloc (.cells #[.slice A5 n5 c5] 24)
  replace AtP := Lib.hid (AtP.out.below HG.out ((Below.refl _ w2).alloc (Nat.le_refl _) (.cells #[.slice A5 n5 c5] 24)))
  replace B := B.alloc B.size (.cells #[.slice A5 n5 c5] 24)
  have kK00 : (w2.alloc (.cells #[.slice A5 n5 c5] 24)).cell? ⟨w.heap.size, 0, none⟩ = some (.slice A n c) := K0.cell 0
  have kKP0 : (w2.alloc (.cells #[.slice A5 n5 c5] 24)).cell? ⟨w2.heap.size, 0, none⟩ = some (.slice A5 n5 c5) := KP.cell 0
  go_wp2_with fail
  refine (HEn.out _ _ _ _ AtP.out).mono ?_
  rintro e w3 ⟨A6, c6, rfl, hc6, r6, h9⟩
  clear kK00 kKP0
  replace K0 := K0.below h9 K0.lt
  replace KP := KP.below h9 KP.lt
  replace AtP := Lib.hid (AtP.out.below HG.out h9)
  have B2 := B.trans (h9.mono B.size)
  clear B
  have B := B2
  clear B2 h9
  rw [show (([], (180 : Int)) : List Nat × Int).1.length = 0 from rfl] at hc6 r6 ⊢
  clear hc6 r6 AtP
  have AtB : Hid (BAt G w3 A' n' c' BS) := Lib.hid (HB0.out.below HG.out B)
  clear K0 KP
  go_wp2_with fail
  refine (HDb.out _ _ _ _ AtB.out).mono ?_
  rintro e w9 ⟨A8, c8, rfl, own8, h9⟩
  replace AtB := Lib.hid (AtB.out.below HG.out h9)
  have B2 := B.trans (h9.mono B.size)
  clear B
  have B := B2
  clear B2 h9
  obtain ⟨n8, hn8⟩ : ∃ n8, Q.length = n8 := ⟨_, rfl⟩
  rw [show (Q, (0 : Int)).1.length = n8 from hn8] at own8 ⊢
  have AtD : Hid (PAt G w9 A8 n8 c8 Q) := Lib.hid (PAt.own own8 (by have := HUQ.out.2; omega) HUQ.out.1 (HGs.out _ B))
  clear own8
  have KD := Blk.new w9 24 #[.slice A8 n8 c8]
  replace AtB := Lib.hid (AtB.out.below HG.out ((Below.refl _ w9).alloc (Nat.le_refl _) (.cells #[.slice A8 n8 c8] 24)))
  replace AtD := Lib.hid (AtD.out.below HG.out ((Below.refl _ w9).alloc (Nat.le_refl _) (.cells #[.slice A8 n8 c8] 24)))
  replace B := B.alloc B.size (.cells #[.slice A8 n8 c8] 24)
  have kKD0 : (w9.alloc (.cells #[.slice A8 n8 c8] 24)).cell? ⟨w9.heap.size, 0, none⟩ = some (.slice A8 n8 c8) := KD.cell 0
  go_wp2_with fail
  refine (HEq.out _ _ _ _ AtD.out).mono ?_
  rintro e w10 ⟨A9, c9, rfl, hc9, r9, h9⟩
  have HEqs := Lib.hid (equal_same A9 A' BS.length n' c9 c' w10.heap.size w10.heap.size BS w10 r9 ((AtB.out.below HG.out h9).1))
  have BH := Lib.hid (B.trans (h9.mono B.size))
  clear h9 r9 hc9
  go_wp2_with fail
  refine HEqs.out.mono ?_
  rintro e w11 ⟨rfl, rfl⟩
  go_wp2
  go_ret
  exact ⟨rfl, BH.out⟩

set_option maxRecDepth 100000 in
set_option maxHeartbeats 16000000 in
theorem read_yes_no_short {G : World → Prop} (HG : Hid (Steady G)) (A A' : Option Addr) (n c n' c' : Nat) (L BS : List Nat) (w : World) (HU : Hid (U32s L ∧ L.length ≤ 1000)) (HGs : Hid (∀ u : World, Below w.heap.size w u → G u))
    (h300 : (n' : Int) ≤ 300) (hmc : (n' : Int) ≤ (c' : Int)) (HB0 : Hid (BAt G w A' n' c' BS))
    (HK : Hid (∀ u, G u → Calls Try.prog 9 #[] u (Said (.bool true) u)))
    (HSh : Hid (∀ (u : World), Below w.heap.size w u → Calls Try.prog 10 #[.agg #[.slice A n c]] u (GivesP L u)))
    (HBy : Hid (∀ x ∈ bytesP L, x < 256)) (HL4 : Hid (L.length ≤ 4))
    (HEn : Hid (∀ (A : Option Addr) (n c : Nat) (u : World), PAt G u A n c L → Calls Try.prog 24 #[.agg #[.slice A n c]] u (GivesB (bytesP L, 0) u)))
    (HDe : Hid (∀ (A : Option Addr) (n c : Nat) (u : World), BAt G u A n c (bytesP L) → Calls Try.prog 27 #[.slice A n c] u (GivesP2 (L, 0) u)))
    (HDs : Hid (∀ (i : Nat), i < L.length + 1 → ∀ (A : Option Addr) (n c : Nat) (u : World), BAt G u A n c ((bytesP L).take i) → Calls Try.prog 27 #[.slice A n c] u (GivesP2 ([], 7) u)))
    (HSa : Hid (∀ (A A' : Option Addr) (n c n' c' : Nat) (u : World), PAt G u A n c L → PAt G u A' n' c' L → Calls Try.prog 17 #[.agg #[.slice A n c], .agg #[.slice A' n' c']] u (Said (.bool true) u)))
    (e2 : Int) (he2 : (e2 != 0) = true) (HE2 : Hid (e2 = 7 ∨ e2 = 180))
    (HDb : Hid (∀ (A : Option Addr) (n c : Nat) (u : World), BAt G u A n c BS → Calls Try.prog 27 #[.slice A n c] u (GivesP2 ([], e2) u))) :
    Calls Try.prog 8 #[.agg #[.slice A n c], .slice A' n' c'] w (Said (.bool true) w) := by
  obtain ⟨K0, B⟩ : Blk (w.alloc (.cells #[.slice A n c] 24)) w.heap.size 24 #[.slice A n c] ∧ Below w.heap.size w (w.alloc (.cells #[.slice A n c] 24)) := ⟨Blk.new _ _ _, (Below.refl _ _).alloc (Nat.le_refl _) _⟩
  go_enter Try.func8, Try.ntmps8
  have kK00 : (w.alloc (.cells #[.slice A n c] 24)).cell? ⟨w.heap.size, 0, none⟩ = some (.slice A n c) := K0.cell 0
  go_wp2_with fail
  refine (HK.out _ (HGs.out _ B)).mono ?_
  rintro e w1 ⟨rfl, h9⟩
  clear kK00
  replace K0 := K0.below h9 K0.lt
  have B2 := B.trans (h9.mono B.size)
  clear B
  have B := B2
  clear B2
  clear h9
  have kK00 : w1.cell? ⟨w.heap.size, 0, none⟩ = some (.slice A n c) := K0.cell 0
  go_wp2_with fail
  refine (HSh.out _ B).mono ?_
  rintro e w2 ⟨A5, c5, rfl, own5, h9⟩
  clear kK00
  replace K0 := K0.below h9 K0.lt
  have B2 := B.trans (h9.mono B.size)
  clear B
  have B := B2
  clear B2 h9
  obtain ⟨n5, hn5⟩ : ∃ n5, L.length = n5 := ⟨_, rfl⟩
  rw [hn5] at own5 ⊢
  have AtP : Hid (PAt G w2 A5 n5 c5 L) := Lib.hid (PAt.own own5 (by have := HU.out.2; omega) HU.out.1 (HGs.out _ B))
  clear own5
  have KP := Blk.new w2 24 #[.slice A5 n5 c5]
  replace K0 := K0.alloc (.cells #[.slice A5 n5 c5] 24)
  replace AtP := Lib.hid (AtP.out.below HG.out ((Below.refl _ w2).alloc (Nat.le_refl _) (.cells #[.slice A5 n5 c5] 24)))
  replace B := B.alloc B.size (.cells #[.slice A5 n5 c5] 24)
  have kK00 : (w2.alloc (.cells #[.slice A5 n5 c5] 24)).cell? ⟨w.heap.size, 0, none⟩ = some (.slice A n c) := K0.cell 0
  have kKP0 : (w2.alloc (.cells #[.slice A5 n5 c5] 24)).cell? ⟨w2.heap.size, 0, none⟩ = some (.slice A5 n5 c5) := KP.cell 0
  go_wp2_with fail
  refine (HEn.out _ _ _ _ AtP.out).mono ?_
  rintro e w3 ⟨A6, c6, rfl, hc6, r6, h9⟩
  clear kK00 kKP0
  replace K0 := K0.below h9 K0.lt
  replace KP := KP.below h9 KP.lt
  replace AtP := Lib.hid (AtP.out.below HG.out h9)
  have B2 := B.trans (h9.mono B.size)
  clear B
  have B := B2
  clear B2 h9
  obtain ⟨n6, hn6⟩ : ∃ n6, L.length + 1 = n6 := ⟨_, rfl⟩
  rw [show (bytesP L, (0 : Int)).1.length = n6 from hn6] at hc6 r6 ⊢
  have AtY : Hid (BAt G w3 A6 n6 c6 (bytesP L)) := Lib.hid ⟨r6, hc6, by have := HL4.out; omega, HBy.out, HGs.out _ B⟩
  clear r6
  have kK00 : w3.cell? ⟨w.heap.size, 0, none⟩ = some (.slice A n c) := K0.cell 0
  have kKP0 : w3.cell? ⟨w2.heap.size, 0, none⟩ = some (.slice A5 n5 c5) := KP.cell 0
  go_wp2_with fail
  refine (HDe.out _ _ _ _ AtY.out).mono ?_
  rintro e w4 ⟨A7, c7, rfl, own7, h9⟩
  clear kK00 kKP0
  replace K0 := K0.below h9 K0.lt
  replace KP := KP.below h9 KP.lt
  replace AtP := Lib.hid (AtP.out.below HG.out h9)
  replace AtY := Lib.hid (AtY.out.below HG.out h9)
  have B2 := B.trans (h9.mono B.size)
  clear B
  have B := B2
  clear B2 h9
  rw [show (L, (0 : Int)).1.length = n5 from hn5] at own7 ⊢
  have AtQ : Hid (PAt G w4 A7 n5 c7 L) := Lib.hid (PAt.own own7 (by have := HU.out.2; omega) HU.out.1 (HGs.out _ B))
  clear own7
  have KQ := Blk.new w4 24 #[.slice A7 n5 c7]
  replace K0 := K0.alloc (.cells #[.slice A7 n5 c7] 24)
  replace KP := KP.alloc (.cells #[.slice A7 n5 c7] 24)
  replace AtP := Lib.hid (AtP.out.below HG.out ((Below.refl _ w4).alloc (Nat.le_refl _) (.cells #[.slice A7 n5 c7] 24)))
  replace AtY := Lib.hid (AtY.out.below HG.out ((Below.refl _ w4).alloc (Nat.le_refl _) (.cells #[.slice A7 n5 c7] 24)))
  replace AtQ := Lib.hid (AtQ.out.below HG.out ((Below.refl _ w4).alloc (Nat.le_refl _) (.cells #[.slice A7 n5 c7] 24)))
  replace B := B.alloc B.size (.cells #[.slice A7 n5 c7] 24)
  have kK00 : (w4.alloc (.cells #[.slice A7 n5 c7] 24)).cell? ⟨w.heap.size, 0, none⟩ = some (.slice A n c) := K0.cell 0
  have kKP0 : (w4.alloc (.cells #[.slice A7 n5 c7] 24)).cell? ⟨w2.heap.size, 0, none⟩ = some (.slice A5 n5 c5) := KP.cell 0
  have kKQ0 : (w4.alloc (.cells #[.slice A7 n5 c7] 24)).cell? ⟨w4.heap.size, 0, none⟩ = some (.slice A7 n5 c7) := KQ.cell 0
  go_wp2_with fail
  refine (HSa.out _ _ _ _ _ _ _ AtP.out AtQ.out).mono ?_
  rintro e w5 ⟨rfl, h9⟩
  clear kK00 kKP0 kKQ0
  replace K0 := K0.below h9 K0.lt
  replace KP := KP.below h9 KP.lt
  replace KQ := KQ.below h9 KQ.lt
  replace AtP := Lib.hid (AtP.out.below HG.out h9)
  replace AtY := Lib.hid (AtY.out.below HG.out h9)
  replace AtQ := Lib.hid (AtQ.out.below HG.out h9)
  have B2 := B.trans (h9.mono B.size)
  clear B
  have B := B2
  clear B2
  clear h9 AtP AtQ K0 KP KQ
  have HN6 := Lib.hid hn6
  have HY := Lib.hid (fun (u : World) (h : Below w5.heap.size w5 u) => AtY.out.below HG.out h)
  have HBW := Lib.hid B
  clear AtY hn6 B hn5
  go_wp2_with fail
  go_loopw [40] (fun i wr => ∃ k : Nat, k ≤ n6 ∧ i = .int .i64 (k : Int) ∧ Below w5.heap.size w5 wr) (fun i _ => n6 - (intOf i).toNat)
  case atStart => exact ⟨0, by omega, rfl, Below.refl _ _⟩
  case round =>
    obtain ⟨k, hk, rfl, Br⟩ := hrel
    by_cases hlt : k < n6
    · have j0 : (0 : Int) ≤ (k : Int) := by omega
      have j1 : (k : Int) ≤ (c6 : Int) := by omega
      have HYk := Lib.hid (HY.out _ Br)
      have HAk : Hid (BAt G wr A6 k c6 ((bytesP L).take k)) := Lib.hid ⟨ubytes_take HYk.out.1 (by omega), by omega, by have := HYk.out.2.2.1; omega, fun x hx => HYk.out.2.2.2.1 x (List.mem_of_mem_take hx), HYk.out.2.2.2.2⟩
      have HDk := Lib.hid (HDs.out k (by have := HN6.out; omega))
      have k9 : k < 400 := by have := HYk.out.2.2.1; omega
      go_wp2_with fail
      refine (HDk.out _ _ _ _ HAk.out).mono ?_
      rintro e w6 ⟨A9, c9, rfl, own9, h9⟩
      rw [show (([], (7 : Int)) : List Nat × Int).1.length = 0 from rfl] at own9 ⊢
      have B2 := Br.trans (h9.mono Br.size)
      have BH := Lib.hid (B2.alloc B2.size (.cells #[.slice A9 0 c9] 24))
      clear own9 h9 B2 Br HYk HAk HDk
      go_wp2
      go_roundw
      case rel => exact ⟨k + 1, by omega, by go_num, BH.out⟩
      case measure => simp [intOf] <;> omega
    · obtain rfl : n6 = k := by omega
      have B : Below w.heap.size w wr := HBW.out.trans (Br.mono HBW.out.size)
      clear Br
      have AtB : Hid (BAt G wr A' n' c' BS) := Lib.hid (HB0.out.below HG.out B)
      go_wp2_with fail
      refine (HDb.out _ _ _ _ AtB.out).mono ?_
      rintro e w9 ⟨A8, c8, rfl, own8, h9⟩
      replace AtB := Lib.hid (AtB.out.below HG.out h9)
      have B2 := B.trans (h9.mono B.size)
      clear B
      have B := B2
      clear B2 h9
      rw [show (([], e2) : List Nat × Int).1.length = 0 from rfl] at own8 ⊢
      clear own8
      have KD := Blk.new w9 24 #[.slice A8 0 c8]
      replace AtB := Lib.hid (AtB.out.below HG.out ((Below.refl _ w9).alloc (Nat.le_refl _) (.cells #[.slice A8 0 c8] 24)))
      replace B := B.alloc B.size (.cells #[.slice A8 0 c8] 24)
      have BH := Lib.hid B
      rcases HE2.out with rfl | rfl
      all_goals
        go_wp2
        go_ret
        exact ⟨rfl, BH.out⟩

set_option maxRecDepth 100000 in
set_option maxHeartbeats 16000000 in
theorem read_yes_yes_short {G : World → Prop} (HG : Hid (Steady G)) (A A' : Option Addr) (n c n' c' : Nat) (L BS : List Nat) (w : World) (HU : Hid (U32s L ∧ L.length ≤ 1000)) (HGs : Hid (∀ u : World, Below w.heap.size w u → G u))
    (h300 : (n' : Int) ≤ 300) (hmc : (n' : Int) ≤ (c' : Int)) (HB0 : Hid (BAt G w A' n' c' BS))
    (HK : Hid (∀ u, G u → Calls Try.prog 9 #[] u (Said (.bool true) u)))
    (HSh : Hid (∀ (u : World), Below w.heap.size w u → Calls Try.prog 10 #[.agg #[.slice A n c]] u (GivesP L u)))
    (HBy : Hid (∀ x ∈ bytesP L, x < 256)) (HL4 : Hid (L.length ≤ 4))
    (HEn : Hid (∀ (A : Option Addr) (n c : Nat) (u : World), PAt G u A n c L → Calls Try.prog 24 #[.agg #[.slice A n c]] u (GivesB (bytesP L, 0) u)))
    (HDe : Hid (∀ (A : Option Addr) (n c : Nat) (u : World), BAt G u A n c (bytesP L) → Calls Try.prog 27 #[.slice A n c] u (GivesP2 (L, 0) u)))
    (HDs : Hid (∀ (i : Nat), i < L.length + 1 → ∀ (A : Option Addr) (n c : Nat) (u : World), BAt G u A n c ((bytesP L).take i) → Calls Try.prog 27 #[.slice A n c] u (GivesP2 ([], 7) u)))
    (HSa : Hid (∀ (A A' : Option Addr) (n c n' c' : Nat) (u : World), PAt G u A n c L → PAt G u A' n' c' L → Calls Try.prog 17 #[.agg #[.slice A n c], .agg #[.slice A' n' c']] u (Said (.bool true) u)))
    (Q : List Nat) (HUQ : Hid (U32s Q ∧ Q.length ≤ 1000))
    (HDb : Hid (∀ (A : Option Addr) (n c : Nat) (u : World), BAt G u A n c BS → Calls Try.prog 27 #[.slice A n c] u (GivesP2 (Q, 0) u)))
    (HEq : Hid (∀ (A : Option Addr) (n c : Nat) (u : World), PAt G u A n c Q → Calls Try.prog 24 #[.agg #[.slice A n c]] u (GivesB (BS, 0) u))) :
    Calls Try.prog 8 #[.agg #[.slice A n c], .slice A' n' c'] w (Said (.bool true) w) := by
  obtain ⟨K0, B⟩ : Blk (w.alloc (.cells #[.slice A n c] 24)) w.heap.size 24 #[.slice A n c] ∧ Below w.heap.size w (w.alloc (.cells #[.slice A n c] 24)) := ⟨Blk.new _ _ _, (Below.refl _ _).alloc (Nat.le_refl _) _⟩
  go_enter Try.func8, Try.ntmps8
  have kK00 : (w.alloc (.cells #[.slice A n c] 24)).cell? ⟨w.heap.size, 0, none⟩ = some (.slice A n c) := K0.cell 0
  go_wp2_with fail
  refine (HK.out _ (HGs.out _ B)).mono ?_
  rintro e w1 ⟨rfl, h9⟩
  clear kK00
  replace K0 := K0.below h9 K0.lt
  have B2 := B.trans (h9.mono B.size)
  clear B
  have B := B2
  clear B2
  clear h9
  have kK00 : w1.cell? ⟨w.heap.size, 0, none⟩ = some (.slice A n c) := K0.cell 0
  go_wp2_with fail
  refine (HSh.out _ B).mono ?_
  rintro e w2 ⟨A5, c5, rfl, own5, h9⟩
  clear kK00
  replace K0 := K0.below h9 K0.lt
  have B2 := B.trans (h9.mono B.size)
  clear B
  have B := B2
  clear B2 h9
  obtain ⟨n5, hn5⟩ : ∃ n5, L.length = n5 := ⟨_, rfl⟩
  rw [hn5] at own5 ⊢
  have AtP : Hid (PAt G w2 A5 n5 c5 L) := Lib.hid (PAt.own own5 (by have := HU.out.2; omega) HU.out.1 (HGs.out _ B))
  clear own5
  have KP := Blk.new w2 24 #[.slice A5 n5 c5]
  replace K0 := K0.alloc (.cells #[.slice A5 n5 c5] 24)
  replace AtP := Lib.hid (AtP.out.below HG.out ((Below.refl _ w2).alloc (Nat.le_refl _) (.cells #[.slice A5 n5 c5] 24)))
  replace B := B.alloc B.size (.cells #[.slice A5 n5 c5] 24)
  have kK00 : (w2.alloc (.cells #[.slice A5 n5 c5] 24)).cell? ⟨w.heap.size, 0, none⟩ = some (.slice A n c) := K0.cell 0
  have kKP0 : (w2.alloc (.cells #[.slice A5 n5 c5] 24)).cell? ⟨w2.heap.size, 0, none⟩ = some (.slice A5 n5 c5) := KP.cell 0
  go_wp2_with fail
  refine (HEn.out _ _ _ _ AtP.out).mono ?_
  rintro e w3 ⟨A6, c6, rfl, hc6, r6, h9⟩
  clear kK00 kKP0
  replace K0 := K0.below h9 K0.lt
  replace KP := KP.below h9 KP.lt
  replace AtP := Lib.hid (AtP.out.below HG.out h9)
  have B2 := B.trans (h9.mono B.size)
  clear B
  have B := B2
  clear B2 h9
  obtain ⟨n6, hn6⟩ : ∃ n6, L.length + 1 = n6 := ⟨_, rfl⟩
  rw [show (bytesP L, (0 : Int)).1.length = n6 from hn6] at hc6 r6 ⊢
  have AtY : Hid (BAt G w3 A6 n6 c6 (bytesP L)) := Lib.hid ⟨r6, hc6, by have := HL4.out; omega, HBy.out, HGs.out _ B⟩
  clear r6
  have kK00 : w3.cell? ⟨w.heap.size, 0, none⟩ = some (.slice A n c) := K0.cell 0
  have kKP0 : w3.cell? ⟨w2.heap.size, 0, none⟩ = some (.slice A5 n5 c5) := KP.cell 0
  go_wp2_with fail
  refine (HDe.out _ _ _ _ AtY.out).mono ?_
  rintro e w4 ⟨A7, c7, rfl, own7, h9⟩
  clear kK00 kKP0
  replace K0 := K0.below h9 K0.lt
  replace KP := KP.below h9 KP.lt
  replace AtP := Lib.hid (AtP.out.below HG.out h9)
  replace AtY := Lib.hid (AtY.out.below HG.out h9)
  have B2 := B.trans (h9.mono B.size)
  clear B
  have B := B2
  clear B2 h9
  rw [show (L, (0 : Int)).1.length = n5 from hn5] at own7 ⊢
  have AtQ : Hid (PAt G w4 A7 n5 c7 L) := Lib.hid (PAt.own own7 (by have := HU.out.2; omega) HU.out.1 (HGs.out _ B))
  clear own7
  have KQ := Blk.new w4 24 #[.slice A7 n5 c7]
  replace K0 := K0.alloc (.cells #[.slice A7 n5 c7] 24)
  replace KP := KP.alloc (.cells #[.slice A7 n5 c7] 24)
  replace AtP := Lib.hid (AtP.out.below HG.out ((Below.refl _ w4).alloc (Nat.le_refl _) (.cells #[.slice A7 n5 c7] 24)))
  replace AtY := Lib.hid (AtY.out.below HG.out ((Below.refl _ w4).alloc (Nat.le_refl _) (.cells #[.slice A7 n5 c7] 24)))
  replace AtQ := Lib.hid (AtQ.out.below HG.out ((Below.refl _ w4).alloc (Nat.le_refl _) (.cells #[.slice A7 n5 c7] 24)))
  replace B := B.alloc B.size (.cells #[.slice A7 n5 c7] 24)
  have kK00 : (w4.alloc (.cells #[.slice A7 n5 c7] 24)).cell? ⟨w.heap.size, 0, none⟩ = some (.slice A n c) := K0.cell 0
  have kKP0 : (w4.alloc (.cells #[.slice A7 n5 c7] 24)).cell? ⟨w2.heap.size, 0, none⟩ = some (.slice A5 n5 c5) := KP.cell 0
  have kKQ0 : (w4.alloc (.cells #[.slice A7 n5 c7] 24)).cell? ⟨w4.heap.size, 0, none⟩ = some (.slice A7 n5 c7) := KQ.cell 0
  go_wp2_with fail
  refine (HSa.out _ _ _ _ _ _ _ AtP.out AtQ.out).mono ?_
  rintro e w5 ⟨rfl, h9⟩
  clear kK00 kKP0 kKQ0
  replace K0 := K0.below h9 K0.lt
  replace KP := KP.below h9 KP.lt
  replace KQ := KQ.below h9 KQ.lt
  replace AtP := Lib.hid (AtP.out.below HG.out h9)
  replace AtY := Lib.hid (AtY.out.below HG.out h9)
  replace AtQ := Lib.hid (AtQ.out.below HG.out h9)
  have B2 := B.trans (h9.mono B.size)
  clear B
  have B := B2
  clear B2
  clear h9 AtP AtQ K0 KP KQ
  have HN6 := Lib.hid hn6
  have HY := Lib.hid (fun (u : World) (h : Below w5.heap.size w5 u) => AtY.out.below HG.out h)
  have HBW := Lib.hid B
  clear AtY hn6 B hn5
  go_wp2_with fail
  go_loopw [40] (fun i wr => ∃ k : Nat, k ≤ n6 ∧ i = .int .i64 (k : Int) ∧ Below w5.heap.size w5 wr) (fun i _ => n6 - (intOf i).toNat)
  case atStart => exact ⟨0, by omega, rfl, Below.refl _ _⟩
  case round =>
    obtain ⟨k, hk, rfl, Br⟩ := hrel
    by_cases hlt : k < n6
    · have j0 : (0 : Int) ≤ (k : Int) := by omega
      have j1 : (k : Int) ≤ (c6 : Int) := by omega
      have HYk := Lib.hid (HY.out _ Br)
      have HAk : Hid (BAt G wr A6 k c6 ((bytesP L).take k)) := Lib.hid ⟨ubytes_take HYk.out.1 (by omega), by omega, by have := HYk.out.2.2.1; omega, fun x hx => HYk.out.2.2.2.1 x (List.mem_of_mem_take hx), HYk.out.2.2.2.2⟩
      have HDk := Lib.hid (HDs.out k (by have := HN6.out; omega))
      have k9 : k < 400 := by have := HYk.out.2.2.1; omega
      go_wp2_with fail
      refine (HDk.out _ _ _ _ HAk.out).mono ?_
      rintro e w6 ⟨A9, c9, rfl, own9, h9⟩
      rw [show (([], (7 : Int)) : List Nat × Int).1.length = 0 from rfl] at own9 ⊢
      have B2 := Br.trans (h9.mono Br.size)
      have BH := Lib.hid (B2.alloc B2.size (.cells #[.slice A9 0 c9] 24))
      clear own9 h9 B2 Br HYk HAk HDk
      go_wp2
      go_roundw
      case rel => exact ⟨k + 1, by omega, by go_num, BH.out⟩
      case measure => simp [intOf] <;> omega
    · obtain rfl : n6 = k := by omega
      have B : Below w.heap.size w wr := HBW.out.trans (Br.mono HBW.out.size)
      clear Br
      have AtB : Hid (BAt G wr A' n' c' BS) := Lib.hid (HB0.out.below HG.out B)
      go_wp2_with fail
      refine (HDb.out _ _ _ _ AtB.out).mono ?_
      rintro e w9 ⟨A8, c8, rfl, own8, h9⟩
      replace AtB := Lib.hid (AtB.out.below HG.out h9)
      have B2 := B.trans (h9.mono B.size)
      clear B
      have B := B2
      clear B2 h9
      obtain ⟨n8, hn8⟩ : ∃ n8, Q.length = n8 := ⟨_, rfl⟩
      rw [show (Q, (0 : Int)).1.length = n8 from hn8] at own8 ⊢
      have AtD : Hid (PAt G w9 A8 n8 c8 Q) := Lib.hid (PAt.own own8 (by have := HUQ.out.2; omega) HUQ.out.1 (HGs.out _ B))
      clear own8
      have KD := Blk.new w9 24 #[.slice A8 n8 c8]
      replace AtB := Lib.hid (AtB.out.below HG.out ((Below.refl _ w9).alloc (Nat.le_refl _) (.cells #[.slice A8 n8 c8] 24)))
      replace AtD := Lib.hid (AtD.out.below HG.out ((Below.refl _ w9).alloc (Nat.le_refl _) (.cells #[.slice A8 n8 c8] 24)))
      replace B := B.alloc B.size (.cells #[.slice A8 n8 c8] 24)
      have kKD0 : (w9.alloc (.cells #[.slice A8 n8 c8] 24)).cell? ⟨w9.heap.size, 0, none⟩ = some (.slice A8 n8 c8) := KD.cell 0
      go_wp2_with fail
      refine (HEq.out _ _ _ _ AtD.out).mono ?_
      rintro e w10 ⟨A9, c9, rfl, hc9, r9, h9⟩
      have HEqs := Lib.hid (equal_same A9 A' BS.length n' c9 c' w10.heap.size w10.heap.size BS w10 r9 ((AtB.out.below HG.out h9).1))
      have BH := Lib.hid (B.trans (h9.mono B.size))
      clear h9 r9 hc9
      go_wp2_with fail
      refine HEqs.out.mono ?_
      rintro e w11 ⟨rfl, rfl⟩
      go_wp2
      go_ret
      exact ⟨rfl, BH.out⟩

set_option maxRecDepth 100000 in
set_option maxHeartbeats 16000000 in
theorem read_no_no_long {G : World → Prop} (HG : Hid (Steady G)) (A A' : Option Addr) (n c n' c' m : Nat) (L BS : List Nat) (w : World) (HU : Hid (U32s L ∧ L.length ≤ 1000)) (HGs : Hid (∀ u : World, Below w.heap.size w u → G u))
    (h300 : (300 : Int) < (n' : Int)) (hc3 : (300 : Int) ≤ (c' : Int)) (HT : Hid (m = 300)) (HB0 : Hid (BAt G w A' m c' BS))
    (HK : Hid (∀ u, G u → Calls Try.prog 9 #[] u (Said (.bool true) u)))
    (HSh : Hid (∀ (u : World), Below w.heap.size w u → Calls Try.prog 10 #[.agg #[.slice A n c]] u (GivesP L u)))
    (HEn : Hid (∀ (A : Option Addr) (n c : Nat) (u : World), PAt G u A n c L → Calls Try.prog 24 #[.agg #[.slice A n c]] u (GivesB ([], 180) u)))
    (e2 : Int) (he2 : (e2 != 0) = true) (HE2 : Hid (e2 = 7 ∨ e2 = 180))
    (HDb : Hid (∀ (A : Option Addr) (n c : Nat) (u : World), BAt G u A n c BS → Calls Try.prog 27 #[.slice A n c] u (GivesP2 ([], e2) u))) :
    Calls Try.prog 8 #[.agg #[.slice A n c], .slice A' n' c'] w (Said (.bool true) w) := by
  obtain ⟨K0, B⟩ : Blk (w.alloc (.cells #[.slice A n c] 24)) w.heap.size 24 #[.slice A n c] ∧ Below w.heap.size w (w.alloc (.cells #[.slice A n c] 24)) := ⟨Blk.new _ _ _, (Below.refl _ _).alloc (Nat.le_refl _) _⟩
  go_enter Try.func8, Try.ntmps8
  have kK00 : (w.alloc (.cells #[.slice A n c] 24)).cell? ⟨w.heap.size, 0, none⟩ = some (.slice A n c) := K0.cell 0
  go_wp2_with fail
  refine (HK.out _ (HGs.out _ B)).mono ?_
  rintro e w1 ⟨rfl, h9⟩
  clear kK00
  replace K0 := K0.below h9 K0.lt
  have B2 := B.trans (h9.mono B.size)
  clear B
  have B := B2
  clear B2
  clear h9
  have kK00 : w1.cell? ⟨w.heap.size, 0, none⟩ = some (.slice A n c) := K0.cell 0
  go_wp2_with fail
  refine (HSh.out _ B).mono ?_
  rintro e w2 ⟨A5, c5, rfl, own5, h9⟩
  clear kK00
  replace K0 := K0.below h9 K0.lt
  have B2 := B.trans (h9.mono B.size)
  clear B
  have B := B2
  clear B2 h9
  obtain ⟨n5, hn5⟩ : ∃ n5, L.length = n5 := ⟨_, rfl⟩
  rw [hn5] at own5 ⊢
  have AtP : Hid (PAt G w2 A5 n5 c5 L) := Lib.hid (PAt.own own5 (by have := HU.out.2; omega) HU.out.1 (HGs.out _ B))
  clear own5
  have KP := Blk.new w2 24 #[.slice A5 n5 c5]
  replace K0 := K0.alloc (.cells #[.slice A5 n5 c5] 24)
  replace AtP := Lib.hid (AtP.out.below HG.out ((Below.refl _ w2).alloc (Nat.le_refl _) (.cells #[.slice A5 n5 c5] 24)))
  replace B := B.alloc B.size (.cells #[.slice A5 n5 c5] 24)
  have kK00 : (w2.alloc (.cells #[.slice A5 n5 c5] 24)).cell? ⟨w.heap.size, 0, none⟩ = some (.slice A n c) := K0.cell 0
  have kKP0 : (w2.alloc (.cells #[.slice A5 n5 c5] 24)).cell? ⟨w2.heap.size, 0, none⟩ = some (.slice A5 n5 c5) := KP.cell 0
  go_wp2_with fail
  refine (HEn.out _ _ _ _ AtP.out).mono ?_
  rintro e w3 ⟨A6, c6, rfl, hc6, r6, h9⟩
  clear kK00 kKP0
  replace K0 := K0.below h9 K0.lt
  replace KP := KP.below h9 KP.lt
  replace AtP := Lib.hid (AtP.out.below HG.out h9)
  have B2 := B.trans (h9.mono B.size)
  clear B
  have B := B2
  clear B2 h9
  rw [show (([], (180 : Int)) : List Nat × Int).1.length = 0 from rfl] at hc6 r6 ⊢
  clear hc6 r6 AtP
  have AtB : Hid (BAt G w3 A' m c' BS) := Lib.hid (HB0.out.below HG.out B)
  clear K0 KP
  go_wp2_with fail
  rw [show (Value.slice A' 300 c') = .slice A' m c' by rw [HT.out]]
  refine (HDb.out _ _ _ _ AtB.out).mono ?_
  rintro e w9 ⟨A8, c8, rfl, own8, h9⟩
  replace AtB := Lib.hid (AtB.out.below HG.out h9)
  have B2 := B.trans (h9.mono B.size)
  clear B
  have B := B2
  clear B2 h9
  rw [show (([], e2) : List Nat × Int).1.length = 0 from rfl] at own8 ⊢
  clear own8
  have KD := Blk.new w9 24 #[.slice A8 0 c8]
  replace AtB := Lib.hid (AtB.out.below HG.out ((Below.refl _ w9).alloc (Nat.le_refl _) (.cells #[.slice A8 0 c8] 24)))
  replace B := B.alloc B.size (.cells #[.slice A8 0 c8] 24)
  have BH := Lib.hid B
  rcases HE2.out with rfl | rfl
  all_goals
    go_wp2
    go_ret
    exact ⟨rfl, BH.out⟩

set_option maxRecDepth 100000 in
set_option maxHeartbeats 16000000 in
theorem read_no_yes_long {G : World → Prop} (HG : Hid (Steady G)) (A A' : Option Addr) (n c n' c' m : Nat) (L BS : List Nat) (w : World) (HU : Hid (U32s L ∧ L.length ≤ 1000)) (HGs : Hid (∀ u : World, Below w.heap.size w u → G u))
    (h300 : (300 : Int) < (n' : Int)) (hc3 : (300 : Int) ≤ (c' : Int)) (HT : Hid (m = 300)) (HB0 : Hid (BAt G w A' m c' BS))
    (HK : Hid (∀ u, G u → Calls Try.prog 9 #[] u (Said (.bool true) u)))
    (HSh : Hid (∀ (u : World), Below w.heap.size w u → Calls Try.prog 10 #[.agg #[.slice A n c]] u (GivesP L u)))
    (HEn : Hid (∀ (A : Option Addr) (n c : Nat) (u : World), PAt G u A n c L → Calls Try.prog 24 #[.agg #[.slice A n c]] u (GivesB ([], 180) u)))
    (Q : List Nat) (HUQ : Hid (U32s Q ∧ Q.length ≤ 1000))
    (HDb : Hid (∀ (A : Option Addr) (n c : Nat) (u : World), BAt G u A n c BS → Calls Try.prog 27 #[.slice A n c] u (GivesP2 (Q, 0) u)))
    (HEq : Hid (∀ (A : Option Addr) (n c : Nat) (u : World), PAt G u A n c Q → Calls Try.prog 24 #[.agg #[.slice A n c]] u (GivesB (BS, 0) u))) :
    Calls Try.prog 8 #[.agg #[.slice A n c], .slice A' n' c'] w (Said (.bool true) w) := by
  obtain ⟨K0, B⟩ : Blk (w.alloc (.cells #[.slice A n c] 24)) w.heap.size 24 #[.slice A n c] ∧ Below w.heap.size w (w.alloc (.cells #[.slice A n c] 24)) := ⟨Blk.new _ _ _, (Below.refl _ _).alloc (Nat.le_refl _) _⟩
  go_enter Try.func8, Try.ntmps8
  have kK00 : (w.alloc (.cells #[.slice A n c] 24)).cell? ⟨w.heap.size, 0, none⟩ = some (.slice A n c) := K0.cell 0
  go_wp2_with fail
  refine (HK.out _ (HGs.out _ B)).mono ?_
  rintro e w1 ⟨rfl, h9⟩
  clear kK00
  replace K0 := K0.below h9 K0.lt
  have B2 := B.trans (h9.mono B.size)
  clear B
  have B := B2
  clear B2
  clear h9
  have kK00 : w1.cell? ⟨w.heap.size, 0, none⟩ = some (.slice A n c) := K0.cell 0
  go_wp2_with fail
  refine (HSh.out _ B).mono ?_
  rintro e w2 ⟨A5, c5, rfl, own5, h9⟩
  clear kK00
  replace K0 := K0.below h9 K0.lt
  have B2 := B.trans (h9.mono B.size)
  clear B
  have B := B2
  clear B2 h9
  obtain ⟨n5, hn5⟩ : ∃ n5, L.length = n5 := ⟨_, rfl⟩
  rw [hn5] at own5 ⊢
  have AtP : Hid (PAt G w2 A5 n5 c5 L) := Lib.hid (PAt.own own5 (by have := HU.out.2; omega) HU.out.1 (HGs.out _ B))
  clear own5
  have KP := Blk.new w2 24 #[.slice A5 n5 c5]
  replace K0 := K0.alloc (.cells #[.slice A5 n5 c5] 24)
  replace AtP := Lib.hid (AtP.out.below HG.out ((Below.refl _ w2).alloc (Nat.le_refl _) (.cells #[.slice A5 n5 c5] 24)))
  replace B := B.alloc B.size (.cells #[.slice A5 n5 c5] 24)
  have kK00 : (w2.alloc (.cells #[.slice A5 n5 c5] 24)).cell? ⟨w.heap.size, 0, none⟩ = some (.slice A n c) := K0.cell 0
  have kKP0 : (w2.alloc (.cells #[.slice A5 n5 c5] 24)).cell? ⟨w2.heap.size, 0, none⟩ = some (.slice A5 n5 c5) := KP.cell 0
  go_wp2_with fail
  refine (HEn.out _ _ _ _ AtP.out).mono ?_
  rintro e w3 ⟨A6, c6, rfl, hc6, r6, h9⟩
  clear kK00 kKP0
  replace K0 := K0.below h9 K0.lt
  replace KP := KP.below h9 KP.lt
  replace AtP := Lib.hid (AtP.out.below HG.out h9)
  have B2 := B.trans (h9.mono B.size)
  clear B
  have B := B2
  clear B2 h9
  rw [show (([], (180 : Int)) : List Nat × Int).1.length = 0 from rfl] at hc6 r6 ⊢
  clear hc6 r6 AtP
  have AtB : Hid (BAt G w3 A' m c' BS) := Lib.hid (HB0.out.below HG.out B)
  clear K0 KP
  go_wp2_with fail
  rw [show (Value.slice A' 300 c') = .slice A' m c' by rw [HT.out]]
  refine (HDb.out _ _ _ _ AtB.out).mono ?_
  rintro e w9 ⟨A8, c8, rfl, own8, h9⟩
  replace AtB := Lib.hid (AtB.out.below HG.out h9)
  have B2 := B.trans (h9.mono B.size)
  clear B
  have B := B2
  clear B2 h9
  obtain ⟨n8, hn8⟩ : ∃ n8, Q.length = n8 := ⟨_, rfl⟩
  rw [show (Q, (0 : Int)).1.length = n8 from hn8] at own8 ⊢
  have AtD : Hid (PAt G w9 A8 n8 c8 Q) := Lib.hid (PAt.own own8 (by have := HUQ.out.2; omega) HUQ.out.1 (HGs.out _ B))
  clear own8
  have KD := Blk.new w9 24 #[.slice A8 n8 c8]
  replace AtB := Lib.hid (AtB.out.below HG.out ((Below.refl _ w9).alloc (Nat.le_refl _) (.cells #[.slice A8 n8 c8] 24)))
  replace AtD := Lib.hid (AtD.out.below HG.out ((Below.refl _ w9).alloc (Nat.le_refl _) (.cells #[.slice A8 n8 c8] 24)))
  replace B := B.alloc B.size (.cells #[.slice A8 n8 c8] 24)
  have kKD0 : (w9.alloc (.cells #[.slice A8 n8 c8] 24)).cell? ⟨w9.heap.size, 0, none⟩ = some (.slice A8 n8 c8) := KD.cell 0
  go_wp2_with fail
  refine (HEq.out _ _ _ _ AtD.out).mono ?_
  rintro e w10 ⟨A9, c9, rfl, hc9, r9, h9⟩
  have HEqs := Lib.hid (equal_same A9 A' BS.length m c9 c' w10.heap.size w10.heap.size BS w10 r9 ((AtB.out.below HG.out h9).1))
  have BH := Lib.hid (B.trans (h9.mono B.size))
  clear h9 r9 hc9
  go_wp2_with fail
  refine HEqs.out.mono ?_
  rintro e w11 ⟨rfl, rfl⟩
  go_wp2
  go_ret
  exact ⟨rfl, BH.out⟩

set_option maxRecDepth 100000 in
set_option maxHeartbeats 16000000 in
theorem read_yes_no_long {G : World → Prop} (HG : Hid (Steady G)) (A A' : Option Addr) (n c n' c' m : Nat) (L BS : List Nat) (w : World) (HU : Hid (U32s L ∧ L.length ≤ 1000)) (HGs : Hid (∀ u : World, Below w.heap.size w u → G u))
    (h300 : (300 : Int) < (n' : Int)) (hc3 : (300 : Int) ≤ (c' : Int)) (HT : Hid (m = 300)) (HB0 : Hid (BAt G w A' m c' BS))
    (HK : Hid (∀ u, G u → Calls Try.prog 9 #[] u (Said (.bool true) u)))
    (HSh : Hid (∀ (u : World), Below w.heap.size w u → Calls Try.prog 10 #[.agg #[.slice A n c]] u (GivesP L u)))
    (HBy : Hid (∀ x ∈ bytesP L, x < 256)) (HL4 : Hid (L.length ≤ 4))
    (HEn : Hid (∀ (A : Option Addr) (n c : Nat) (u : World), PAt G u A n c L → Calls Try.prog 24 #[.agg #[.slice A n c]] u (GivesB (bytesP L, 0) u)))
    (HDe : Hid (∀ (A : Option Addr) (n c : Nat) (u : World), BAt G u A n c (bytesP L) → Calls Try.prog 27 #[.slice A n c] u (GivesP2 (L, 0) u)))
    (HDs : Hid (∀ (i : Nat), i < L.length + 1 → ∀ (A : Option Addr) (n c : Nat) (u : World), BAt G u A n c ((bytesP L).take i) → Calls Try.prog 27 #[.slice A n c] u (GivesP2 ([], 7) u)))
    (HSa : Hid (∀ (A A' : Option Addr) (n c n' c' : Nat) (u : World), PAt G u A n c L → PAt G u A' n' c' L → Calls Try.prog 17 #[.agg #[.slice A n c], .agg #[.slice A' n' c']] u (Said (.bool true) u)))
    (e2 : Int) (he2 : (e2 != 0) = true) (HE2 : Hid (e2 = 7 ∨ e2 = 180))
    (HDb : Hid (∀ (A : Option Addr) (n c : Nat) (u : World), BAt G u A n c BS → Calls Try.prog 27 #[.slice A n c] u (GivesP2 ([], e2) u))) :
    Calls Try.prog 8 #[.agg #[.slice A n c], .slice A' n' c'] w (Said (.bool true) w) := by
  obtain ⟨K0, B⟩ : Blk (w.alloc (.cells #[.slice A n c] 24)) w.heap.size 24 #[.slice A n c] ∧ Below w.heap.size w (w.alloc (.cells #[.slice A n c] 24)) := ⟨Blk.new _ _ _, (Below.refl _ _).alloc (Nat.le_refl _) _⟩
  go_enter Try.func8, Try.ntmps8
  have kK00 : (w.alloc (.cells #[.slice A n c] 24)).cell? ⟨w.heap.size, 0, none⟩ = some (.slice A n c) := K0.cell 0
  go_wp2_with fail
  refine (HK.out _ (HGs.out _ B)).mono ?_
  rintro e w1 ⟨rfl, h9⟩
  clear kK00
  replace K0 := K0.below h9 K0.lt
  have B2 := B.trans (h9.mono B.size)
  clear B
  have B := B2
  clear B2
  clear h9
  have kK00 : w1.cell? ⟨w.heap.size, 0, none⟩ = some (.slice A n c) := K0.cell 0
  go_wp2_with fail
  refine (HSh.out _ B).mono ?_
  rintro e w2 ⟨A5, c5, rfl, own5, h9⟩
  clear kK00
  replace K0 := K0.below h9 K0.lt
  have B2 := B.trans (h9.mono B.size)
  clear B
  have B := B2
  clear B2 h9
  obtain ⟨n5, hn5⟩ : ∃ n5, L.length = n5 := ⟨_, rfl⟩
  rw [hn5] at own5 ⊢
  have AtP : Hid (PAt G w2 A5 n5 c5 L) := Lib.hid (PAt.own own5 (by have := HU.out.2; omega) HU.out.1 (HGs.out _ B))
  clear own5
  have KP := Blk.new w2 24 #[.slice A5 n5 c5]
  replace K0 := K0.alloc (.cells #[.slice A5 n5 c5] 24)
  replace AtP := Lib.hid (AtP.out.below HG.out ((Below.refl _ w2).alloc (Nat.le_refl _) (.cells #[.slice A5 n5 c5] 24)))
  replace B := B.alloc B.size (.cells #[.slice A5 n5 c5] 24)
  have kK00 : (w2.alloc (.cells #[.slice A5 n5 c5] 24)).cell? ⟨w.heap.size, 0, none⟩ = some (.slice A n c) := K0.cell 0
  have kKP0 : (w2.alloc (.cells #[.slice A5 n5 c5] 24)).cell? ⟨w2.heap.size, 0, none⟩ = some (.slice A5 n5 c5) := KP.cell 0
  go_wp2_with fail
  refine (HEn.out _ _ _ _ AtP.out).mono ?_
  rintro e w3 ⟨A6, c6, rfl, hc6, r6, h9⟩
  clear kK00 kKP0
  replace K0 := K0.below h9 K0.lt
  replace KP := KP.below h9 KP.lt
  replace AtP := Lib.hid (AtP.out.below HG.out h9)
  have B2 := B.trans (h9.mono B.size)
  clear B
  have B := B2
  clear B2 h9
  obtain ⟨n6, hn6⟩ : ∃ n6, L.length + 1 = n6 := ⟨_, rfl⟩
  rw [show (bytesP L, (0 : Int)).1.length = n6 from hn6] at hc6 r6 ⊢
  have AtY : Hid (BAt G w3 A6 n6 c6 (bytesP L)) := Lib.hid ⟨r6, hc6, by have := HL4.out; omega, HBy.out, HGs.out _ B⟩
  clear r6
  have kK00 : w3.cell? ⟨w.heap.size, 0, none⟩ = some (.slice A n c) := K0.cell 0
  have kKP0 : w3.cell? ⟨w2.heap.size, 0, none⟩ = some (.slice A5 n5 c5) := KP.cell 0
  go_wp2_with fail
  refine (HDe.out _ _ _ _ AtY.out).mono ?_
  rintro e w4 ⟨A7, c7, rfl, own7, h9⟩
  clear kK00 kKP0
  replace K0 := K0.below h9 K0.lt
  replace KP := KP.below h9 KP.lt
  replace AtP := Lib.hid (AtP.out.below HG.out h9)
  replace AtY := Lib.hid (AtY.out.below HG.out h9)
  have B2 := B.trans (h9.mono B.size)
  clear B
  have B := B2
  clear B2 h9
  rw [show (L, (0 : Int)).1.length = n5 from hn5] at own7 ⊢
  have AtQ : Hid (PAt G w4 A7 n5 c7 L) := Lib.hid (PAt.own own7 (by have := HU.out.2; omega) HU.out.1 (HGs.out _ B))
  clear own7
  have KQ := Blk.new w4 24 #[.slice A7 n5 c7]
  replace K0 := K0.alloc (.cells #[.slice A7 n5 c7] 24)
  replace KP := KP.alloc (.cells #[.slice A7 n5 c7] 24)
  replace AtP := Lib.hid (AtP.out.below HG.out ((Below.refl _ w4).alloc (Nat.le_refl _) (.cells #[.slice A7 n5 c7] 24)))
  replace AtY := Lib.hid (AtY.out.below HG.out ((Below.refl _ w4).alloc (Nat.le_refl _) (.cells #[.slice A7 n5 c7] 24)))
  replace AtQ := Lib.hid (AtQ.out.below HG.out ((Below.refl _ w4).alloc (Nat.le_refl _) (.cells #[.slice A7 n5 c7] 24)))
  replace B := B.alloc B.size (.cells #[.slice A7 n5 c7] 24)
  have kK00 : (w4.alloc (.cells #[.slice A7 n5 c7] 24)).cell? ⟨w.heap.size, 0, none⟩ = some (.slice A n c) := K0.cell 0
  have kKP0 : (w4.alloc (.cells #[.slice A7 n5 c7] 24)).cell? ⟨w2.heap.size, 0, none⟩ = some (.slice A5 n5 c5) := KP.cell 0
  have kKQ0 : (w4.alloc (.cells #[.slice A7 n5 c7] 24)).cell? ⟨w4.heap.size, 0, none⟩ = some (.slice A7 n5 c7) := KQ.cell 0
  go_wp2_with fail
  refine (HSa.out _ _ _ _ _ _ _ AtP.out AtQ.out).mono ?_
  rintro e w5 ⟨rfl, h9⟩
  clear kK00 kKP0 kKQ0
  replace K0 := K0.below h9 K0.lt
  replace KP := KP.below h9 KP.lt
  replace KQ := KQ.below h9 KQ.lt
  replace AtP := Lib.hid (AtP.out.below HG.out h9)
  replace AtY := Lib.hid (AtY.out.below HG.out h9)
  replace AtQ := Lib.hid (AtQ.out.below HG.out h9)
  have B2 := B.trans (h9.mono B.size)
  clear B
  have B := B2
  clear B2
  clear h9 AtP AtQ K0 KP KQ
  have HN6 := Lib.hid hn6
  have HY := Lib.hid (fun (u : World) (h : Below w5.heap.size w5 u) => AtY.out.below HG.out h)
  have HBW := Lib.hid B
  clear AtY hn6 B hn5
  go_wp2_with fail
  go_loopw [40] (fun i wr => ∃ k : Nat, k ≤ n6 ∧ i = .int .i64 (k : Int) ∧ Below w5.heap.size w5 wr) (fun i _ => n6 - (intOf i).toNat)
  case atStart => exact ⟨0, by omega, rfl, Below.refl _ _⟩
  case round =>
    obtain ⟨k, hk, rfl, Br⟩ := hrel
    by_cases hlt : k < n6
    · have j0 : (0 : Int) ≤ (k : Int) := by omega
      have j1 : (k : Int) ≤ (c6 : Int) := by omega
      have HYk := Lib.hid (HY.out _ Br)
      have HAk : Hid (BAt G wr A6 k c6 ((bytesP L).take k)) := Lib.hid ⟨ubytes_take HYk.out.1 (by omega), by omega, by have := HYk.out.2.2.1; omega, fun x hx => HYk.out.2.2.2.1 x (List.mem_of_mem_take hx), HYk.out.2.2.2.2⟩
      have HDk := Lib.hid (HDs.out k (by have := HN6.out; omega))
      have k9 : k < 400 := by have := HYk.out.2.2.1; omega
      go_wp2_with fail
      refine (HDk.out _ _ _ _ HAk.out).mono ?_
      rintro e w6 ⟨A9, c9, rfl, own9, h9⟩
      rw [show (([], (7 : Int)) : List Nat × Int).1.length = 0 from rfl] at own9 ⊢
      have B2 := Br.trans (h9.mono Br.size)
      have BH := Lib.hid (B2.alloc B2.size (.cells #[.slice A9 0 c9] 24))
      clear own9 h9 B2 Br HYk HAk HDk
      go_wp2
      go_roundw
      case rel => exact ⟨k + 1, by omega, by go_num, BH.out⟩
      case measure => simp [intOf] <;> omega
    · obtain rfl : n6 = k := by omega
      have B : Below w.heap.size w wr := HBW.out.trans (Br.mono HBW.out.size)
      clear Br
      have AtB : Hid (BAt G wr A' m c' BS) := Lib.hid (HB0.out.below HG.out B)
      go_wp2_with fail
      rw [show (Value.slice A' 300 c') = .slice A' m c' by rw [HT.out]]
      refine (HDb.out _ _ _ _ AtB.out).mono ?_
      rintro e w9 ⟨A8, c8, rfl, own8, h9⟩
      replace AtB := Lib.hid (AtB.out.below HG.out h9)
      have B2 := B.trans (h9.mono B.size)
      clear B
      have B := B2
      clear B2 h9
      rw [show (([], e2) : List Nat × Int).1.length = 0 from rfl] at own8 ⊢
      clear own8
      have KD := Blk.new w9 24 #[.slice A8 0 c8]
      replace AtB := Lib.hid (AtB.out.below HG.out ((Below.refl _ w9).alloc (Nat.le_refl _) (.cells #[.slice A8 0 c8] 24)))
      replace B := B.alloc B.size (.cells #[.slice A8 0 c8] 24)
      have BH := Lib.hid B
      rcases HE2.out with rfl | rfl
      all_goals
        go_wp2
        go_ret
        exact ⟨rfl, BH.out⟩

set_option maxRecDepth 100000 in
set_option maxHeartbeats 16000000 in
theorem read_yes_yes_long {G : World → Prop} (HG : Hid (Steady G)) (A A' : Option Addr) (n c n' c' m : Nat) (L BS : List Nat) (w : World) (HU : Hid (U32s L ∧ L.length ≤ 1000)) (HGs : Hid (∀ u : World, Below w.heap.size w u → G u))
    (h300 : (300 : Int) < (n' : Int)) (hc3 : (300 : Int) ≤ (c' : Int)) (HT : Hid (m = 300)) (HB0 : Hid (BAt G w A' m c' BS))
    (HK : Hid (∀ u, G u → Calls Try.prog 9 #[] u (Said (.bool true) u)))
    (HSh : Hid (∀ (u : World), Below w.heap.size w u → Calls Try.prog 10 #[.agg #[.slice A n c]] u (GivesP L u)))
    (HBy : Hid (∀ x ∈ bytesP L, x < 256)) (HL4 : Hid (L.length ≤ 4))
    (HEn : Hid (∀ (A : Option Addr) (n c : Nat) (u : World), PAt G u A n c L → Calls Try.prog 24 #[.agg #[.slice A n c]] u (GivesB (bytesP L, 0) u)))
    (HDe : Hid (∀ (A : Option Addr) (n c : Nat) (u : World), BAt G u A n c (bytesP L) → Calls Try.prog 27 #[.slice A n c] u (GivesP2 (L, 0) u)))
    (HDs : Hid (∀ (i : Nat), i < L.length + 1 → ∀ (A : Option Addr) (n c : Nat) (u : World), BAt G u A n c ((bytesP L).take i) → Calls Try.prog 27 #[.slice A n c] u (GivesP2 ([], 7) u)))
    (HSa : Hid (∀ (A A' : Option Addr) (n c n' c' : Nat) (u : World), PAt G u A n c L → PAt G u A' n' c' L → Calls Try.prog 17 #[.agg #[.slice A n c], .agg #[.slice A' n' c']] u (Said (.bool true) u)))
    (Q : List Nat) (HUQ : Hid (U32s Q ∧ Q.length ≤ 1000))
    (HDb : Hid (∀ (A : Option Addr) (n c : Nat) (u : World), BAt G u A n c BS → Calls Try.prog 27 #[.slice A n c] u (GivesP2 (Q, 0) u)))
    (HEq : Hid (∀ (A : Option Addr) (n c : Nat) (u : World), PAt G u A n c Q → Calls Try.prog 24 #[.agg #[.slice A n c]] u (GivesB (BS, 0) u))) :
    Calls Try.prog 8 #[.agg #[.slice A n c], .slice A' n' c'] w (Said (.bool true) w) := by
  obtain ⟨K0, B⟩ : Blk (w.alloc (.cells #[.slice A n c] 24)) w.heap.size 24 #[.slice A n c] ∧ Below w.heap.size w (w.alloc (.cells #[.slice A n c] 24)) := ⟨Blk.new _ _ _, (Below.refl _ _).alloc (Nat.le_refl _) _⟩
  go_enter Try.func8, Try.ntmps8
  have kK00 : (w.alloc (.cells #[.slice A n c] 24)).cell? ⟨w.heap.size, 0, none⟩ = some (.slice A n c) := K0.cell 0
  go_wp2_with fail
  refine (HK.out _ (HGs.out _ B)).mono ?_
  rintro e w1 ⟨rfl, h9⟩
  clear kK00
  replace K0 := K0.below h9 K0.lt
  have B2 := B.trans (h9.mono B.size)
  clear B
  have B := B2
  clear B2
  clear h9
  have kK00 : w1.cell? ⟨w.heap.size, 0, none⟩ = some (.slice A n c) := K0.cell 0
  go_wp2_with fail
  refine (HSh.out _ B).mono ?_
  rintro e w2 ⟨A5, c5, rfl, own5, h9⟩
  clear kK00
  replace K0 := K0.below h9 K0.lt
  have B2 := B.trans (h9.mono B.size)
  clear B
  have B := B2
  clear B2 h9
  obtain ⟨n5, hn5⟩ : ∃ n5, L.length = n5 := ⟨_, rfl⟩
  rw [hn5] at own5 ⊢
  have AtP : Hid (PAt G w2 A5 n5 c5 L) := Lib.hid (PAt.own own5 (by have := HU.out.2; omega) HU.out.1 (HGs.out _ B))
  clear own5
  have KP := Blk.new w2 24 #[.slice A5 n5 c5]
  replace K0 := K0.alloc (.cells #[.slice A5 n5 c5] 24)
  replace AtP := Lib.hid (AtP.out.below HG.out ((Below.refl _ w2).alloc (Nat.le_refl _) (.cells #[.slice A5 n5 c5] 24)))
  replace B := B.alloc B.size (.cells #[.slice A5 n5 c5] 24)
  have kK00 : (w2.alloc (.cells #[.slice A5 n5 c5] 24)).cell? ⟨w.heap.size, 0, none⟩ = some (.slice A n c) := K0.cell 0
  have kKP0 : (w2.alloc (.cells #[.slice A5 n5 c5] 24)).cell? ⟨w2.heap.size, 0, none⟩ = some (.slice A5 n5 c5) := KP.cell 0
  go_wp2_with fail
  refine (HEn.out _ _ _ _ AtP.out).mono ?_
  rintro e w3 ⟨A6, c6, rfl, hc6, r6, h9⟩
  clear kK00 kKP0
  replace K0 := K0.below h9 K0.lt
  replace KP := KP.below h9 KP.lt
  replace AtP := Lib.hid (AtP.out.below HG.out h9)
  have B2 := B.trans (h9.mono B.size)
  clear B
  have B := B2
  clear B2 h9
  obtain ⟨n6, hn6⟩ : ∃ n6, L.length + 1 = n6 := ⟨_, rfl⟩
  rw [show (bytesP L, (0 : Int)).1.length = n6 from hn6] at hc6 r6 ⊢
  have AtY : Hid (BAt G w3 A6 n6 c6 (bytesP L)) := Lib.hid ⟨r6, hc6, by have := HL4.out; omega, HBy.out, HGs.out _ B⟩
  clear r6
  have kK00 : w3.cell? ⟨w.heap.size, 0, none⟩ = some (.slice A n c) := K0.cell 0
  have kKP0 : w3.cell? ⟨w2.heap.size, 0, none⟩ = some (.slice A5 n5 c5) := KP.cell 0
  go_wp2_with fail
  refine (HDe.out _ _ _ _ AtY.out).mono ?_
  rintro e w4 ⟨A7, c7, rfl, own7, h9⟩
  clear kK00 kKP0
  replace K0 := K0.below h9 K0.lt
  replace KP := KP.below h9 KP.lt
  replace AtP := Lib.hid (AtP.out.below HG.out h9)
  replace AtY := Lib.hid (AtY.out.below HG.out h9)
  have B2 := B.trans (h9.mono B.size)
  clear B
  have B := B2
  clear B2 h9
  rw [show (L, (0 : Int)).1.length = n5 from hn5] at own7 ⊢
  have AtQ : Hid (PAt G w4 A7 n5 c7 L) := Lib.hid (PAt.own own7 (by have := HU.out.2; omega) HU.out.1 (HGs.out _ B))
  clear own7
  have KQ := Blk.new w4 24 #[.slice A7 n5 c7]
  replace K0 := K0.alloc (.cells #[.slice A7 n5 c7] 24)
  replace KP := KP.alloc (.cells #[.slice A7 n5 c7] 24)
  replace AtP := Lib.hid (AtP.out.below HG.out ((Below.refl _ w4).alloc (Nat.le_refl _) (.cells #[.slice A7 n5 c7] 24)))
  replace AtY := Lib.hid (AtY.out.below HG.out ((Below.refl _ w4).alloc (Nat.le_refl _) (.cells #[.slice A7 n5 c7] 24)))
  replace AtQ := Lib.hid (AtQ.out.below HG.out ((Below.refl _ w4).alloc (Nat.le_refl _) (.cells #[.slice A7 n5 c7] 24)))
  replace B := B.alloc B.size (.cells #[.slice A7 n5 c7] 24)
  have kK00 : (w4.alloc (.cells #[.slice A7 n5 c7] 24)).cell? ⟨w.heap.size, 0, none⟩ = some (.slice A n c) := K0.cell 0
  have kKP0 : (w4.alloc (.cells #[.slice A7 n5 c7] 24)).cell? ⟨w2.heap.size, 0, none⟩ = some (.slice A5 n5 c5) := KP.cell 0
  have kKQ0 : (w4.alloc (.cells #[.slice A7 n5 c7] 24)).cell? ⟨w4.heap.size, 0, none⟩ = some (.slice A7 n5 c7) := KQ.cell 0
  go_wp2_with fail
  refine (HSa.out _ _ _ _ _ _ _ AtP.out AtQ.out).mono ?_
  rintro e w5 ⟨rfl, h9⟩
  clear kK00 kKP0 kKQ0
  replace K0 := K0.below h9 K0.lt
  replace KP := KP.below h9 KP.lt
  replace KQ := KQ.below h9 KQ.lt
  replace AtP := Lib.hid (AtP.out.below HG.out h9)
  replace AtY := Lib.hid (AtY.out.below HG.out h9)
  replace AtQ := Lib.hid (AtQ.out.below HG.out h9)
  have B2 := B.trans (h9.mono B.size)
  clear B
  have B := B2
  clear B2
  clear h9 AtP AtQ K0 KP KQ
  have HN6 := Lib.hid hn6
  have HY := Lib.hid (fun (u : World) (h : Below w5.heap.size w5 u) => AtY.out.below HG.out h)
  have HBW := Lib.hid B
  clear AtY hn6 B hn5
  go_wp2_with fail
  go_loopw [40] (fun i wr => ∃ k : Nat, k ≤ n6 ∧ i = .int .i64 (k : Int) ∧ Below w5.heap.size w5 wr) (fun i _ => n6 - (intOf i).toNat)
  case atStart => exact ⟨0, by omega, rfl, Below.refl _ _⟩
  case round =>
    obtain ⟨k, hk, rfl, Br⟩ := hrel
    by_cases hlt : k < n6
    · have j0 : (0 : Int) ≤ (k : Int) := by omega
      have j1 : (k : Int) ≤ (c6 : Int) := by omega
      have HYk := Lib.hid (HY.out _ Br)
      have HAk : Hid (BAt G wr A6 k c6 ((bytesP L).take k)) := Lib.hid ⟨ubytes_take HYk.out.1 (by omega), by omega, by have := HYk.out.2.2.1; omega, fun x hx => HYk.out.2.2.2.1 x (List.mem_of_mem_take hx), HYk.out.2.2.2.2⟩
      have HDk := Lib.hid (HDs.out k (by have := HN6.out; omega))
      have k9 : k < 400 := by have := HYk.out.2.2.1; omega
      go_wp2_with fail
      refine (HDk.out _ _ _ _ HAk.out).mono ?_
      rintro e w6 ⟨A9, c9, rfl, own9, h9⟩
      rw [show (([], (7 : Int)) : List Nat × Int).1.length = 0 from rfl] at own9 ⊢
      have B2 := Br.trans (h9.mono Br.size)
      have BH := Lib.hid (B2.alloc B2.size (.cells #[.slice A9 0 c9] 24))
      clear own9 h9 B2 Br HYk HAk HDk
      go_wp2
      go_roundw
      case rel => exact ⟨k + 1, by omega, by go_num, BH.out⟩
      case measure => simp [intOf] <;> omega
    · obtain rfl : n6 = k := by omega
      have B : Below w.heap.size w wr := HBW.out.trans (Br.mono HBW.out.size)
      clear Br
      have AtB : Hid (BAt G wr A' m c' BS) := Lib.hid (HB0.out.below HG.out B)
      go_wp2_with fail
      rw [show (Value.slice A' 300 c') = .slice A' m c' by rw [HT.out]]
      refine (HDb.out _ _ _ _ AtB.out).mono ?_
      rintro e w9 ⟨A8, c8, rfl, own8, h9⟩
      replace AtB := Lib.hid (AtB.out.below HG.out h9)
      have B2 := B.trans (h9.mono B.size)
      clear B
      have B := B2
      clear B2 h9
      obtain ⟨n8, hn8⟩ : ∃ n8, Q.length = n8 := ⟨_, rfl⟩
      rw [show (Q, (0 : Int)).1.length = n8 from hn8] at own8 ⊢
      have AtD : Hid (PAt G w9 A8 n8 c8 Q) := Lib.hid (PAt.own own8 (by have := HUQ.out.2; omega) HUQ.out.1 (HGs.out _ B))
      clear own8
      have KD := Blk.new w9 24 #[.slice A8 n8 c8]
      replace AtB := Lib.hid (AtB.out.below HG.out ((Below.refl _ w9).alloc (Nat.le_refl _) (.cells #[.slice A8 n8 c8] 24)))
      replace AtD := Lib.hid (AtD.out.below HG.out ((Below.refl _ w9).alloc (Nat.le_refl _) (.cells #[.slice A8 n8 c8] 24)))
      replace B := B.alloc B.size (.cells #[.slice A8 n8 c8] 24)
      have kKD0 : (w9.alloc (.cells #[.slice A8 n8 c8] 24)).cell? ⟨w9.heap.size, 0, none⟩ = some (.slice A8 n8 c8) := KD.cell 0
      go_wp2_with fail
      refine (HEq.out _ _ _ _ AtD.out).mono ?_
      rintro e w10 ⟨A9, c9, rfl, hc9, r9, h9⟩
      have HEqs := Lib.hid (equal_same A9 A' BS.length m c9 c' w10.heap.size w10.heap.size BS w10 r9 ((AtB.out.below HG.out h9).1))
      have BH := Lib.hid (B.trans (h9.mono B.size))
      clear h9 r9 hc9
      go_wp2_with fail
      refine HEqs.out.mono ?_
      rintro e w11 ⟨rfl, rfl⟩
      go_wp2
      go_ret
      exact ⟨rfl, BH.out⟩

/-- PoolRead, whatever the pools, the bytes -/
theorem read_walk {G : World → Prop} (hG : Steady G) (HEn : PEncodeOk G) (HDe : PDecodeOk G) (HSa : PSameOk G) (hk : ∀ u, G u → Calls Try.prog 9 #[] u (Said (.bool true) u))
    (A A' : Option Addr) (n c n' c' : Nat) (l bs : List Nat) (w : World) (hg : G w) (hR : Reads w w.heap.size 1 A n (us l)) (hnc : n ≤ c) (hU : U32s l) (hRb : Reads w w.heap.size 1 A' n' (ub bs)) (hnc' : n' ≤ c') (hby : ∀ x ∈ bs, x < 256) :
    Calls Try.prog 8 #[.agg #[.slice A n c], .slice A' n' c'] w (Said (.bool true) w) := by
  have HGs : ∀ u : World, Below w.heap.size w u → G u := fun u h => hG w u hg h
  have HSh : ∀ (u : World), Below w.heap.size w u → Calls Try.prog 10 #[.agg #[.slice A n c]] u (GivesP (l.take 12) u) := fun u h => shortP_any A n c l u ((hR.below h).more h.size) hnc
  have hU2 : U32s (l.take 12) := u32s_take hU 12
  have hlen : (l.take 12).length ≤ 1000 := by rw [List.length_take]; omega
  generalize l.take 12 = L at *
  have hbl := ubytes_len hRb
  obtain ⟨m, hm⟩ : ∃ m, m = min n' 300 := ⟨_, rfl⟩
  have hB0 : BAt G w A' m c' (bs.take 300) := ⟨by
    have := ubytes_take hRb (N := m) (by omega)
    rwa [show bs.take m = bs.take 300 by rw [hm, ← hbl]; simp; omega] at this, by omega, by omega, fun x hx => hby x (List.mem_of_mem_take hx), hg⟩
  generalize bs.take 300 = BS at *
  obtain ⟨q, hq⟩ : ∃ q, decodeP BS = q := ⟨_, rfl⟩
  obtain ⟨Q, e2⟩ := q
  have hDb : ∀ (A : Option Addr) (n c : Nat) (u : World), BAt G u A n c BS → Calls Try.prog 27 #[.slice A n c] u (GivesP2 (Q, e2) u) := fun A n c u h => by
    have := HDe A n c BS u h
    rwa [hq] at this
  have hEq0 : ∀ (h : rightP Q = true ∧ bytesP Q = BS) (A : Option Addr) (n c : Nat) (u : World), PAt G u A n c Q → Calls Try.prog 24 #[.agg #[.slice A n c]] u (GivesB (BS, 0) u) := fun hQ A n c u h => by
    have := HEn A n c Q u h
    rwa [show encR Q = (BS, 0) by unfold encR; rw [if_pos hQ.1, hQ.2]] at this
  cases hr : rightP L with
  | false =>
    have hE0 : ∀ (A : Option Addr) (n c : Nat) (u : World), PAt G u A n c L → Calls Try.prog 24 #[.agg #[.slice A n c]] u (GivesB ([], 180) u) := fun A n c u h => by
      have := HEn A n c L u h
      rwa [show encR L = ([], 180) by unfold encR; rw [if_neg (by rw [hr]; simp)]] at this
    by_cases he2 : e2 = 0
    · subst he2
      have hQ := decode_ok hq
      have hEq := hEq0 hQ
      by_cases hln : 300 < n'
      · obtain rfl : m = 300 := by omega
        exact read_no_yes_long (Lib.hid hG) A A' n c n' c' 300 L BS w (Lib.hid ⟨hU2, hlen⟩) (Lib.hid HGs) (by omega) (by omega) (Lib.hid rfl) (Lib.hid hB0) (Lib.hid hk) (Lib.hid HSh) (Lib.hid hE0) Q (Lib.hid ⟨u32s_right hQ.1, right_len hQ.1⟩) (Lib.hid hDb) (Lib.hid hEq)
      · obtain rfl : m = n' := by omega
        exact read_no_yes_short (Lib.hid hG) A A' n c m c' L BS w (Lib.hid ⟨hU2, hlen⟩) (Lib.hid HGs) (by omega) (by omega) (Lib.hid hB0) (Lib.hid hk) (Lib.hid HSh) (Lib.hid hE0) Q (Lib.hid ⟨u32s_right hQ.1, right_len hQ.1⟩) (Lib.hid hDb) (Lib.hid hEq)

    · obtain rfl := (decode_no hq he2).1
      by_cases hln : 300 < n'
      · obtain rfl : m = 300 := by omega
        exact read_no_no_long (Lib.hid hG) A A' n c n' c' 300 L BS w (Lib.hid ⟨hU2, hlen⟩) (Lib.hid HGs) (by omega) (by omega) (Lib.hid rfl) (Lib.hid hB0) (Lib.hid hk) (Lib.hid HSh) (Lib.hid hE0) _ (by simpa using he2) (Lib.hid (decode_no hq he2).2) (Lib.hid hDb)
      · obtain rfl : m = n' := by omega
        exact read_no_no_short (Lib.hid hG) A A' n c m c' L BS w (Lib.hid ⟨hU2, hlen⟩) (Lib.hid HGs) (by omega) (by omega) (Lib.hid hB0) (Lib.hid hk) (Lib.hid HSh) (Lib.hid hE0) _ (by simpa using he2) (Lib.hid (decode_no hq he2).2) (Lib.hid hDb)

  | true =>
    have hE1 : ∀ (A : Option Addr) (n c : Nat) (u : World), PAt G u A n c L → Calls Try.prog 24 #[.agg #[.slice A n c]] u (GivesB (bytesP L, 0) u) := fun A n c u h => by
      have := HEn A n c L u h
      rwa [show encR L = (bytesP L, 0) from if_pos hr] at this
    have hDe : ∀ (A : Option Addr) (n c : Nat) (u : World), BAt G u A n c (bytesP L) → Calls Try.prog 27 #[.slice A n c] u (GivesP2 (L, 0) u) := fun A n c u h => by
      have := HDe A n c _ u h
      rwa [decode_bytes hr] at this
    have hDs : ∀ (i : Nat), i < L.length + 1 → ∀ (A : Option Addr) (n c : Nat) (u : World), BAt G u A n c ((bytesP L).take i) → Calls Try.prog 27 #[.slice A n c] u (GivesP2 ([], 7) u) := fun i hi A n c u h => by
      have := HDe A n c _ u h
      rwa [decode_short hi] at this
    have h7 : ∀ (A A' : Option Addr) (n c n' c' : Nat) (u : World), PAt G u A n c L → PAt G u A' n' c' L → Calls Try.prog 17 #[.agg #[.slice A n c], .agg #[.slice A' n' c']] u (Said (.bool true) u) := fun A A' n c n' c' u x y => by
      have := HSa A A' n c n' c' L L u x y
      rwa [sameP_self] at this
    by_cases he2 : e2 = 0
    · subst he2
      have hQ := decode_ok hq
      have hEq := hEq0 hQ
      by_cases hln : 300 < n'
      · obtain rfl : m = 300 := by omega
        exact read_yes_yes_long (Lib.hid hG) A A' n c n' c' 300 L BS w (Lib.hid ⟨hU2, hlen⟩) (Lib.hid HGs) (by omega) (by omega) (Lib.hid rfl) (Lib.hid hB0) (Lib.hid hk) (Lib.hid HSh) (Lib.hid (bytes_small hr)) (Lib.hid (right_parts8 hr).2.1) (Lib.hid hE1) (Lib.hid hDe) (Lib.hid hDs) (Lib.hid h7) Q (Lib.hid ⟨u32s_right hQ.1, right_len hQ.1⟩) (Lib.hid hDb) (Lib.hid hEq)
      · obtain rfl : m = n' := by omega
        exact read_yes_yes_short (Lib.hid hG) A A' n c m c' L BS w (Lib.hid ⟨hU2, hlen⟩) (Lib.hid HGs) (by omega) (by omega) (Lib.hid hB0) (Lib.hid hk) (Lib.hid HSh) (Lib.hid (bytes_small hr)) (Lib.hid (right_parts8 hr).2.1) (Lib.hid hE1) (Lib.hid hDe) (Lib.hid hDs) (Lib.hid h7) Q (Lib.hid ⟨u32s_right hQ.1, right_len hQ.1⟩) (Lib.hid hDb) (Lib.hid hEq)

    · obtain rfl := (decode_no hq he2).1
      by_cases hln : 300 < n'
      · obtain rfl : m = 300 := by omega
        exact read_yes_no_long (Lib.hid hG) A A' n c n' c' 300 L BS w (Lib.hid ⟨hU2, hlen⟩) (Lib.hid HGs) (by omega) (by omega) (Lib.hid rfl) (Lib.hid hB0) (Lib.hid hk) (Lib.hid HSh) (Lib.hid (bytes_small hr)) (Lib.hid (right_parts8 hr).2.1) (Lib.hid hE1) (Lib.hid hDe) (Lib.hid hDs) (Lib.hid h7) _ (by simpa using he2) (Lib.hid (decode_no hq he2).2) (Lib.hid hDb)
      · obtain rfl : m = n' := by omega
        exact read_yes_no_short (Lib.hid hG) A A' n c m c' L BS w (Lib.hid ⟨hU2, hlen⟩) (Lib.hid HGs) (by omega) (by omega) (Lib.hid hB0) (Lib.hid hk) (Lib.hid HSh) (Lib.hid (bytes_small hr)) (Lib.hid (right_parts8 hr).2.1) (Lib.hid hE1) (Lib.hid hDe) (Lib.hid hDs) (Lib.hid h7) _ (by simpa using he2) (Lib.hid (decode_no hq he2).2) (Lib.hid hDb)


end Go.Proofs.Ytnckfgnhlnichaa
