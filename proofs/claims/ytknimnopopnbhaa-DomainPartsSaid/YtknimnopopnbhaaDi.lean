/-
  The contracts of the document's WithDomain, WithoutDomain, WithVcpu, WithoutVcpu. No statement is proved here.
-/
import Derived.Test.YtknimnopopnbhaaDg
namespace Go.Proofs.Ytknimnopopnbhaa
open Go.RowKit

set_option maxRecDepth 100000 in
set_option maxHeartbeats 2000000 in
theorem rwithD_any (A : Option Addr) (n c : Nat) (ds : List Dom) (B : Option Addr) (m d : Nat) (us : List Vc) (x1 x2 x3 x4 : Int) (w : World) (hG : GR w A n c ds B m d us) :
    Calls Try.prog 20 #[.agg #[.slice A n c, .slice B m d], .agg #[.int .i64 x1, .int .i64 x2, .int .i64 x3, .int .i64 x4]] w (GivesG (madeD ds (x1, x2, x3, x4) 0 8) (madeV us zeroV 0 16) w) := by
  have HM : Hid (∀ (u : World), Below w.heap.size w u → Calls Try.prog 52 #[.agg #[.slice A n c, .slice B m d], .agg #[.int .i64 x1, .int .i64 x2, .int .i64 x3, .int .i64 x4], .agg #[.int .i64 0, .int .i64 0, .int .u32 0, .int .u32 0], .int .i64 0, .int .i64 0] u (GivesG (madeD ds (x1, x2, x3, x4) 0 8) (madeV us zeroV 0 16) u)) := Lib.hid (fun u h => rmade_any A n c ds B m d us x1 x2 x3 x4 0 0 0 0 0 0 u (hG.below h))
  obtain ⟨K0, K1, K2, B0⟩ := blks3 w 25 27 25 #[.slice A n c, .slice B m d] #[.int .i64 x1, .int .i64 x2, .int .i64 x3, .int .i64 x4] #[.slice none 0 0, .slice none 0 0]
  have HK := Lib.hid (And.intro K2 B0)
  clear K0 K1 K2 B0 hG
  go_enter Try.func20, Try.ntmps20
  go_wp2_with fail
  refine (HM.out _ HK.out.2).mono ?_
  rintro e w1 ⟨A1, c1, B1, d1, rfl, o1, o2, h9⟩
  obtain ⟨N1, hN1⟩ : ∃ N1, N1 = (madeD ds (x1, x2, x3, x4) 0 8).length := ⟨_, rfl⟩
  obtain ⟨M1, hM1⟩ : ∃ M1, M1 = (madeV us zeroV 0 16).length := ⟨_, rfl⟩
  rw [← hN1] at o1 ⊢
  rw [← hM1] at o2 ⊢
  have K9 := HK.out.1.below h9 HK.out.1.lt
  have B9 := HK.out.2.trans (h9.mono HK.out.2.size)
  have k1 := K9.cell 0
  have k2 := K9.cell 1
  have f1 := K9.frozen 0
  have f2 := K9.frozen 1
  have lt := HK.out.1.lt
  have HW := Lib.hid (put2 (x := .slice A1 N1 c1) (y := .slice B1 M1 d1) K9 B9 (by omega))
  have HX := Lib.hid (And.intro (own_set (own_set o1 (g := w.heap.size + 1 + 1) (by omega) 0 (.slice A1 N1 c1)) (g := w.heap.size + 1 + 1) (by omega) 1 (.slice B1 M1 d1)) (own_set (own_set o2 (g := w.heap.size + 1 + 1) (by omega) 0 (.slice A1 N1 c1)) (g := w.heap.size + 1 + 1) (by omega) 1 (.slice B1 M1 d1)))
  have HS := Lib.hid HK.out.2.size
  have HE := Lib.hid (And.intro hN1 hM1)
  clear K9 B9 o1 o2 h9 lt hN1 hM1
  go_wp2_with fail
  exact bodyPost_ret (v := .agg #[.slice A1 N1 c1, .slice B1 M1 d1]) (results_cell_row Try.results20 _ _ _ _ _ _ _ rfl HW.out.1 Try.underlying25 rfl (by kernel_rfl)) rfl ⟨A1, c1, B1, d1, by rw [← HE.out.1, ← HE.out.2], by rw [← HE.out.1]; exact own_down HX.out.1 HS.out, by rw [← HE.out.2]; exact own_down HX.out.2 HS.out, HW.out.2⟩

set_option maxRecDepth 100000 in
set_option maxHeartbeats 2000000 in
theorem rwithoutD_any (A : Option Addr) (n c : Nat) (ds : List Dom) (B : Option Addr) (m d : Nat) (us : List Vc) (id : Int) (w : World) (hG : GR w A n c ds B m d us) :
    Calls Try.prog 21 #[.agg #[.slice A n c, .slice B m d], .int .i64 id] w (GivesG (madeD ds zeroD id 8) (madeV us zeroV 0 16) w) := by
  have HM : Hid (∀ (u : World), Below w.heap.size w u → Calls Try.prog 52 #[.agg #[.slice A n c, .slice B m d], .agg #[.int .i64 0, .int .i64 0, .int .i64 0, .int .i64 0], .agg #[.int .i64 0, .int .i64 0, .int .u32 0, .int .u32 0], .int .i64 id, .int .i64 0] u (GivesG (madeD ds zeroD id 8) (madeV us zeroV 0 16) u)) := Lib.hid (fun u h => rmade_any A n c ds B m d us 0 0 0 0 0 0 0 0 id 0 u (hG.below h))
  obtain ⟨K0, K1, B0⟩ := blks2 w 25 25 #[.slice A n c, .slice B m d] #[.slice none 0 0, .slice none 0 0]
  have HK := Lib.hid (And.intro K1 B0)
  clear K0 K1 B0 hG
  go_enter Try.func21, Try.ntmps21
  go_wp2_with fail
  refine (HM.out _ HK.out.2).mono ?_
  rintro e w1 ⟨A1, c1, B1, d1, rfl, o1, o2, h9⟩
  obtain ⟨N1, hN1⟩ : ∃ N1, N1 = (madeD ds zeroD id 8).length := ⟨_, rfl⟩
  obtain ⟨M1, hM1⟩ : ∃ M1, M1 = (madeV us zeroV 0 16).length := ⟨_, rfl⟩
  rw [← hN1] at o1 ⊢
  rw [← hM1] at o2 ⊢
  have K9 := HK.out.1.below h9 HK.out.1.lt
  have B9 := HK.out.2.trans (h9.mono HK.out.2.size)
  have k1 := K9.cell 0
  have k2 := K9.cell 1
  have f1 := K9.frozen 0
  have f2 := K9.frozen 1
  have lt := HK.out.1.lt
  have HW := Lib.hid (put2 (x := .slice A1 N1 c1) (y := .slice B1 M1 d1) K9 B9 (by omega))
  have HX := Lib.hid (And.intro (own_set (own_set o1 (g := w.heap.size + 1) (by omega) 0 (.slice A1 N1 c1)) (g := w.heap.size + 1) (by omega) 1 (.slice B1 M1 d1)) (own_set (own_set o2 (g := w.heap.size + 1) (by omega) 0 (.slice A1 N1 c1)) (g := w.heap.size + 1) (by omega) 1 (.slice B1 M1 d1)))
  have HS := Lib.hid HK.out.2.size
  have HE := Lib.hid (And.intro hN1 hM1)
  clear K9 B9 o1 o2 h9 lt hN1 hM1
  go_wp2_with fail
  exact bodyPost_ret (v := .agg #[.slice A1 N1 c1, .slice B1 M1 d1]) (results_cell_row Try.results21 _ _ _ _ _ _ _ rfl HW.out.1 Try.underlying25 rfl (by kernel_rfl)) rfl ⟨A1, c1, B1, d1, by rw [← HE.out.1, ← HE.out.2], by rw [← HE.out.1]; exact own_down HX.out.1 HS.out, by rw [← HE.out.2]; exact own_down HX.out.2 HS.out, HW.out.2⟩

set_option maxRecDepth 100000 in
set_option maxHeartbeats 2000000 in
theorem rwithV_any (A : Option Addr) (n c : Nat) (ds : List Dom) (B : Option Addr) (m d : Nat) (us : List Vc) (y1 y2 : Int) (y3 y4 : Nat) (w : World) (hG : GR w A n c ds B m d us) :
    Calls Try.prog 28 #[.agg #[.slice A n c, .slice B m d], .agg #[.int .i64 y1, .int .i64 y2, .int .u32 (y3 : Int), .int .u32 (y4 : Int)]] w (GivesG (madeD ds zeroD 0 8) (madeV us (y1, y2, y3, y4) 0 16) w) := by
  have HM : Hid (∀ (u : World), Below w.heap.size w u → Calls Try.prog 52 #[.agg #[.slice A n c, .slice B m d], .agg #[.int .i64 0, .int .i64 0, .int .i64 0, .int .i64 0], .agg #[.int .i64 y1, .int .i64 y2, .int .u32 (y3 : Int), .int .u32 (y4 : Int)], .int .i64 0, .int .i64 0] u (GivesG (madeD ds zeroD 0 8) (madeV us (y1, y2, y3, y4) 0 16) u)) := Lib.hid (fun u h => rmade_any A n c ds B m d us 0 0 0 0 y1 y2 y3 y4 0 0 u (hG.below h))
  obtain ⟨K0, K1, K2, B0⟩ := blks3 w 25 50 25 #[.slice A n c, .slice B m d] #[.int .i64 y1, .int .i64 y2, .int .u32 (y3 : Int), .int .u32 (y4 : Int)] #[.slice none 0 0, .slice none 0 0]
  have HK := Lib.hid (And.intro K2 B0)
  clear K0 K1 K2 B0 hG
  go_enter Try.func28, Try.ntmps28
  go_wp2_with fail
  refine (HM.out _ HK.out.2).mono ?_
  rintro e w1 ⟨A1, c1, B1, d1, rfl, o1, o2, h9⟩
  obtain ⟨N1, hN1⟩ : ∃ N1, N1 = (madeD ds zeroD 0 8).length := ⟨_, rfl⟩
  obtain ⟨M1, hM1⟩ : ∃ M1, M1 = (madeV us (y1, y2, y3, y4) 0 16).length := ⟨_, rfl⟩
  rw [← hN1] at o1 ⊢
  rw [← hM1] at o2 ⊢
  have K9 := HK.out.1.below h9 HK.out.1.lt
  have B9 := HK.out.2.trans (h9.mono HK.out.2.size)
  have k1 := K9.cell 0
  have k2 := K9.cell 1
  have f1 := K9.frozen 0
  have f2 := K9.frozen 1
  have lt := HK.out.1.lt
  have HW := Lib.hid (put2 (x := .slice A1 N1 c1) (y := .slice B1 M1 d1) K9 B9 (by omega))
  have HX := Lib.hid (And.intro (own_set (own_set o1 (g := w.heap.size + 1 + 1) (by omega) 0 (.slice A1 N1 c1)) (g := w.heap.size + 1 + 1) (by omega) 1 (.slice B1 M1 d1)) (own_set (own_set o2 (g := w.heap.size + 1 + 1) (by omega) 0 (.slice A1 N1 c1)) (g := w.heap.size + 1 + 1) (by omega) 1 (.slice B1 M1 d1)))
  have HS := Lib.hid HK.out.2.size
  have HE := Lib.hid (And.intro hN1 hM1)
  clear K9 B9 o1 o2 h9 lt hN1 hM1
  go_wp2_with fail
  exact bodyPost_ret (v := .agg #[.slice A1 N1 c1, .slice B1 M1 d1]) (results_cell_row Try.results28 _ _ _ _ _ _ _ rfl HW.out.1 Try.underlying25 rfl (by kernel_rfl)) rfl ⟨A1, c1, B1, d1, by rw [← HE.out.1, ← HE.out.2], by rw [← HE.out.1]; exact own_down HX.out.1 HS.out, by rw [← HE.out.2]; exact own_down HX.out.2 HS.out, HW.out.2⟩

set_option maxRecDepth 100000 in
set_option maxHeartbeats 2000000 in
theorem rwithoutV_any (A : Option Addr) (n c : Nat) (ds : List Dom) (B : Option Addr) (m d : Nat) (us : List Vc) (id : Int) (w : World) (hG : GR w A n c ds B m d us) :
    Calls Try.prog 29 #[.agg #[.slice A n c, .slice B m d], .int .i64 id] w (GivesG (madeD ds zeroD 0 8) (madeV us zeroV id 16) w) := by
  have HM : Hid (∀ (u : World), Below w.heap.size w u → Calls Try.prog 52 #[.agg #[.slice A n c, .slice B m d], .agg #[.int .i64 0, .int .i64 0, .int .i64 0, .int .i64 0], .agg #[.int .i64 0, .int .i64 0, .int .u32 0, .int .u32 0], .int .i64 0, .int .i64 id] u (GivesG (madeD ds zeroD 0 8) (madeV us zeroV id 16) u)) := Lib.hid (fun u h => rmade_any A n c ds B m d us 0 0 0 0 0 0 0 0 0 id u (hG.below h))
  obtain ⟨K0, K1, B0⟩ := blks2 w 25 25 #[.slice A n c, .slice B m d] #[.slice none 0 0, .slice none 0 0]
  have HK := Lib.hid (And.intro K1 B0)
  clear K0 K1 B0 hG
  go_enter Try.func29, Try.ntmps29
  go_wp2_with fail
  refine (HM.out _ HK.out.2).mono ?_
  rintro e w1 ⟨A1, c1, B1, d1, rfl, o1, o2, h9⟩
  obtain ⟨N1, hN1⟩ : ∃ N1, N1 = (madeD ds zeroD 0 8).length := ⟨_, rfl⟩
  obtain ⟨M1, hM1⟩ : ∃ M1, M1 = (madeV us zeroV id 16).length := ⟨_, rfl⟩
  rw [← hN1] at o1 ⊢
  rw [← hM1] at o2 ⊢
  have K9 := HK.out.1.below h9 HK.out.1.lt
  have B9 := HK.out.2.trans (h9.mono HK.out.2.size)
  have k1 := K9.cell 0
  have k2 := K9.cell 1
  have f1 := K9.frozen 0
  have f2 := K9.frozen 1
  have lt := HK.out.1.lt
  have HW := Lib.hid (put2 (x := .slice A1 N1 c1) (y := .slice B1 M1 d1) K9 B9 (by omega))
  have HX := Lib.hid (And.intro (own_set (own_set o1 (g := w.heap.size + 1) (by omega) 0 (.slice A1 N1 c1)) (g := w.heap.size + 1) (by omega) 1 (.slice B1 M1 d1)) (own_set (own_set o2 (g := w.heap.size + 1) (by omega) 0 (.slice A1 N1 c1)) (g := w.heap.size + 1) (by omega) 1 (.slice B1 M1 d1)))
  have HS := Lib.hid HK.out.2.size
  have HE := Lib.hid (And.intro hN1 hM1)
  clear K9 B9 o1 o2 h9 lt hN1 hM1
  go_wp2_with fail
  exact bodyPost_ret (v := .agg #[.slice A1 N1 c1, .slice B1 M1 d1]) (results_cell_row Try.results29 _ _ _ _ _ _ _ rfl HW.out.1 Try.underlying25 rfl (by kernel_rfl)) rfl ⟨A1, c1, B1, d1, by rw [← HE.out.1, ← HE.out.2], by rw [← HE.out.1]; exact own_down HX.out.1 HS.out, by rw [← HE.out.2]; exact own_down HX.out.2 HS.out, HW.out.2⟩

end Go.Proofs.Ytknimnopopnbhaa
