/-
  The contracts of the document's Domain and Vcpu. No statement is proved here.
-/
import Derived.Test.YtknimnopopnbhaaDb
import Derived.Deep.CutBlock
import Derived.Deep.RegionHeld3
namespace Go.Proofs.Ytknimnopopnbhaa
open Go.RowKit

abbrev agD (d : Dom) : Array Value := #[.int .i64 d.1, .int .i64 d.2.1, .int .i64 d.2.2.1, .int .i64 d.2.2.2]
abbrev agV (v : Vc) : Array Value := #[.int .i64 v.1, .int .i64 v.2.1, .int .u32 (v.2.2.1 : Int), .int .u32 (v.2.2.2 : Int)]
theorem put4 {w w1 : World} {g b : Nat} {t : TypeId} {p q r s x y z u : Value} (K : Blk w1 g t #[p, q, r, s]) (B : Below b w w1) (hg : b ≤ g) :
    Blk ((((w1.setCell ⟨g, 0, none⟩ x).setCell ⟨g, 1, none⟩ y).setCell ⟨g, 2, none⟩ z).setCell ⟨g, 3, none⟩ u) g t #[x, y, z, u] ∧ Below b w ((((w1.setCell ⟨g, 0, none⟩ x).setCell ⟨g, 1, none⟩ y).setCell ⟨g, 2, none⟩ z).setCell ⟨g, 3, none⟩ u) := by
  refine ⟨?_, (((B.setCell (p := ⟨g, 0, none⟩) hg x).setCell (p := ⟨g, 1, none⟩) hg y).setCell (p := ⟨g, 2, none⟩) hg z).setCell (p := ⟨g, 3, none⟩) hg u⟩
  have := (((K.set_ 0 x).set_ 1 y).set_ 2 z).set_ 3 u
  simpa using this
theorem domF_at {ds : List Dom} {k : Nat} {x : Dom} {id : Int} (hx : ds[k]? = some x) : domF (ds.drop k) id = if x.1 = id then some x else domF (ds.drop (k + 1)) id := by
  have hk := (List.getElem?_eq_some_iff.1 hx).1
  have e : ds.drop k = x :: ds.drop (k + 1) := by
    rw [List.drop_eq_getElem_cons hk]
    congr 1
    exact (List.getElem?_eq_some_iff.1 hx).2
  rw [e]
  unfold domF
  rw [List.find?_cons]
  by_cases h : x.1 = id
  · rw [if_pos h, show (x.1 == id) = true from by simpa using h]
  · rw [if_neg h, show (x.1 == id) = false from by simpa using h]
theorem vcF_at {us : List Vc} {k : Nat} {x : Vc} {id : Int} (hx : us[k]? = some x) : vcF (us.drop k) id = if x.1 = id then some x else vcF (us.drop (k + 1)) id := by
  have hk := (List.getElem?_eq_some_iff.1 hx).1
  have e : us.drop k = x :: us.drop (k + 1) := by
    rw [List.drop_eq_getElem_cons hk]
    congr 1
    exact (List.getElem?_eq_some_iff.1 hx).2
  rw [e]
  unfold vcF
  rw [List.find?_cons]
  by_cases h : x.1 = id
  · rw [if_pos h, show (x.1 == id) = true from by simpa using h]
  · rw [if_neg h, show (x.1 == id) = false from by simpa using h]
theorem domV_some {ds : List Dom} {id : Int} {x : Dom} (h : domF ds id = some x) : domV ds id = (x, true) := by unfold domV; rw [h]
theorem domV_none {ds : List Dom} {id : Int} (h : domF ds id = none) : domV ds id = (zeroD, false) := by unfold domV; rw [h]
theorem vcV_some {us : List Vc} {id : Int} {x : Vc} (h : vcF us id = some x) : vcV us id = (x, true) := by unfold vcV; rw [h]
theorem vcV_none {us : List Vc} {id : Int} (h : vcF us id = none) : vcV us id = (zeroV, false) := by unfold vcV; rw [h]

set_option maxRecDepth 100000 in
set_option maxHeartbeats 4000000 in
theorem rdom_any (A : Option Addr) (n c : Nat) (ds : List Dom) (B : Option Addr) (m d : Nat) (us : List Vc) (id : Int) (w : World) (hG : GR w A n c ds B m d us) :
    Calls Try.prog 15 #[.agg #[.slice A n c, .slice B m d], .int .i64 id] w (Said (.tuple #[.agg (agD (domV ds id).1), .bool (domV ds id).2]) w) := by
  have HL := Lib.hid hG.len.1
  have HR := Lib.hid hG.doms
  have n9 : n ≤ 1000 := hG.n9
  obtain ⟨K1, K2, B0⟩ := blks2 w 25 27 #[.slice A n c, .slice B m d] #[.int .i64 0, .int .i64 0, .int .i64 0, .int .i64 0]
  have HK := Lib.hid (And.intro K1 (And.intro K2 B0))
  clear hG K1 K2 B0
  go_enter Try.func15, Try.ntmps15
  go_upto_region 1 with fail
  generalize (w.alloc (.cells #[.slice A n c, .slice B m d] 25)).alloc (.cells #[.int .i64 0, .int .i64 0, .int .i64 0, .int .i64 0] 27) = W at HK ⊢
  have k1 := HK.out.1.cell 0
  have k2 := HK.out.2.1.cell 0
  have k3 := HK.out.2.1.cell 1
  have k4 := HK.out.2.1.cell 2
  have k5 := HK.out.2.1.cell 3
  have f2 := HK.out.2.1.frozen 0
  have f3 := HK.out.2.1.frozen 1
  have f4 := HK.out.2.1.frozen 2
  have f5 := HK.out.2.1.frozen 3
  go_wp2_with fail
  go_loop [6] (fun i => ∃ k : Nat, k ≤ n ∧ i = .int .i64 (k : Int) ∧ Hid (domF (ds.drop k) id = domF ds id)) (fun i => n - (intOf i).toNat)
  case atStart => exact ⟨0, by omega, rfl, Lib.hid rfl⟩
  case round =>
    obtain ⟨k, hk, rfl, HA⟩ := hrel
    by_cases hlt : k < n
    · obtain ⟨⟨a, b, e, g⟩, hx⟩ := elem_at (l := ds) (k := k) (by rw [HL.out]; exact hlt)
      obtain ⟨ad, rfl, hb, c0, c1, c2, c3⟩ := dom_at (HR.out.below HK.out.2.2) hx
      have hF := domF_at (id := id) hx
      have j0 : (0 : Int) ≤ (k : Int) := by omega
      have j1 : (k : Int) < (n : Int) := by omega
      clear hx
      by_cases h : a = id
      · have HV : Hid (domV ds id = ((a, b, e, g), true)) := Lib.hid (domV_some (by rw [← HA.out, hF, if_pos h]))
        have e1 : (a == id) = true := by simp [h]
        clear hF h
        have HKF := Lib.hid (put4 (x := .int .i64 a) (y := .int .i64 b) (z := .int .i64 e) (u := .int .i64 g) HK.out.2.1 HK.out.2.2 (by omega))
        go_wp2_with fail
        exact bodyPost_ret (v := .tuple #[.agg #[.int .i64 a, .int .i64 b, .int .i64 e, .int .i64 g], .bool true]) (results_row2 Try.results15 _ _ _ _ _ _ rfl HKF.out.1 Try.underlying27 rfl (by kernel_rfl)) rfl ⟨by rw [HV.out], HKF.out.2⟩
      · have HS : Hid (domF (ds.drop (k + 1)) id = domF ds id) := Lib.hid (by rw [← HA.out, hF, if_neg h])
        have e1 : (a == id) = false := by simp [h]
        clear hF h c1 c2 c3
        go_wp2
        go_round
        case rel => exact ⟨k + 1, by omega, by go_num, HS⟩
        case measure => simp [intOf] <;> omega
    · obtain rfl : n = k := by omega
      have HV : Hid (domV ds id = (zeroD, false)) := Lib.hid (domV_none (by rw [← HA.out, ← HL.out, List.drop_length]; rfl))
      have HKF := Lib.hid (put4 (x := .int .i64 0) (y := .int .i64 0) (z := .int .i64 0) (u := .int .i64 0) HK.out.2.1 HK.out.2.2 (by omega))
      go_wp2_with fail
      exact bodyPost_ret (v := .tuple #[.agg #[.int .i64 0, .int .i64 0, .int .i64 0, .int .i64 0], .bool false]) (results_row2 Try.results15 _ _ _ _ _ _ rfl HKF.out.1 Try.underlying27 rfl (by kernel_rfl)) rfl ⟨by rw [HV.out]; rfl, HKF.out.2⟩

set_option maxRecDepth 100000 in
set_option maxHeartbeats 4000000 in
theorem rvc_any (A : Option Addr) (n c : Nat) (ds : List Dom) (B : Option Addr) (m d : Nat) (us : List Vc) (id : Int) (w : World) (hG : GR w A n c ds B m d us) :
    Calls Try.prog 26 #[.agg #[.slice A n c, .slice B m d], .int .i64 id] w (Said (.tuple #[.agg (agV (vcV us id).1), .bool (vcV us id).2]) w) := by
  have HL := Lib.hid hG.len.2
  have HR := Lib.hid hG.vcs
  have n9 : m ≤ 1000 := hG.m9
  obtain ⟨K1, K2, B0⟩ := blks2 w 25 50 #[.slice A n c, .slice B m d] #[.int .i64 0, .int .i64 0, .int .u32 0, .int .u32 0]
  have HK := Lib.hid (And.intro K1 (And.intro K2 B0))
  clear hG K1 K2 B0
  go_enter Try.func26, Try.ntmps26
  go_upto_region 1 with fail
  generalize (w.alloc (.cells #[.slice A n c, .slice B m d] 25)).alloc (.cells #[.int .i64 0, .int .i64 0, .int .u32 0, .int .u32 0] 50) = W at HK ⊢
  have k1 := HK.out.1.cell 1
  have k2 := HK.out.2.1.cell 0
  have k3 := HK.out.2.1.cell 1
  have k4 := HK.out.2.1.cell 2
  have k5 := HK.out.2.1.cell 3
  have f2 := HK.out.2.1.frozen 0
  have f3 := HK.out.2.1.frozen 1
  have f4 := HK.out.2.1.frozen 2
  have f5 := HK.out.2.1.frozen 3
  go_wp2_with fail
  go_loop [6] (fun i => ∃ k : Nat, k ≤ m ∧ i = .int .i64 (k : Int) ∧ Hid (vcF (us.drop k) id = vcF us id)) (fun i => m - (intOf i).toNat)
  case atStart => exact ⟨0, by omega, rfl, Lib.hid rfl⟩
  case round =>
    obtain ⟨k, hk, rfl, HA⟩ := hrel
    by_cases hlt : k < m
    · obtain ⟨⟨a, b, h, s⟩, hx⟩ := elem_at (l := us) (k := k) (by rw [HL.out]; exact hlt)
      obtain ⟨ad, rfl, hb, c0, c1, c2, c3⟩ := vc_at (HR.out.below HK.out.2.2) hx
      have hF := vcF_at (id := id) hx
      have j0 : (0 : Int) ≤ (k : Int) := by omega
      have j1 : (k : Int) < (m : Int) := by omega
      clear hx
      by_cases hq : a = id
      · have HV : Hid (vcV us id = ((a, b, h, s), true)) := Lib.hid (vcV_some (by rw [← HA.out, hF, if_pos hq]))
        have e1 : (a == id) = true := by simp [hq]
        clear hF hq
        have HKF := Lib.hid (put4 (x := .int .i64 a) (y := .int .i64 b) (z := .int .u32 (h : Int)) (u := .int .u32 (s : Int)) HK.out.2.1 HK.out.2.2 (by omega))
        go_wp2_with fail
        exact bodyPost_ret (v := .tuple #[.agg #[.int .i64 a, .int .i64 b, .int .u32 (h : Int), .int .u32 (s : Int)], .bool true]) (results_row2 Try.results26 _ _ _ _ _ _ rfl HKF.out.1 Try.underlying50 rfl (by kernel_rfl)) rfl ⟨by rw [HV.out], HKF.out.2⟩
      · have HS : Hid (vcF (us.drop (k + 1)) id = vcF us id) := Lib.hid (by rw [← HA.out, hF, if_neg hq])
        have e1 : (a == id) = false := by simp [hq]
        clear hF hq c1 c2 c3
        go_wp2
        go_round
        case rel => exact ⟨k + 1, by omega, by go_num, HS⟩
        case measure => simp [intOf] <;> omega
    · obtain rfl : m = k := by omega
      have HV : Hid (vcV us id = (zeroV, false)) := Lib.hid (vcV_none (by rw [← HA.out, ← HL.out, List.drop_length]; rfl))
      have HKF := Lib.hid (put4 (x := .int .i64 0) (y := .int .i64 0) (z := .int .u32 0) (u := .int .u32 0) HK.out.2.1 HK.out.2.2 (by omega))
      go_wp2_with fail
      exact bodyPost_ret (v := .tuple #[.agg #[.int .i64 0, .int .i64 0, .int .u32 0, .int .u32 0], .bool false]) (results_row2 Try.results26 _ _ _ _ _ _ rfl HKF.out.1 Try.underlying50 rfl (by kernel_rfl)) rfl ⟨by rw [HV.out]; rfl, HKF.out.2⟩

end Go.Proofs.Ytknimnopopnbhaa
