/-
  The landed domain: among, Domain, Vcpu, owner, Same (with the library's Equal). No statement is proved here.
-/
import Derived.Test.YtknimnopopnbhaaEc
namespace Go.Proofs.Ytknimnopopnbhaa
open Go.RowKit

/-- the place of a row, or why there is none -/
def amV (r k : Bool) (p : Nat) : Int × Int := if r = true then (if k = true then ((p : Int), 0) else (0, 4)) else (0, 190)
theorem am_ff (k : Bool) (p : Nat) : amV false k p = (0, 190) := rfl
theorem am_tf (p : Nat) : amV true false p = (0, 4) := rfl
theorem am_tt (p : Nat) : amV true true p = ((p : Int), 0) := rfl
/-- what the landed calls tell of a row -/
def domQ (ds : List Dom) (us : List Vc) (id : Int) : Dom × Bool := if rightG ds us = true then domV ds id else (zeroD, false)
def vcQ (ds : List Dom) (us : List Vc) (id : Int) : Vc × Bool := if rightG ds us = true then vcV us id else (zeroV, false)

set_option maxRecDepth 100000 in
set_option maxHeartbeats 4000000 in
theorem damong_any (A : Option Addr) (n c : Nat) (ds : List Dom) (B : Option Addr) (m d : Nat) (us : List Vc) (id : Int) (w : World) (hG : GR w A n c ds B m d us) :
    Calls Try.prog 48 #[.agg #[.slice A n c, .slice B m d], .func (.func 43) #[] #[], .int .i64 id] w
      (Said (.tuple #[.int .i64 (amV (rightG ds us) (kf ds id).isSome (low ds id)).1, .int .i64 (amV (rightG ds us) (kf ds id).isSome (low ds id)).2]) w) := by
  have HK := Lib.hid (box1 w 25 #[.slice A n c, .slice B m d])
  have HC := Lib.hid (fun (u : World) (h : Below w.heap.size w u) => gcheck_any A n c ds B m d us u (hG.below h))
  have HA := Lib.hid (fun (u : World) (h : Below w.heap.size w u) (hR : Rise ds) => dat_any A n c ds B m d us id u (hG.below h) hR)
  have k1 := HK.out.1.cell 0
  have k2 := HK.out.1.cell 1
  obtain ⟨r, hr⟩ : ∃ r, rightG ds us = r := ⟨_, rfl⟩
  obtain ⟨k, hk⟩ : ∃ k, (kf ds id).isSome = k := ⟨_, rfl⟩
  obtain ⟨p, hp⟩ : ∃ p, low ds id = p := ⟨_, rfl⟩
  rw [hr, hk, hp]
  clear hG
  cases r with
  | false =>
    rw [show chkG ds us = 190 from if_neg (by rw [hr]; simp)] at HC
    clear hr hk hp HA
    go_enter Try.func48, Try.ntmps48
    go_wp2_with fail
    refine (HC.out _ HK.out.2).mono ?_
    rintro e w1 ⟨rfl, h9⟩
    have B1 := HK.out.2.trans (h9.mono HK.out.2.size)
    clear h9 k1 k2
    go_wp2
    go_ret2
    exact ⟨rfl, B1⟩
  | true =>
    rw [show chkG ds us = 0 from if_pos hr] at HC
    have HA1 := Lib.hid (fun (u : World) (h : Below w.heap.size w u) => HA.out u h (rightG_iff.1 hr).rd)
    rw [hk, hp] at HA1
    clear hr hk hp HA
    cases k with
    | false =>
      go_enter Try.func48, Try.ntmps48
      go_wp2_with fail
      refine (HC.out _ HK.out.2).mono ?_
      rintro e w1 ⟨rfl, h9⟩
      have B1 := HK.out.2.trans (h9.mono HK.out.2.size)
      have K1 := HK.out.1.below h9 HK.out.1.lt
      have k3 := K1.cell 0
      have k4 := K1.cell 1
      clear h9 k1 k2
      go_wp2_with fail
      refine (HA1.out _ B1).mono ?_
      rintro e w2 ⟨rfl, h9⟩
      have B2 := B1.trans (h9.mono B1.size)
      clear h9 k3 k4
      go_wp2
      go_ret2
      exact ⟨rfl, B2⟩
    | true =>
      go_enter Try.func48, Try.ntmps48
      go_wp2_with fail
      refine (HC.out _ HK.out.2).mono ?_
      rintro e w1 ⟨rfl, h9⟩
      have B1 := HK.out.2.trans (h9.mono HK.out.2.size)
      have K1 := HK.out.1.below h9 HK.out.1.lt
      have k3 := K1.cell 0
      have k4 := K1.cell 1
      clear h9 k1 k2
      go_wp2_with fail
      refine (HA1.out _ B1).mono ?_
      rintro e w2 ⟨rfl, h9⟩
      have B2 := B1.trans (h9.mono B1.size)
      clear h9 k3 k4
      go_wp2
      go_ret2
      exact ⟨rfl, B2⟩

set_option maxRecDepth 100000 in
set_option maxHeartbeats 4000000 in
theorem dtell_any (A : Option Addr) (n c : Nat) (ds : List Dom) (B : Option Addr) (m d : Nat) (us : List Vc) (id : Int) (w : World) (hG : GR w A n c ds B m d us) :
    Calls Try.prog 32 #[.agg #[.slice A n c, .slice B m d], .int .i64 id] w (Said (.tuple #[.agg (agD (domQ ds us id).1), .bool (domQ ds us id).2]) w) := by
  have HA := Lib.hid (fun (u : World) (h : Below w.heap.size w u) => damong_any A n c ds B m d us id u (hG.below h))
  obtain ⟨J1, J2, J0⟩ := blks2 w 25 27 #[.slice A n c, .slice B m d] #[.int .i64 0, .int .i64 0, .int .i64 0, .int .i64 0]
  have HK := Lib.hid (And.intro J1 (And.intro J2 J0))
  have HG := Lib.hid hG
  have k1 := J1.cell 0
  have k2 := J1.cell 1
  clear J1 J2 J0 hG
  obtain ⟨r, hr⟩ : ∃ r, rightG ds us = r := ⟨_, rfl⟩
  obtain ⟨k, hk⟩ : ∃ k, (kf ds id).isSome = k := ⟨_, rfl⟩
  obtain ⟨p, hp⟩ : ∃ p, low ds id = p := ⟨_, rfl⟩
  rw [hr, hk, hp] at HA
  cases r with
  | false =>
    have HV : Hid (domQ ds us id = (zeroD, false)) := Lib.hid (if_neg (by rw [hr]; simp))
    rw [am_ff] at HA
    clear hr hk hp
    go_enter Try.func32, Try.ntmps32
    go_wp2_with fail
    refine (HA.out _ HK.out.2.2).mono ?_
    rintro e w1 ⟨rfl, h9⟩
    have B1 := HK.out.2.2.trans (h9.mono HK.out.2.2.size)
    have K1 := HK.out.2.1.below h9 HK.out.2.1.lt
    have f0 := K1.frozen 0
    have f1 := K1.frozen 1
    have f2 := K1.frozen 2
    have f3 := K1.frozen 3
    have q0 := K1.cell 0
    have q1 := K1.cell 1
    have q2 := K1.cell 2
    have q3 := K1.cell 3
    have HKF := Lib.hid (put4 (x := .int .i64 0) (y := .int .i64 0) (z := .int .i64 0) (u := .int .i64 0) K1 B1 (by omega))
    clear h9 k1 k2 K1 B1
    go_wp2_with fail
    exact bodyPost_ret (v := .tuple #[.agg #[.int .i64 0, .int .i64 0, .int .i64 0, .int .i64 0], .bool false]) (results_row2 Try.results32 _ _ _ _ _ _ rfl HKF.out.1 Try.underlying27 rfl (by kernel_rfl)) rfl ⟨by rw [HV.out]; rfl, HKF.out.2⟩
  | true =>
    cases k with
    | false =>
      have HV : Hid (domQ ds us id = (zeroD, false)) := Lib.hid ((if_pos hr).trans (domV_none (kf_isnt hk)))
      rw [am_tf] at HA
      clear hr hk hp
      go_enter Try.func32, Try.ntmps32
      go_wp2_with fail
      refine (HA.out _ HK.out.2.2).mono ?_
      rintro e w1 ⟨rfl, h9⟩
      have B1 := HK.out.2.2.trans (h9.mono HK.out.2.2.size)
      have K1 := HK.out.2.1.below h9 HK.out.2.1.lt
      have f0 := K1.frozen 0
      have f1 := K1.frozen 1
      have f2 := K1.frozen 2
      have f3 := K1.frozen 3
      have q0 := K1.cell 0
      have q1 := K1.cell 1
      have q2 := K1.cell 2
      have q3 := K1.cell 3
      have HKF := Lib.hid (put4 (x := .int .i64 0) (y := .int .i64 0) (z := .int .i64 0) (u := .int .i64 0) K1 B1 (by omega))
      clear h9 k1 k2 K1 B1
      go_wp2_with fail
      exact bodyPost_ret (v := .tuple #[.agg #[.int .i64 0, .int .i64 0, .int .i64 0, .int .i64 0], .bool false]) (results_row2 Try.results32 _ _ _ _ _ _ rfl HKF.out.1 Try.underlying27 rfl (by kernel_rfl)) rfl ⟨by rw [HV.out]; rfl, HKF.out.2⟩
    | true =>
      obtain ⟨⟨y1, y2, y3, y4⟩, hx⟩ := kf_is hk
      have HV : Hid (domQ ds us id = ((y1, y2, y3, y4), true)) := Lib.hid ((if_pos hr).trans (domV_some hx))
      have hat := low_at (rightG_iff.1 hr).rd hx
      rw [hp] at hat
      have hpn : p < n := by have := (List.getElem?_eq_some_iff.1 hat).1; have := HG.out.len; omega
      have HAt := Lib.hid hat
      have j0 : (0 : Int) ≤ (p : Int) := by omega
      have j1 : (p : Int) < (n : Int) := by omega
      obtain ⟨ad, hA2, _⟩ := dom_at HG.out.doms hat
      subst hA2
      rw [am_tt] at HA
      clear hr hk hp hx hat hpn
      go_enter Try.func32, Try.ntmps32
      go_wp2_with fail
      refine (HA.out _ HK.out.2.2).mono ?_
      rintro e w1 ⟨rfl, h9⟩
      have B1 := HK.out.2.2.trans (h9.mono HK.out.2.2.size)
      have K1 := HK.out.2.1.below h9 HK.out.2.1.lt
      have K0 := HK.out.1.below h9 HK.out.1.lt
      have g0 := K0.cell 0
      have g1 := K0.cell 1
      have f0 := K1.frozen 0
      have f1 := K1.frozen 1
      have f2 := K1.frozen 2
      have f3 := K1.frozen 3
      have q0 := K1.cell 0
      have q1 := K1.cell 1
      have q2 := K1.cell 2
      have q3 := K1.cell 3
      obtain ⟨ad', e', hb, c0, c1, c2, c3⟩ := dom_at (HG.out.doms.below B1) HAt.out
      injection e' with e'
      subst e'
      have HKF := Lib.hid (put4 (x := .int .i64 y1) (y := .int .i64 y2) (z := .int .i64 y3) (u := .int .i64 y4) K1 B1 (by omega))
      clear h9 k1 k2 K1 B1 K0
      go_wp2_with fail
      exact bodyPost_ret (v := .tuple #[.agg #[.int .i64 y1, .int .i64 y2, .int .i64 y3, .int .i64 y4], .bool true]) (results_row2 Try.results32 _ _ _ _ _ _ rfl HKF.out.1 Try.underlying27 rfl (by kernel_rfl)) rfl ⟨by rw [HV.out], HKF.out.2⟩

set_option maxRecDepth 100000 in
set_option maxHeartbeats 4000000 in
theorem vamong_any (A : Option Addr) (n c : Nat) (ds : List Dom) (B : Option Addr) (m d : Nat) (us : List Vc) (id : Int) (w : World) (hG : GR w A n c ds B m d us) :
    Calls Try.prog 48 #[.agg #[.slice A n c, .slice B m d], .func (.func 58) #[] #[], .int .i64 id] w
      (Said (.tuple #[.int .i64 (amV (rightG ds us) (kf us id).isSome (low us id)).1, .int .i64 (amV (rightG ds us) (kf us id).isSome (low us id)).2]) w) := by
  have HK := Lib.hid (box1 w 25 #[.slice A n c, .slice B m d])
  have HC := Lib.hid (fun (u : World) (h : Below w.heap.size w u) => gcheck_any A n c ds B m d us u (hG.below h))
  have HA := Lib.hid (fun (u : World) (h : Below w.heap.size w u) (hR : Rise us) => vat_any A n c ds B m d us id u (hG.below h) hR)
  have k1 := HK.out.1.cell 0
  have k2 := HK.out.1.cell 1
  obtain ⟨r, hr⟩ : ∃ r, rightG ds us = r := ⟨_, rfl⟩
  obtain ⟨k, hk⟩ : ∃ k, (kf us id).isSome = k := ⟨_, rfl⟩
  obtain ⟨p, hp⟩ : ∃ p, low us id = p := ⟨_, rfl⟩
  rw [hr, hk, hp]
  clear hG
  cases r with
  | false =>
    rw [show chkG ds us = 190 from if_neg (by rw [hr]; simp)] at HC
    clear hr hk hp HA
    go_enter Try.func48, Try.ntmps48
    go_wp2_with fail
    refine (HC.out _ HK.out.2).mono ?_
    rintro e w1 ⟨rfl, h9⟩
    have B1 := HK.out.2.trans (h9.mono HK.out.2.size)
    clear h9 k1 k2
    go_wp2
    go_ret2
    exact ⟨rfl, B1⟩
  | true =>
    rw [show chkG ds us = 0 from if_pos hr] at HC
    have HA1 := Lib.hid (fun (u : World) (h : Below w.heap.size w u) => HA.out u h (rightG_iff.1 hr).rv)
    rw [hk, hp] at HA1
    clear hr hk hp HA
    cases k with
    | false =>
      go_enter Try.func48, Try.ntmps48
      go_wp2_with fail
      refine (HC.out _ HK.out.2).mono ?_
      rintro e w1 ⟨rfl, h9⟩
      have B1 := HK.out.2.trans (h9.mono HK.out.2.size)
      have K1 := HK.out.1.below h9 HK.out.1.lt
      have k3 := K1.cell 0
      have k4 := K1.cell 1
      clear h9 k1 k2
      go_wp2_with fail
      refine (HA1.out _ B1).mono ?_
      rintro e w2 ⟨rfl, h9⟩
      have B2 := B1.trans (h9.mono B1.size)
      clear h9 k3 k4
      go_wp2
      go_ret2
      exact ⟨rfl, B2⟩
    | true =>
      go_enter Try.func48, Try.ntmps48
      go_wp2_with fail
      refine (HC.out _ HK.out.2).mono ?_
      rintro e w1 ⟨rfl, h9⟩
      have B1 := HK.out.2.trans (h9.mono HK.out.2.size)
      have K1 := HK.out.1.below h9 HK.out.1.lt
      have k3 := K1.cell 0
      have k4 := K1.cell 1
      clear h9 k1 k2
      go_wp2_with fail
      refine (HA1.out _ B1).mono ?_
      rintro e w2 ⟨rfl, h9⟩
      have B2 := B1.trans (h9.mono B1.size)
      clear h9 k3 k4
      go_wp2
      go_ret2
      exact ⟨rfl, B2⟩

set_option maxRecDepth 100000 in
set_option maxHeartbeats 4000000 in
theorem vtell_any (A : Option Addr) (n c : Nat) (ds : List Dom) (B : Option Addr) (m d : Nat) (us : List Vc) (id : Int) (w : World) (hG : GR w A n c ds B m d us) :
    Calls Try.prog 33 #[.agg #[.slice A n c, .slice B m d], .int .i64 id] w (Said (.tuple #[.agg (agV (vcQ ds us id).1), .bool (vcQ ds us id).2]) w) := by
  have HA := Lib.hid (fun (u : World) (h : Below w.heap.size w u) => vamong_any A n c ds B m d us id u (hG.below h))
  obtain ⟨J1, J2, J0⟩ := blks2 w 25 50 #[.slice A n c, .slice B m d] #[.int .i64 0, .int .i64 0, .int .u32 0, .int .u32 0]
  have HK := Lib.hid (And.intro J1 (And.intro J2 J0))
  have HG := Lib.hid hG
  have k1 := J1.cell 0
  have k2 := J1.cell 1
  clear J1 J2 J0 hG
  obtain ⟨r, hr⟩ : ∃ r, rightG ds us = r := ⟨_, rfl⟩
  obtain ⟨k, hk⟩ : ∃ k, (kf us id).isSome = k := ⟨_, rfl⟩
  obtain ⟨p, hp⟩ : ∃ p, low us id = p := ⟨_, rfl⟩
  rw [hr, hk, hp] at HA
  cases r with
  | false =>
    have HV : Hid (vcQ ds us id = (zeroV, false)) := Lib.hid (if_neg (by rw [hr]; simp))
    rw [am_ff] at HA
    clear hr hk hp
    go_enter Try.func33, Try.ntmps33
    go_wp2_with fail
    refine (HA.out _ HK.out.2.2).mono ?_
    rintro e w1 ⟨rfl, h9⟩
    have B1 := HK.out.2.2.trans (h9.mono HK.out.2.2.size)
    have K1 := HK.out.2.1.below h9 HK.out.2.1.lt
    have f0 := K1.frozen 0
    have f1 := K1.frozen 1
    have f2 := K1.frozen 2
    have f3 := K1.frozen 3
    have q0 := K1.cell 0
    have q1 := K1.cell 1
    have q2 := K1.cell 2
    have q3 := K1.cell 3
    have HKF := Lib.hid (put4 (x := .int .i64 0) (y := .int .i64 0) (z := .int .u32 0) (u := .int .u32 0) K1 B1 (by omega))
    clear h9 k1 k2 K1 B1
    go_wp2_with fail
    exact bodyPost_ret (v := .tuple #[.agg #[.int .i64 0, .int .i64 0, .int .u32 0, .int .u32 0], .bool false]) (results_row2 Try.results33 _ _ _ _ _ _ rfl HKF.out.1 Try.underlying50 rfl (by kernel_rfl)) rfl ⟨by rw [HV.out]; rfl, HKF.out.2⟩
  | true =>
    cases k with
    | false =>
      have HV : Hid (vcQ ds us id = (zeroV, false)) := Lib.hid ((if_pos hr).trans (vcV_none (kf_isnt hk)))
      rw [am_tf] at HA
      clear hr hk hp
      go_enter Try.func33, Try.ntmps33
      go_wp2_with fail
      refine (HA.out _ HK.out.2.2).mono ?_
      rintro e w1 ⟨rfl, h9⟩
      have B1 := HK.out.2.2.trans (h9.mono HK.out.2.2.size)
      have K1 := HK.out.2.1.below h9 HK.out.2.1.lt
      have f0 := K1.frozen 0
      have f1 := K1.frozen 1
      have f2 := K1.frozen 2
      have f3 := K1.frozen 3
      have q0 := K1.cell 0
      have q1 := K1.cell 1
      have q2 := K1.cell 2
      have q3 := K1.cell 3
      have HKF := Lib.hid (put4 (x := .int .i64 0) (y := .int .i64 0) (z := .int .u32 0) (u := .int .u32 0) K1 B1 (by omega))
      clear h9 k1 k2 K1 B1
      go_wp2_with fail
      exact bodyPost_ret (v := .tuple #[.agg #[.int .i64 0, .int .i64 0, .int .u32 0, .int .u32 0], .bool false]) (results_row2 Try.results33 _ _ _ _ _ _ rfl HKF.out.1 Try.underlying50 rfl (by kernel_rfl)) rfl ⟨by rw [HV.out]; rfl, HKF.out.2⟩
    | true =>
      obtain ⟨⟨y1, y2, y3, y4⟩, hx⟩ := kf_is hk
      have HV : Hid (vcQ ds us id = ((y1, y2, y3, y4), true)) := Lib.hid ((if_pos hr).trans (vcV_some hx))
      have hat := low_at (rightG_iff.1 hr).rv hx
      rw [hp] at hat
      have hpn : p < m := by have := (List.getElem?_eq_some_iff.1 hat).1; have := HG.out.len; omega
      have HAt := Lib.hid hat
      have j0 : (0 : Int) ≤ (p : Int) := by omega
      have j1 : (p : Int) < (m : Int) := by omega
      obtain ⟨ad, hA2, _⟩ := vc_at HG.out.vcs hat
      subst hA2
      rw [am_tt] at HA
      clear hr hk hp hx hat hpn
      go_enter Try.func33, Try.ntmps33
      go_wp2_with fail
      refine (HA.out _ HK.out.2.2).mono ?_
      rintro e w1 ⟨rfl, h9⟩
      have B1 := HK.out.2.2.trans (h9.mono HK.out.2.2.size)
      have K1 := HK.out.2.1.below h9 HK.out.2.1.lt
      have K0 := HK.out.1.below h9 HK.out.1.lt
      have g0 := K0.cell 0
      have g1 := K0.cell 1
      have f0 := K1.frozen 0
      have f1 := K1.frozen 1
      have f2 := K1.frozen 2
      have f3 := K1.frozen 3
      have q0 := K1.cell 0
      have q1 := K1.cell 1
      have q2 := K1.cell 2
      have q3 := K1.cell 3
      obtain ⟨ad', e', hb, c0, c1, c2, c3⟩ := vc_at (HG.out.vcs.below B1) HAt.out
      injection e' with e'
      subst e'
      have HKF := Lib.hid (put4 (x := .int .i64 y1) (y := .int .i64 y2) (z := .int .u32 (y3 : Int)) (u := .int .u32 (y4 : Int)) K1 B1 (by omega))
      clear h9 k1 k2 K1 B1 K0
      go_wp2_with fail
      exact bodyPost_ret (v := .tuple #[.agg #[.int .i64 y1, .int .i64 y2, .int .u32 (y3 : Int), .int .u32 (y4 : Int)], .bool true]) (results_row2 Try.results33 _ _ _ _ _ _ rfl HKF.out.1 Try.underlying50 rfl (by kernel_rfl)) rfl ⟨by rw [HV.out], HKF.out.2⟩

set_option maxRecDepth 100000 in
set_option maxHeartbeats 8000000 in
theorem dequal_any (A : Option Addr) (n c : Nat) (l : List Dom) (A' : Option Addr) (n' c' : Nat) (l' : List Dom) (w : World) (hG : Reads w w.heap.size 4 A n (flat dv l)) (hG' : Reads w w.heap.size 4 A' n' (flat dv l')) (hn : n ≤ 1000) :
    Calls Try.prog 69 #[.slice A n c, .slice A' n' c'] w (Said (.bool (decide (l = l'))) w) := by
  have hl := doms_len hG
  have hl' := doms_len hG'
  have HR := Lib.hid hG
  have HR' := Lib.hid hG'
  clear hG hG'
  by_cases hnn : n = n'
  · subst hnn
    have HL := Lib.hid hl
    have HL' := Lib.hid hl'
    clear hl hl'
    go_enter Try.func69, Try.ntmps69
    go_wp2_with fail
    go_loopw [13] (fun iv wr => ∃ k : Nat, k ≤ n ∧ iv = .int .i64 (k : Int) ∧ Hid (l.take k = l'.take k) ∧ Below w.heap.size w wr) (fun iv _ => n - (intOf iv).toNat)
    case atStart => exact ⟨0, by omega, rfl, Lib.hid rfl, Below.refl _ _⟩
    case round =>
      obtain ⟨k, hk, rfl, HA, hB⟩ := hrel
      by_cases hlt : k < n
      · obtain ⟨⟨x1, x2, x3, x4⟩, hm⟩ := elem_at (l := l) (k := k) (by rw [HL.out]; exact hlt)
        obtain ⟨⟨y1, y2, y3, y4⟩, hm'⟩ := elem_at (l := l') (k := k) (by rw [HL'.out]; exact hlt)
        obtain ⟨ad, rfl, hb1, c0, c1, c2, c3⟩ := dom_at (HR.out.below hB) hm
        obtain ⟨ad', rfl, hb2, d0, d1, d2, d3⟩ := dom_at (HR'.out.below hB) hm'
        have i1 : (0 : Int) ≤ (k : Int) := by omega
        have i2 : (k : Int) < (n : Int) := by omega
        have HM := Lib.hid hm
        have HM' := Lib.hid hm'
        clear hm hm'
        by_cases h1 : x1 = y1
        · subst h1
          by_cases h2 : x2 = y2
          · subst h2
            by_cases h3 : x3 = y3
            · subst h3
              by_cases h4 : x4 = y4
              · subst h4
                have HS := Lib.hid (take_eq HM.out HM'.out HA.out)
                go_wp2_with fail
                go_quiet (fail)
                go_wp2
                go_roundw
                case rel => exact ⟨k + 1, by omega, by go_num, HS, below_drewN hB _⟩
                case measure => simp [intOf]; omega
              · have HV := Lib.hid (decide_eq_false (ne_at HM.out HM'.out (fun e => h4 (by simp only [Prod.mk.injEq] at e; exact e.2.2.2))))
                have g2 : ((x4 : Int) == (y4 : Int)) = false := by simp; omega
                clear h4
                go_wp2_with fail
                go_quiet (fail)
                go_wp2
                go_ret
                exact ⟨retB HV.out.symm, below_drewN hB _⟩
            · have HV := Lib.hid (decide_eq_false (ne_at HM.out HM'.out (fun e => h3 (by simp only [Prod.mk.injEq] at e; exact e.2.2.1))))
              have g2 : ((x3 : Int) == (y3 : Int)) = false := by simp; omega
              clear h3
              go_wp2_with fail
              go_quiet (fail)
              go_wp2
              go_ret
              exact ⟨retB HV.out.symm, below_drewN hB _⟩
          · have HV := Lib.hid (decide_eq_false (ne_at HM.out HM'.out (fun e => h2 (by simp only [Prod.mk.injEq] at e; exact e.2.1))))
            have g2 : (x2 == y2) = false := by simp; omega
            clear h2
            go_wp2_with fail
            go_quiet (fail)
            go_wp2
            go_ret
            exact ⟨retB HV.out.symm, below_drewN hB _⟩
        · have HV := Lib.hid (decide_eq_false (ne_at HM.out HM'.out (fun e => h1 (by simp only [Prod.mk.injEq] at e; exact e.1))))
          have g2 : (x1 == y1) = false := by simp; omega
          clear h1
          go_wp2_with fail
          go_quiet (fail)
          go_wp2
          go_ret
          exact ⟨retB HV.out.symm, below_drewN hB _⟩
      · obtain rfl : n = k := by omega
        have HD : Hid (decide (l = l') = true) := Lib.hid (by
          have h1 := HA.out
          rw [show l.take n = l by rw [← HL.out]; exact List.take_length, show l'.take n = l' by rw [← HL'.out]; exact List.take_length] at h1
          exact decide_eq_true h1)
        go_wp2
        go_ret
        exact ⟨retB HD.out.symm, hB⟩
  · have HV : Hid (decide (l = l') = false) := Lib.hid (decide_eq_false (fun e => hnn (by rw [← hl, ← hl', e])))
    have g0 : ((n : Int) == (n' : Int)) = false := by simp; omega
    clear hl hl'
    go_enter Try.func69, Try.ntmps69
    go_wp2
    go_ret
    exact ⟨retB HV.out.symm, Below.refl _ _⟩

set_option maxRecDepth 100000 in
set_option maxHeartbeats 8000000 in
theorem vequal_any (A : Option Addr) (n c : Nat) (l : List Vc) (A' : Option Addr) (n' c' : Nat) (l' : List Vc) (w : World) (hG : Reads w w.heap.size 4 A n (flat cv l)) (hG' : Reads w w.heap.size 4 A' n' (flat cv l')) (hn : n ≤ 1000) :
    Calls Try.prog 70 #[.slice A n c, .slice A' n' c'] w (Said (.bool (decide (l = l'))) w) := by
  have hl := vcs_len hG
  have hl' := vcs_len hG'
  have HR := Lib.hid hG
  have HR' := Lib.hid hG'
  clear hG hG'
  by_cases hnn : n = n'
  · subst hnn
    have HL := Lib.hid hl
    have HL' := Lib.hid hl'
    clear hl hl'
    go_enter Try.func70, Try.ntmps70
    go_wp2_with fail
    go_loopw [13] (fun iv wr => ∃ k : Nat, k ≤ n ∧ iv = .int .i64 (k : Int) ∧ Hid (l.take k = l'.take k) ∧ Below w.heap.size w wr) (fun iv _ => n - (intOf iv).toNat)
    case atStart => exact ⟨0, by omega, rfl, Lib.hid rfl, Below.refl _ _⟩
    case round =>
      obtain ⟨k, hk, rfl, HA, hB⟩ := hrel
      by_cases hlt : k < n
      · obtain ⟨⟨x1, x2, x3, x4⟩, hm⟩ := elem_at (l := l) (k := k) (by rw [HL.out]; exact hlt)
        obtain ⟨⟨y1, y2, y3, y4⟩, hm'⟩ := elem_at (l := l') (k := k) (by rw [HL'.out]; exact hlt)
        obtain ⟨ad, rfl, hb1, c0, c1, c2, c3⟩ := vc_at (HR.out.below hB) hm
        obtain ⟨ad', rfl, hb2, d0, d1, d2, d3⟩ := vc_at (HR'.out.below hB) hm'
        have i1 : (0 : Int) ≤ (k : Int) := by omega
        have i2 : (k : Int) < (n : Int) := by omega
        have HM := Lib.hid hm
        have HM' := Lib.hid hm'
        clear hm hm'
        by_cases h1 : x1 = y1
        · subst h1
          by_cases h2 : x2 = y2
          · subst h2
            by_cases h3 : x3 = y3
            · subst h3
              by_cases h4 : x4 = y4
              · subst h4
                have HS := Lib.hid (take_eq HM.out HM'.out HA.out)
                go_wp2_with fail
                go_quiet (fail)
                go_wp2
                go_roundw
                case rel => exact ⟨k + 1, by omega, by go_num, HS, below_drewN hB _⟩
                case measure => simp [intOf]; omega
              · have HV := Lib.hid (decide_eq_false (ne_at HM.out HM'.out (fun e => h4 (by simp only [Prod.mk.injEq] at e; exact e.2.2.2))))
                have g2 : ((x4 : Int) == (y4 : Int)) = false := by simp; omega
                clear h4
                go_wp2_with fail
                go_quiet (fail)
                go_wp2
                go_ret
                exact ⟨retB HV.out.symm, below_drewN hB _⟩
            · have HV := Lib.hid (decide_eq_false (ne_at HM.out HM'.out (fun e => h3 (by simp only [Prod.mk.injEq] at e; exact e.2.2.1))))
              have g2 : ((x3 : Int) == (y3 : Int)) = false := by simp; omega
              clear h3
              go_wp2_with fail
              go_quiet (fail)
              go_wp2
              go_ret
              exact ⟨retB HV.out.symm, below_drewN hB _⟩
          · have HV := Lib.hid (decide_eq_false (ne_at HM.out HM'.out (fun e => h2 (by simp only [Prod.mk.injEq] at e; exact e.2.1))))
            have g2 : (x2 == y2) = false := by simp; omega
            clear h2
            go_wp2_with fail
            go_quiet (fail)
            go_wp2
            go_ret
            exact ⟨retB HV.out.symm, below_drewN hB _⟩
        · have HV := Lib.hid (decide_eq_false (ne_at HM.out HM'.out (fun e => h1 (by simp only [Prod.mk.injEq] at e; exact e.1))))
          have g2 : (x1 == y1) = false := by simp; omega
          clear h1
          go_wp2_with fail
          go_quiet (fail)
          go_wp2
          go_ret
          exact ⟨retB HV.out.symm, below_drewN hB _⟩
      · obtain rfl : n = k := by omega
        have HD : Hid (decide (l = l') = true) := Lib.hid (by
          have h1 := HA.out
          rw [show l.take n = l by rw [← HL.out]; exact List.take_length, show l'.take n = l' by rw [← HL'.out]; exact List.take_length] at h1
          exact decide_eq_true h1)
        go_wp2
        go_ret
        exact ⟨retB HD.out.symm, hB⟩
  · have HV : Hid (decide (l = l') = false) := Lib.hid (decide_eq_false (fun e => hnn (by rw [← hl, ← hl', e])))
    have g0 : ((n : Int) == (n' : Int)) = false := by simp; omega
    clear hl hl'
    go_enter Try.func70, Try.ntmps70
    go_wp2
    go_ret
    exact ⟨retB HV.out.symm, Below.refl _ _⟩

set_option maxRecDepth 100000 in
set_option maxHeartbeats 4000000 in
theorem gsame_any (A : Option Addr) (n c : Nat) (ds : List Dom) (B : Option Addr) (m d : Nat) (us : List Vc) (A' : Option Addr) (n' c' : Nat) (ds' : List Dom) (B' : Option Addr) (m' d' : Nat) (us' : List Vc) (w : World) (hG : GR w A n c ds B m d us) (hG' : GR w A' n' c' ds' B' m' d' us') :
    Calls Try.prog 31 #[.agg #[.slice A n c, .slice B m d], .agg #[.slice A' n' c', .slice B' m' d']] w (Said (.bool (sameG ds us ds' us')) w) := by
  obtain ⟨J1, J2, J0⟩ := blks2 w 25 25 #[.slice A n c, .slice B m d] #[.slice A' n' c', .slice B' m' d']
  have HE := Lib.hid (fun (u : World) (h : Below w.heap.size w u) => dequal_any A n c ds A' n' c' ds' u (hG.below h).doms (hG'.below h).doms hG.n9)
  have HF := Lib.hid (fun (u : World) (h : Below w.heap.size w u) => vequal_any B m d us B' m' d' us' u (hG.below h).vcs (hG'.below h).vcs hG.m9)
  have HK := Lib.hid (And.intro J1 (And.intro J2 J0))
  have k1 := J1.cell 0
  have k2 := J2.cell 0
  clear J1 J2 J0 hG hG'
  unfold sameG
  cases h1 : decide (ds = ds') with
  | false =>
    rw [h1] at HE
    clear h1
    go_enter Try.func31, Try.ntmps31
    go_wp2_with fail
    refine (HE.out _ HK.out.2.2).mono ?_
    rintro e w1 ⟨rfl, h9⟩
    have B1 := HK.out.2.2.trans (h9.mono HK.out.2.2.size)
    clear h9 k1 k2
    go_wp2
    go_ret
    exact ⟨rfl, B1⟩
  | true =>
    rw [h1] at HE
    obtain ⟨r, hr⟩ : ∃ r, decide (us = us') = r := ⟨_, rfl⟩
    rw [hr] at HF ⊢
    clear h1 hr
    go_enter Try.func31, Try.ntmps31
    go_wp2_with fail
    refine (HE.out _ HK.out.2.2).mono ?_
    rintro e w1 ⟨rfl, h9⟩
    have B1 := HK.out.2.2.trans (h9.mono HK.out.2.2.size)
    have K1 := HK.out.1.below h9 HK.out.1.lt
    have K2 := HK.out.2.1.below h9 HK.out.2.1.lt
    have q1 := K1.cell 1
    have q2 := K2.cell 1
    clear h9 k1 k2
    go_wp2_with fail
    refine (HF.out _ B1).mono ?_
    rintro e w2 ⟨rfl, h9⟩
    have B2 := B1.trans (h9.mono B1.size)
    clear h9 q1 q2
    go_wp2
    go_ret
    exact ⟨rfl, B2⟩

set_option maxRecDepth 100000 in
set_option maxHeartbeats 4000000 in
theorem owner_any (A : Option Addr) (n c : Nat) (ds : List Dom) (B : Option Addr) (m d : Nat) (us : List Vc) (v1 v2 : Int) (v3 v4 : Nat) (x : Dom) (w : World) (hG : GR w A n c ds B m d us) (hR : Rise ds) (hx : kf ds v2 = some x) :
    Calls Try.prog 74 #[.agg #[.slice A n c, .slice B m d], .agg #[.int .i64 v1, .int .i64 v2, .int .u32 (v3 : Int), .int .u32 (v4 : Int)]] w (Said (.agg (agD x)) w) := by
  obtain ⟨J1, J2, J3, J0⟩ := blks3 w 25 50 27 #[.slice A n c, .slice B m d] #[.int .i64 v1, .int .i64 v2, .int .u32 (v3 : Int), .int .u32 (v4 : Int)] #[.int .i64 0, .int .i64 0, .int .i64 0, .int .i64 0]
  have HA := Lib.hid (fun (u : World) (h : Below w.heap.size w u) => dat_any A n c ds B m d us v2 u (hG.below h) hR)
  have HK := Lib.hid (And.intro J1 (And.intro J2 (And.intro J3 J0)))
  have HG := Lib.hid hG
  have k1 := J1.cell 0
  have k2 := J1.cell 1
  have k3 := J2.cell 1
  obtain ⟨y1, y2, y3, y4⟩ := x
  have hat := low_at hR hx
  obtain ⟨p, hp⟩ : ∃ p, low ds v2 = p := ⟨_, rfl⟩
  rw [hx, hp] at HA
  rw [hp] at hat
  have hpn : p < n := by have := (List.getElem?_eq_some_iff.1 hat).1; have := HG.out.len; omega
  have HAt := Lib.hid hat
  have j0 : (0 : Int) ≤ (p : Int) := by omega
  have j1 : (p : Int) < (n : Int) := by omega
  obtain ⟨ad, hA2, _⟩ := dom_at HG.out.doms hat
  subst hA2
  clear J1 J2 J3 J0 hG hR hx hat hp hpn
  go_enter Try.func74, Try.ntmps74
  go_wp2_with fail
  refine (HA.out _ HK.out.2.2.2).mono ?_
  rintro e w1 ⟨rfl, h9⟩
  have B1 := HK.out.2.2.2.trans (h9.mono HK.out.2.2.2.size)
  have K1 := HK.out.2.2.1.below h9 HK.out.2.2.1.lt
  have K0 := HK.out.1.below h9 HK.out.1.lt
  have g0 := K0.cell 0
  have f0 := K1.frozen 0
  have f1 := K1.frozen 1
  have f2 := K1.frozen 2
  have f3 := K1.frozen 3
  have q0 := K1.cell 0
  have q1 := K1.cell 1
  have q2 := K1.cell 2
  have q3 := K1.cell 3
  obtain ⟨ad', e', hb, c0, c1, c2, c3⟩ := dom_at (HG.out.doms.below B1) HAt.out
  injection e' with e'
  subst e'
  have HKF := Lib.hid (put4 (x := .int .i64 y1) (y := .int .i64 y2) (z := .int .i64 y3) (u := .int .i64 y4) K1 B1 (by omega))
  clear h9 k1 k2 k3 K1 B1 K0
  go_wp2_with fail
  exact bodyPost_ret (v := .agg #[.int .i64 y1, .int .i64 y2, .int .i64 y3, .int .i64 y4]) (results_cell_row Try.results74 _ _ _ _ _ _ _ rfl HKF.out.1 Try.underlying27 rfl (by kernel_rfl)) rfl ⟨rfl, HKF.out.2⟩

end Go.Proofs.Ytknimnopopnbhaa
