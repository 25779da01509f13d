/-
  The landed domain: rising, inBounds, count, Check. No statement is proved here.
-/
import Derived.Test.YtknimnopopnbhaaEa
import Derived.Test.YtknimnopopnbhaaEb
import Derived.Test.YtknimnopopnbhaaEn
namespace Go.Proofs.Ytknimnopopnbhaa
open Go.RowKit

set_option maxRecDepth 100000 in
set_option maxHeartbeats 2000000 in
theorem drising_any (A : Option Addr) (n c most : Nat) (l : List Dom) (w : World) (hG : Reads w w.heap.size 4 A n (flat dv l)) (hn : n ≤ 1000) :
    Calls Try.prog 64 #[.slice A n c, .func (.func 65) #[] #[], .int .i64 (most : Int)] w fun e w' => e = .returned (.bool (riseF (most : Int) 0 l)) ∧ w = w' := by
  have HL := Lib.hid (doms_len hG)
  have HR := Lib.hid hG
  have HNum := Lib.hid (fun (ad : Addr) (k : Nat) (x : Int) (hk : k < n) (hc : w.cell? (ad.add (k * 4)) = some (.int .i64 x)) => dnumber_any ad n c k x w hk hc)
  clear hG
  go_enter Try.func64, Try.ntmps64
  go_wp2_with fail
  go_loopw [7, 12] (fun lv iv wr => ∃ (k : Nat) (last : Int), k ≤ n ∧ iv = .int .i64 (k : Int) ∧ lv = .int .i64 last ∧ Hid (riseF (most : Int) last (l.drop k) = riseF (most : Int) 0 l) ∧ wr = w) (fun _ iv _ => n - (intOf iv).toNat)
  case atStart => exact ⟨0, 0, by omega, rfl, rfl, Lib.hid rfl, rfl⟩
  case round =>
    obtain ⟨k, last, hk, rfl, rfl, HA, rfl⟩ := hrel
    by_cases hlt : k < n
    · obtain ⟨⟨x1, x2, x3, x4⟩, hx⟩ := elem_at (l := l) (k := k) (by rw [HL.out]; exact hlt)
      obtain ⟨ad, rfl, hb, c0, _⟩ := dom_at HR.out hx
      have HNk := Lib.hid (HNum.out ad k x1 hlt c0)
      have hs := riseF_at (most := (most : Int)) (last := last) hx
      rw [HA.out] at hs
      have j1 : decide ((k : Int) < (n : Int)) = true := decide_eq_true (by omega)
      clear hx c0 HNum
      by_cases h1 : last < x1
      · have e1 : decide (x1 ≤ last) = false := decide_eq_false (by omega)
        by_cases h2 : x1 ≤ (most : Int)
        · have e2 : decide ((most : Int) < x1) = false := decide_eq_false (by omega)
          have HN : Hid (riseF (most : Int) x1 (l.drop (k + 1)) = riseF (most : Int) 0 l) := Lib.hid (by rw [hs]; simp [h1, h2])
          clear hs h1 h2
          go_wp2_with fail
          refine HNk.out.mono ?_
          rintro e w1 ⟨rfl, rfl⟩
          go_wp2
          go_roundw
          case rel => exact ⟨k + 1, x1, by omega, by go_num, rfl, HN, by first | rfl | trivial⟩
          case measure => simp [intOf] <;> omega
        · have e2 : decide ((most : Int) < x1) = true := decide_eq_true (by omega)
          have HV : Hid (riseF (most : Int) 0 l = false) := Lib.hid (by rw [hs]; simp [h2])
          clear hs h1 h2
          go_wp2_with fail
          refine HNk.out.mono ?_
          rintro e w1 ⟨rfl, rfl⟩
          go_wp2
          go_ret
          exact ⟨retB HV.out.symm, rfl⟩
      · have e1 : decide (x1 ≤ last) = true := decide_eq_true (by omega)
        have HV : Hid (riseF (most : Int) 0 l = false) := Lib.hid (by rw [hs]; simp [h1])
        clear hs h1
        go_wp2_with fail
        refine HNk.out.mono ?_
        rintro e w1 ⟨rfl, rfl⟩
        go_wp2
        go_ret
        exact ⟨retB HV.out.symm, rfl⟩
    · obtain rfl : n = k := by omega
      have HV : Hid (riseF (most : Int) 0 l = true) := Lib.hid (by rw [← HA.out, ← HL.out, List.drop_length]; rfl)
      go_wp2
      go_ret
      exact ⟨retB HV.out.symm, rfl⟩

set_option maxRecDepth 100000 in
set_option maxHeartbeats 2000000 in
theorem vrising_any (A : Option Addr) (n c most : Nat) (l : List Vc) (w : World) (hG : Reads w w.heap.size 4 A n (flat cv l)) (hn : n ≤ 1000) :
    Calls Try.prog 66 #[.slice A n c, .func (.func 67) #[] #[], .int .i64 (most : Int)] w fun e w' => e = .returned (.bool (riseF (most : Int) 0 l)) ∧ w = w' := by
  have HL := Lib.hid (vcs_len hG)
  have HR := Lib.hid hG
  have HNum := Lib.hid (fun (ad : Addr) (k : Nat) (x : Int) (hk : k < n) (hc : w.cell? (ad.add (k * 4)) = some (.int .i64 x)) => vnumber_any ad n c k x w hk hc)
  clear hG
  go_enter Try.func66, Try.ntmps66
  go_wp2_with fail
  go_loopw [7, 12] (fun lv iv wr => ∃ (k : Nat) (last : Int), k ≤ n ∧ iv = .int .i64 (k : Int) ∧ lv = .int .i64 last ∧ Hid (riseF (most : Int) last (l.drop k) = riseF (most : Int) 0 l) ∧ wr = w) (fun _ iv _ => n - (intOf iv).toNat)
  case atStart => exact ⟨0, 0, by omega, rfl, rfl, Lib.hid rfl, rfl⟩
  case round =>
    obtain ⟨k, last, hk, rfl, rfl, HA, rfl⟩ := hrel
    by_cases hlt : k < n
    · obtain ⟨⟨x1, x2, x3, x4⟩, hx⟩ := elem_at (l := l) (k := k) (by rw [HL.out]; exact hlt)
      obtain ⟨ad, rfl, hb, c0, _⟩ := vc_at HR.out hx
      have HNk := Lib.hid (HNum.out ad k x1 hlt c0)
      have hs := riseF_at (most := (most : Int)) (last := last) hx
      rw [HA.out] at hs
      have j1 : decide ((k : Int) < (n : Int)) = true := decide_eq_true (by omega)
      clear hx c0 HNum
      by_cases h1 : last < x1
      · have e1 : decide (x1 ≤ last) = false := decide_eq_false (by omega)
        by_cases h2 : x1 ≤ (most : Int)
        · have e2 : decide ((most : Int) < x1) = false := decide_eq_false (by omega)
          have HN : Hid (riseF (most : Int) x1 (l.drop (k + 1)) = riseF (most : Int) 0 l) := Lib.hid (by rw [hs]; simp [h1, h2])
          clear hs h1 h2
          go_wp2_with fail
          refine HNk.out.mono ?_
          rintro e w1 ⟨rfl, rfl⟩
          go_wp2
          go_roundw
          case rel => exact ⟨k + 1, x1, by omega, by go_num, rfl, HN, by first | rfl | trivial⟩
          case measure => simp [intOf] <;> omega
        · have e2 : decide ((most : Int) < x1) = true := decide_eq_true (by omega)
          have HV : Hid (riseF (most : Int) 0 l = false) := Lib.hid (by rw [hs]; simp [h2])
          clear hs h1 h2
          go_wp2_with fail
          refine HNk.out.mono ?_
          rintro e w1 ⟨rfl, rfl⟩
          go_wp2
          go_ret
          exact ⟨retB HV.out.symm, rfl⟩
      · have e1 : decide (x1 ≤ last) = true := decide_eq_true (by omega)
        have HV : Hid (riseF (most : Int) 0 l = false) := Lib.hid (by rw [hs]; simp [h1])
        clear hs h1
        go_wp2_with fail
        refine HNk.out.mono ?_
        rintro e w1 ⟨rfl, rfl⟩
        go_wp2
        go_ret
        exact ⟨retB HV.out.symm, rfl⟩
    · obtain rfl : n = k := by omega
      have HV : Hid (riseF (most : Int) 0 l = true) := Lib.hid (by rw [← HA.out, ← HL.out, List.drop_length]; rfl)
      go_wp2
      go_ret
      exact ⟨retB HV.out.symm, rfl⟩

def inB (d : Dom) : Bool := decide (1 ≤ d.2.1) && decide (d.2.1 ≤ 65535) && decide (0 ≤ d.2.2.1) && decide (d.2.2.1 ≤ 800) && decide (0 ≤ d.2.2.2) && decide (d.2.2.2 < 4)
theorem inB_iff {d : Dom} (h1 : 1 ≤ d.1) (h8 : d.1 ≤ 8) : inB d = rightD d := by
  unfold inB rightD
  rw [decide_eq_true h1, decide_eq_true h8, show decide (d.2.2.2 < 4) = decide (d.2.2.2 ≤ 3) from decide_eq_decide.2 (by omega)]
  rfl

set_option maxRecDepth 100000 in
set_option maxHeartbeats 4000000 in
theorem inbounds_any (a b c d : Int) (w : World) : Calls Try.prog 68 #[.agg #[.int .i64 a, .int .i64 b, .int .i64 c, .int .i64 d]] w (Said (.bool (inB (a, b, c, d))) w) := by
  have HK := Lib.hid (box1 w 27 #[.int .i64 a, .int .i64 b, .int .i64 c, .int .i64 d])
  by_cases h0 : 1 ≤ b
  · have e0 : decide ((1 : Int) ≤ b) = true := decide_eq_true h0
    by_cases h1 : b ≤ 65535
    · have e1 : decide (b ≤ (65535 : Int)) = true := decide_eq_true h1
      by_cases h2 : 0 ≤ c
      · have e2 : decide ((0 : Int) ≤ c) = true := decide_eq_true h2
        by_cases h3 : c ≤ 800
        · have e3 : decide (c ≤ (800 : Int)) = true := decide_eq_true h3
          by_cases h4 : 0 ≤ d
          · have e4 : decide ((0 : Int) ≤ d) = true := decide_eq_true h4
            by_cases h5 : d < 4
            · have e5 : decide (d < (4 : Int)) = true := decide_eq_true h5
              have HV : Hid (inB (a, b, c, d) = true) := Lib.hid (by unfold inB; simp [h0, h1, h2, h3, h4, h5])
              clear h0 h1 h2 h3 h4 h5
              go_enter Try.func68, Try.ntmps68
              go_wp2
              go_ret
              exact ⟨retB HV.out.symm, HK.out.2⟩
            · have e5 : decide (d < (4 : Int)) = false := decide_eq_false h5
              have HV : Hid (inB (a, b, c, d) = false) := Lib.hid (by unfold inB; simp [h5])
              clear h0 h1 h2 h3 h4 h5
              go_enter Try.func68, Try.ntmps68
              go_wp2
              go_ret
              exact ⟨retB HV.out.symm, HK.out.2⟩
          · have e4 : decide ((0 : Int) ≤ d) = false := decide_eq_false h4
            have HV : Hid (inB (a, b, c, d) = false) := Lib.hid (by unfold inB; simp [h4])
            clear h0 h1 h2 h3 h4
            go_enter Try.func68, Try.ntmps68
            go_wp2
            go_ret
            exact ⟨retB HV.out.symm, HK.out.2⟩
        · have e3 : decide (c ≤ (800 : Int)) = false := decide_eq_false h3
          have HV : Hid (inB (a, b, c, d) = false) := Lib.hid (by unfold inB; simp [h3])
          clear h0 h1 h2 h3
          go_enter Try.func68, Try.ntmps68
          go_wp2
          go_ret
          exact ⟨retB HV.out.symm, HK.out.2⟩
      · have e2 : decide ((0 : Int) ≤ c) = false := decide_eq_false h2
        have HV : Hid (inB (a, b, c, d) = false) := Lib.hid (by unfold inB; simp [h2])
        clear h0 h1 h2
        go_enter Try.func68, Try.ntmps68
        go_wp2
        go_ret
        exact ⟨retB HV.out.symm, HK.out.2⟩
    · have e1 : decide (b ≤ (65535 : Int)) = false := decide_eq_false h1
      have HV : Hid (inB (a, b, c, d) = false) := Lib.hid (by unfold inB; simp [h1])
      clear h0 h1
      go_enter Try.func68, Try.ntmps68
      go_wp2
      go_ret
      exact ⟨retB HV.out.symm, HK.out.2⟩
  · have e0 : decide ((1 : Int) ≤ b) = false := decide_eq_false h0
    have HV : Hid (inB (a, b, c, d) = false) := Lib.hid (by unfold inB; simp [h0])
    clear h0
    go_enter Try.func68, Try.ntmps68
    go_wp2
    go_ret
    exact ⟨retB HV.out.symm, HK.out.2⟩

theorem ofN_step {us : List Vc} {k : Nat} {x : Vc} {dom : Int} (hx : us[k]? = some x) : (ofL (us.take (k + 1)) dom).length = (ofL (us.take k) dom).length + (if x.2.1 = dom then 1 else 0) := by
  rw [ofL_step hx, List.length_append]
  split <;> rfl

set_option maxRecDepth 100000 in
set_option maxHeartbeats 4000000 in
theorem count_any (A : Option Addr) (n c : Nat) (ds : List Dom) (B : Option Addr) (m d : Nat) (us : List Vc) (dom : Int) (w : World) (hG : GR w A n c ds B m d us) :
    Calls Try.prog 49 #[.agg #[.slice A n c, .slice B m d], .int .i64 dom] w (Said (.int .i64 (((ofL us dom).length : Nat) : Int)) w) := by
  have HL := Lib.hid hG.len.2
  have HR := Lib.hid hG.vcs
  have HN := Lib.hid hG.m9
  have HK := Lib.hid (box1 w 25 #[.slice A n c, .slice B m d])
  have k1 := HK.out.1.cell 1
  clear hG
  go_enter Try.func49, Try.ntmps49
  go_wp2_with fail
  clear k1
  go_loopw [5, 11] (fun qv iv wr => ∃ k q : Nat, k ≤ m ∧ iv = .int .i64 (k : Int) ∧ qv = .int .i64 (q : Int) ∧ Hid (q = (ofL (us.take k) dom).length) ∧ Below w.heap.size w wr) (fun _ iv _ => m - (intOf iv).toNat)
  case atStart => exact ⟨0, 0, by omega, rfl, rfl, Lib.hid rfl, HK.out.2⟩
  case round =>
    obtain ⟨k, q, hk, rfl, rfl, Hq, hB⟩ := hrel
    by_cases hlt : k < m
    · obtain ⟨⟨a, b, h, s⟩, hx⟩ := elem_at (l := us) (k := k) (by rw [HL.out]; exact hlt)
      obtain ⟨ad, rfl, hb, c0, c1, c2, c3⟩ := vc_at (HR.out.below hB) hx
      have hF := ofN_step (dom := dom) hx
      have j0 : (0 : Int) ≤ (k : Int) := by omega
      have j1 : (k : Int) < (m : Int) := by omega
      have q9 : q ≤ 1000 := by
        have h1 := ofL_le (us.take k) dom
        rw [List.length_take] at h1
        rw [Hq.out]
        have := HN.out
        omega
      have B1 := hB.alloc hB.size (.cells #[.int .i64 a, .int .i64 b, .int .u32 (h : Int), .int .u32 (s : Int)] 50)
      have hsz := hB.size
      have k9 : k < 1000 := by have := HN.out; omega
      clear hx
      by_cases hbd : b = dom
      · have e1 : (b == dom) = true := by simp [hbd]
        rw [if_pos hbd] at hF
        have HF := Lib.hid hF
        clear hF hbd hB
        go_wp2
        go_roundw
        case rel => exact ⟨k + 1, q + 1, by omega, by go_num, by go_num, Lib.hid (by have q1 := HF.out; have q2 := Hq.out; omega), B1⟩
        case measure => simp [intOf] <;> omega
      · have e1 : (b == dom) = false := by simp [hbd]
        rw [if_neg hbd] at hF
        have HF := Lib.hid hF
        clear hF hbd hB
        go_wp2
        go_roundw
        case rel => exact ⟨k + 1, q, by omega, by go_num, rfl, Lib.hid (by have q1 := HF.out; have q2 := Hq.out; omega), B1⟩
        case measure => simp [intOf] <;> omega
    · obtain rfl : m = k := by omega
      have HV : Hid (q = (ofL us dom).length) := Lib.hid (by rw [Hq.out, show us.take m = us by rw [← HL.out]; exact List.take_length])
      go_wp2
      go_ret
      exact ⟨retI (by rw [HV.out]), hB⟩

def chkG (ds : List Dom) (us : List Vc) : Int := if rightG ds us = true then 0 else 190
theorem chkG_no {ds : List Dom} {us : List Vc} (h : RightP ds us → False) : chkG ds us = 190 := if_neg (by rw [rightG_no h]; simp)
theorem rise_no8 {ds : List Dom} {us : List Vc} (h : riseF ((8 : Nat) : Int) 0 ds = false) : RightP ds us → False := fun hP => by
  have : riseF ((8 : Nat) : Int) 0 ds = true := riseF_iff.2 ⟨hP.rd, fun x hx => by have := hP.bd x hx; omega⟩
  rw [h] at this; cases this
theorem rise_no16 {ds : List Dom} {us : List Vc} (h : riseF ((16 : Nat) : Int) 0 us = false) : RightP ds us → False := fun hP => by
  have : riseF ((16 : Nat) : Int) 0 us = true := riseF_iff.2 ⟨hP.rv, fun x hx => by have := hP.bv x hx; omega⟩
  rw [h] at this; cases this
/-- what the first k rows must be -/
def dOk (us : List Vc) (x : Dom) : Prop := inB x = true ∧ (ofL us x.1).length ≤ 8
def vOk (ds : List Dom) (v : Vc) : Prop := (kf ds v.2.1).isSome = true ∧ rightK v.2.2.1 v.2.2.2 = true
theorem right_of {ds : List Dom} {us : List Vc} (h8 : riseF ((8 : Nat) : Int) 0 ds = true) (h16 : riseF ((16 : Nat) : Int) 0 us = true) (hd : ∀ (k : Nat) (x : Dom), ds[k]? = some x → dOk us x) (hv : ∀ (k : Nat) (v : Vc), us[k]? = some v → vOk ds v) : chkG ds us = 0 := by
  obtain ⟨r1, b1⟩ := riseF_iff.1 h8
  obtain ⟨r2, b2⟩ := riseF_iff.1 h16
  refine if_pos (rightG_iff.2 ⟨r1, fun x hx => ?_, fun x hx => ?_, r2, fun v hv2 => ?_⟩)
  · obtain ⟨i, hi⟩ := List.mem_iff_getElem?.1 hx
    have := b1 x hx
    rw [← inB_iff (by omega) (by omega)]
    exact (hd i x hi).1
  · obtain ⟨i, hi⟩ := List.mem_iff_getElem?.1 hx
    exact (hd i x hi).2
  · obtain ⟨i, hi⟩ := List.mem_iff_getElem?.1 hv2
    have := b2 v hv2
    have h3 := hv i v hi
    exact ⟨by omega, by omega, h3.1, h3.2⟩
theorem dOk_no {ds : List Dom} {us : List Vc} {k : Nat} {x : Dom} (hx : ds[k]? = some x) (h : ¬ dOk us x) : chkG ds us = 190 := chkG_no fun hP => h (by
  have hm := List.mem_of_getElem? hx
  have := hP.bd x hm
  exact ⟨by rw [inB_iff (by omega) (by omega)]; exact hP.od x hm, hP.cd x hm⟩)
theorem vOk_no {ds : List Dom} {us : List Vc} {k : Nat} {x : Vc} (hx : us[k]? = some x) (h : ¬ vOk ds x) : chkG ds us = 190 := chkG_no fun hP => h (by
  have := hP.ov x (List.mem_of_getElem? hx)
  exact ⟨this.2.2.1, this.2.2.2⟩)

set_option maxRecDepth 100000 in
set_option maxHeartbeats 16000000 in
theorem gcheck_any (A : Option Addr) (n c : Nat) (ds : List Dom) (B : Option Addr) (m d : Nat) (us : List Vc) (w : World) (hG : GR w A n c ds B m d us) :
    Calls Try.prog 30 #[.agg #[.slice A n c, .slice B m d]] w (Said (.int .i64 (chkG ds us)) w) := by
  have HL := Lib.hid hG.len
  have n9 := hG.n9
  have m9 := hG.m9
  have HR := Lib.hid hG
  have HK := Lib.hid (box1 w 25 #[.slice A n c, .slice B m d])
  have HR1 : Hid (∀ (u : World), Below w.heap.size w u → Calls Try.prog 64 #[.slice A n c, .func (.func 65) #[] #[], .int .i64 8] u fun e w' => e = .returned (.bool (riseF ((8 : Nat) : Int) 0 ds)) ∧ u = w') := Lib.hid (fun u h => drising_any A n c 8 ds u (hG.below h).doms n9)
  have HR2 : Hid (∀ (u : World), Below w.heap.size w u → Calls Try.prog 66 #[.slice B m d, .func (.func 67) #[] #[], .int .i64 16] u fun e w' => e = .returned (.bool (riseF ((16 : Nat) : Int) 0 us)) ∧ u = w') := Lib.hid (fun u h => vrising_any B m d 16 us u (hG.below h).vcs m9)
  have k1 := HK.out.1.cell 0
  have k2 := HK.out.1.cell 1
  obtain ⟨r1, hr1⟩ : ∃ r, riseF ((8 : Nat) : Int) 0 ds = r := ⟨_, rfl⟩
  obtain ⟨r2, hr2⟩ : ∃ r, riseF ((16 : Nat) : Int) 0 us = r := ⟨_, rfl⟩
  rw [hr1] at HR1
  rw [hr2] at HR2
  clear hG
  cases r1 with
  | false =>
    have HV := Lib.hid (chkG_no (rise_no8 (us := us) hr1))
    clear hr1 hr2
    go_enter Try.func30, Try.ntmps30
    go_wp2_with fail
    refine (HR1.out _ HK.out.2).mono ?_
    rintro e w1 ⟨rfl, rfl⟩
    go_wp2
    go_ret
    exact ⟨retI HV.out.symm, HK.out.2⟩
  | true =>
    cases r2 with
    | false =>
      have HV := Lib.hid (chkG_no (rise_no16 (ds := ds) hr2))
      clear hr1 hr2
      go_enter Try.func30, Try.ntmps30
      go_wp2_with fail
      refine (HR1.out _ HK.out.2).mono ?_
      rintro e w1 ⟨rfl, rfl⟩
      go_wp2_with fail
      refine (HR2.out _ HK.out.2).mono ?_
      rintro e w1 ⟨rfl, rfl⟩
      go_wp2
      go_ret
      exact ⟨retI HV.out.symm, HK.out.2⟩
    | true =>
      have H8 := Lib.hid hr1
      have H16 := Lib.hid hr2
      have HRi := Lib.hid (riseF_iff.1 hr1).1
      clear hr1 hr2
      go_enter Try.func30, Try.ntmps30
      go_wp2_with fail
      refine (HR1.out _ HK.out.2).mono ?_
      rintro e w1 ⟨rfl, rfl⟩
      go_wp2_with fail
      refine (HR2.out _ HK.out.2).mono ?_
      rintro e w1 ⟨rfl, rfl⟩
      go_wp2_with fail
      clear k1 k2 HR1 HR2
      go_loopw [22] (fun iv wr => ∃ i : Nat, i ≤ n ∧ iv = .int .i64 (i : Int) ∧ Hid (∀ (k : Nat) (x : Dom), k < i → ds[k]? = some x → dOk us x) ∧ Blk wr w.heap.size 25 #[.slice A n c, .slice B m d] ∧ Below w.heap.size w wr) (fun iv _ => n - (intOf iv).toNat)
      case atStart => exact ⟨0, by omega, rfl, Lib.hid (fun k x h _ => by omega), HK.out.1, HK.out.2⟩
      case round =>
        clear HK
        obtain ⟨i, hi, rfl, HA, KB, GB⟩ := hrel
        by_cases hlt : i < n
        · obtain ⟨⟨x1, x2, x3, x4⟩, hx⟩ := elem_at (l := ds) (k := i) (by rw [HL.out.1]; exact hlt)
          obtain ⟨ad, rfl, hb, c0, c1, c2, c3⟩ := dom_at (HR.out.doms.below GB) hx
          have HX := Lib.hid hx
          have HIn := Lib.hid (fun (u : World) => inbounds_any x1 x2 x3 x4 u)
          have HCo := Lib.hid (fun (u : World) (h : Below w.heap.size w u) => count_any (some ad) n c ds B m d us x1 u (HR.out.below h))
          have j0 : (0 : Int) ≤ (i : Int) := by omega
          have j1 : (i : Int) < (n : Int) := by omega
          have KD := Blk.new wr 27 #[.int .i64 x1, .int .i64 x2, .int .i64 x3, .int .i64 x4]
          have KB1 := KB.alloc (.cells #[.int .i64 x1, .int .i64 x2, .int .i64 x3, .int .i64 x4] 27)
          have GB1 := GB.alloc GB.size (.cells #[.int .i64 x1, .int .i64 x2, .int .i64 x3, .int .i64 x4] 27)
          have hdlt := KD.lt
          clear hx KB
          cases hin : inB (x1, x2, x3, x4) with
          | false =>
            rw [hin] at HIn
            have HV := Lib.hid (dOk_no (us := us) HX.out (fun h => by have := h.1; rw [hin] at this; cases this))
            clear hin
            go_wp2_with fail
            refine (HIn.out _).mono ?_
            rintro e w2 ⟨rfl, h9⟩
            have BF := GB1.trans (h9.mono GB1.size)
            clear h9
            go_wp2
            go_ret
            exact ⟨retI HV.out.symm, BF⟩
          | true =>
            rw [hin] at HIn
            obtain ⟨Q, hQ⟩ : ∃ Q, (ofL us x1).length = Q := ⟨_, rfl⟩
            rw [hQ] at HCo
            have Q9 : Q ≤ 1000 := by have := ofL_le us x1; have := HL.out.2; omega
            by_cases h8 : Q ≤ 8
            · have HN : Hid (∀ (k : Nat) (x : Dom), k < i + 1 → ds[k]? = some x → dOk us x) := Lib.hid (fun k x hk hx => by
                by_cases e : k = i
                · subst e
                  rw [HX.out] at hx
                  injection hx with hx
                  subst hx
                  exact ⟨hin, by show (ofL us x1).length ≤ 8; omega⟩
                · exact HA.out k x (by omega) hx)
              have q8 : decide ((8 : Int) < (Q : Int)) = false := decide_eq_false (by omega)
              clear hQ hin
              go_wp2_with fail
              refine (HIn.out _).mono ?_
              rintro e w2 ⟨rfl, h9⟩
              have KD2 := KD.below h9 hdlt
              have KB2 := KB1.below h9 KB1.lt
              have GB2 := GB1.trans (h9.mono GB1.size)
              have k0 := KD2.cell 0
              have b0 := KB2.cell 0
              have b1 := KB2.cell 1
              clear h9 KD KB1 GB1 GB c0 c1 c2 c3
              go_wp2_with fail
              refine (HCo.out _ GB2).mono ?_
              rintro e w3 ⟨rfl, h9⟩
              have KB3 := KB2.below h9 KB2.lt
              have GB3 := GB2.trans (h9.mono GB2.size)
              clear h9 k0 b0 b1 KB2 GB2 KD2
              go_wp2
              go_roundw
              case rel => exact ⟨i + 1, by omega, by go_num, HN, KB3, GB3⟩
              case measure => simp [intOf] <;> omega
            · have HV := Lib.hid (dOk_no (us := us) HX.out (fun h => by have : (ofL us x1).length ≤ 8 := h.2; omega))
              have q8 : decide ((8 : Int) < (Q : Int)) = true := decide_eq_true (by omega)
              clear hQ hin
              go_wp2_with fail
              refine (HIn.out _).mono ?_
              rintro e w2 ⟨rfl, h9⟩
              have KD2 := KD.below h9 hdlt
              have KB2 := KB1.below h9 KB1.lt
              have GB2 := GB1.trans (h9.mono GB1.size)
              have k0 := KD2.cell 0
              have b0 := KB2.cell 0
              have b1 := KB2.cell 1
              clear h9 KD KB1 GB1 GB c0 c1 c2 c3
              go_wp2_with fail
              refine (HCo.out _ GB2).mono ?_
              rintro e w3 ⟨rfl, h9⟩
              have BF := GB2.trans (h9.mono GB2.size)
              clear h9 k0 b0 b1 KB2 GB2 KD2
              go_wp2
              go_ret
              exact ⟨retI HV.out.symm, BF⟩
        · obtain rfl : n = i := by omega
          have HD : Hid (∀ (k : Nat) (x : Dom), ds[k]? = some x → dOk us x) := Lib.hid (fun k x hx => HA.out k x (by have := (List.getElem?_eq_some_iff.1 hx).1; have := HL.out.1; omega) hx)
          have b1 := KB.cell 1
          have HS := Lib.hid (And.intro KB GB)
          clear HA hi hlt KB GB
          go_wp2_with fail
          clear b1
          go_loopw [40] (fun iv wr => ∃ i : Nat, i ≤ m ∧ iv = .int .i64 (i : Int) ∧ Hid (∀ (k : Nat) (x : Vc), k < i → us[k]? = some x → vOk ds x) ∧ Blk wr w.heap.size 25 #[.slice A n c, .slice B m d] ∧ Below w.heap.size w wr) (fun iv _ => m - (intOf iv).toNat)
          case atStart => exact ⟨0, by omega, rfl, Lib.hid (fun k x h _ => by omega), HS.out.1, HS.out.2⟩
          case round =>
            clear HS
            obtain ⟨i, hi, rfl, HA, KB, GB⟩ := hrel
            by_cases hlt : i < m
            · obtain ⟨⟨y1, y2, y3, y4⟩, hx⟩ := elem_at (l := us) (k := i) (by rw [HL.out.2]; exact hlt)
              obtain ⟨bd, rfl, hb, c0, c1, c2, c3⟩ := vc_at (HR.out.vcs.below GB) hx
              have HX := Lib.hid hx
              have HU := HR.out.u.at_ hx
              have HAt := Lib.hid (fun (u : World) (h : Below w.heap.size w u) => dat_any A n c ds (some bd) m d us y2 u (HR.out.below h) HRi.out)
              have HMk := Lib.hid (fun (u : World) => mcheck_any y3 y4 u HU.1 HU.2)
              have j0 : (0 : Int) ≤ (i : Int) := by omega
              have j1 : (i : Int) < (m : Int) := by omega
              have KD := Blk.new wr 50 #[.int .i64 y1, .int .i64 y2, .int .u32 (y3 : Int), .int .u32 (y4 : Int)]
              have KB1 := KB.alloc (.cells #[.int .i64 y1, .int .i64 y2, .int .u32 (y3 : Int), .int .u32 (y4 : Int)] 50)
              have GB1 := GB.alloc GB.size (.cells #[.int .i64 y1, .int .i64 y2, .int .u32 (y3 : Int), .int .u32 (y4 : Int)] 50)
              have hdlt := KD.lt
              have k1 := KD.cell 1
              have b0 := KB1.cell 0
              have b1 := KB1.cell 1
              have b2 := KB.cell 1
              obtain ⟨L, hL⟩ : ∃ L, low ds y2 = L := ⟨_, rfl⟩
              rw [hL] at HAt
              clear hx KB hL HU
              cases hin : (kf ds y2).isSome with
              | false =>
                rw [hin] at HAt
                have HV := Lib.hid (vOk_no (ds := ds) HX.out (fun h => by have : (kf ds y2).isSome = true := h.1; rw [hin] at this; cases this))
                clear hin
                go_wp2_with fail
                refine (HAt.out _ GB1).mono ?_
                rintro e w2 ⟨rfl, h9⟩
                have BF := GB1.trans (h9.mono GB1.size)
                clear h9
                go_wp2
                go_ret
                exact ⟨retI HV.out.symm, BF⟩
              | true =>
                rw [hin] at HAt
                cases hmk : rightK y3 y4 with
                | false =>
                  rw [show maskE y3 y4 = 170 by unfold maskE; rw [hmk]; rfl] at HMk
                  have HV := Lib.hid (vOk_no (ds := ds) HX.out (fun h => by have : rightK y3 y4 = true := h.2; rw [hmk] at this; cases this))
                  clear hin hmk
                  go_wp2_with fail
                  refine (HAt.out _ GB1).mono ?_
                  rintro e w2 ⟨rfl, h9⟩
                  have KD2 := KD.below h9 hdlt
                  have GB2 := GB1.trans (h9.mono GB1.size)
                  have k3 := KD2.cell 2
                  have k4 := KD2.cell 3
                  clear h9 KD KB1 GB1 GB c0 c1 c2 c3 k1 b0 b1 b2
                  go_wp2_with fail
                  refine (HMk.out _).mono ?_
                  rintro e w3 ⟨rfl, h9⟩
                  have BF := GB2.trans (h9.mono GB2.size)
                  clear h9
                  go_wp2
                  go_ret
                  exact ⟨retI HV.out.symm, BF⟩
                | true =>
                  rw [show maskE y3 y4 = 0 by unfold maskE; rw [hmk]; rfl] at HMk
                  have HN : Hid (∀ (k : Nat) (x : Vc), k < i + 1 → us[k]? = some x → vOk ds x) := Lib.hid (fun k x hk hx => by
                    by_cases e : k = i
                    · subst e
                      rw [HX.out] at hx
                      injection hx with hx
                      subst hx
                      exact ⟨hin, hmk⟩
                    · exact HA.out k x (by omega) hx)
                  clear hin hmk
                  go_wp2_with fail
                  refine (HAt.out _ GB1).mono ?_
                  rintro e w2 ⟨rfl, h9⟩
                  have KD2 := KD.below h9 hdlt
                  have KB2 := KB1.below h9 KB1.lt
                  have GB2 := GB1.trans (h9.mono GB1.size)
                  have k3 := KD2.cell 2
                  have k4 := KD2.cell 3
                  clear h9 KD KB1 GB1 GB c0 c1 c2 c3 k1 b0 b1 b2
                  go_wp2_with fail
                  refine (HMk.out _).mono ?_
                  rintro e w3 ⟨rfl, h9⟩
                  have KB3 := KB2.below h9 KB2.lt
                  have GB3 := GB2.trans (h9.mono GB2.size)
                  clear h9 k3 k4 KB2 GB2 KD2
                  go_wp2
                  go_roundw
                  case rel => exact ⟨i + 1, by omega, by go_num, HN, KB3, GB3⟩
                  case measure => simp [intOf] <;> omega
            · obtain rfl : m = i := by omega
              have HV : Hid (chkG ds us = 0) := Lib.hid (right_of H8.out H16.out HD.out (fun k x hx => HA.out k x (by have := (List.getElem?_eq_some_iff.1 hx).1; have := HL.out.2; omega) hx))
              go_wp2
              go_ret
              exact ⟨retI HV.out.symm, GB⟩

set_option maxRecDepth 100000 in
set_option maxHeartbeats 2000000 in
theorem alone_any (a b c d : Int) (w : World) : Calls Try.prog 42 #[.agg #[.int .i64 a, .int .i64 b, .int .i64 c, .int .i64 d]] w (Said (.int .i64 (if rightD (a, b, c, d) = true then 0 else 2)) w) := by
  have K1 := (box1 w 27 #[.int .i64 a, .int .i64 b, .int .i64 c, .int .i64 d]).2
  obtain ⟨W, hW⟩ : ∃ W, w.alloc (.cells #[.int .i64 a, .int .i64 b, .int .i64 c, .int .i64 d] 27) = W := ⟨_, rfl⟩
  rw [hW] at K1
  have hs : W.heap.size = w.heap.size + 1 := by rw [← hW]; simp
  have hR := reads_new W 27 4 1 [.int .i64 a, .int .i64 b, .int .i64 c, .int .i64 d] rfl
  have HB := Lib.hid (K1.alloc K1.size (.cells #[.int .i64 a, .int .i64 b, .int .i64 c, .int .i64 d] 27))
  have HC := Lib.hid (gcheck_any (some ⟨W.heap.size, 0, none⟩) 1 1 [(a, b, c, d)] none 0 0 [] (W.alloc (.cells #[.int .i64 a, .int .i64 b, .int .i64 c, .int .i64 d] 27)) ⟨hR, Reads.none_, by omega, by omega, by omega, by omega, fun v hv => by cases hv⟩)
  unfold chkG at HC
  rw [right_alone, hs] at HC
  clear hR K1 hs
  subst hW
  cases hd : rightD (a, b, c, d) with
  | true =>
    rw [hd, if_pos rfl] at HC
    clear hd
    go_enter Try.func42, Try.ntmps42
    go_wp2_with fail
    refine HC.out.mono ?_
    rintro e w2 ⟨rfl, h9⟩
    have BF := HB.out.trans (h9.mono HB.out.size)
    clear h9
    go_wp2
    go_ret
    exact ⟨rfl, BF⟩
  | false =>
    rw [hd, if_neg (by simp)] at HC
    clear hd
    go_enter Try.func42, Try.ntmps42
    go_wp2_with fail
    refine HC.out.mono ?_
    rintro e w2 ⟨rfl, h9⟩
    have BF := HB.out.trans (h9.mono HB.out.size)
    clear h9
    go_wp2
    go_ret
    exact ⟨rfl, BF⟩

end Go.Proofs.Ytknimnopopnbhaa
