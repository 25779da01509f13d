/-
  Equal rows, the landed Same, the statements' near; who joins is near the top (mathematics). No statement is proved here.
-/
import Derived.Test.YtfgabmelmopgdaaVq
namespace Go.Proofs.Ytfgabmelmopgdaa
open Go.RowKit

set_option maxRecDepth 100000 in
set_option maxHeartbeats 4000000 in
theorem requal_self (A : Option Addr) (n c : Nat) (A' : Option Addr) (c' : Nat) (l : List Rn) (w : World) (hG : Reads w w.heap.size 5 A n (flat rv l)) (hG' : Reads w w.heap.size 5 A' n (flat rv l)) (hn : n ≤ 1000) :
    Calls Try.prog 34 #[.slice A n c, .slice A' n c'] w (Said (.bool true) w) := by
  have HL := Lib.hid (rns_len hG)
  have HR := Lib.hid hG
  have HR' := Lib.hid hG'
  clear hG hG'
  go_enter Try.func34, Try.ntmps34
  go_wp2_with fail
  go_loopw [13] (fun iv wr => ∃ k : Nat, k ≤ n ∧ iv = .int .i64 (k : Int) ∧ Below w.heap.size w wr) (fun iv _ => n - (intOf iv).toNat)
  case atStart => exact ⟨0, by omega, rfl, Below.refl _ _⟩
  case round =>
    obtain ⟨k, hk, rfl, hB⟩ := hrel
    by_cases hlt : k < n
    · obtain ⟨⟨a, b, h, l, x⟩, hm⟩ := elem_at (l := l) (k := k) (by rw [HL.out]; exact hlt)
      obtain ⟨ad, rfl, hb1, c0, c1, c2, c3, c4⟩ := rn_at (HR.out.below hB) hm
      obtain ⟨ad', rfl, hb2, d0, d1, d2, d3, d4⟩ := rn_at (HR'.out.below hB) hm
      have i1 : (0 : Int) ≤ (k : Int) := by omega
      have i2 : (k : Int) < (n : Int) := by omega
      clear hm hb1 hb2
      go_wp2_with fail
      go_quiet (fail)
      go_wp2
      go_roundw
      case rel => exact ⟨k + 1, by omega, by go_num, below_drewN hB _⟩
      case measure => simp [intOf]; omega
    · obtain rfl : k = n := by omega
      go_wp2
      go_ret
      exact ⟨rfl, hB⟩

set_option maxRecDepth 100000 in
set_option maxHeartbeats 2000000 in
theorem same_self (A : Option Addr) (n c : Nat) (A' : Option Addr) (c' : Nat) (l : List Rn) (w : World) (hG : QR w A n c l) (hG' : QR w A' n c' l) : Calls Try.prog 13 #[.agg #[.slice A n c], .agg #[.slice A' n c']] w (Said (.bool true) w) := by
  obtain ⟨K0, K1, GB⟩ := blks2 w 26 26 #[.slice A n c] #[.slice A' n c']
  have HE := Lib.hid (fun (u : World) (h : Below w.heap.size w u) => requal_self A n c A' c' l u (hG.below h).row (hG'.below h).row hG.small)
  have z0 := K0.cell 0
  have z1 := K1.cell 0
  clear K0 K1 hG hG'
  go_enter Try.func13, Try.ntmps13
  go_wp2_with fail
  refine (HE.out _ GB).mono ?_
  rintro e w1 ⟨rfl, h9⟩
  replace GB := GB.trans (h9.mono GB.size)
  clear h9 z0 z1
  go_wp2
  go_ret
  exact ⟨rfl, GB⟩
theorem behind_call (h l x p q y k : Nat) (u : World) (hh : h < 2 ^ 64) (hl : l < 2 ^ 64) (hx : x < 2 ^ 64) (hp : p < 2 ^ 64) (hq : q < 2 ^ 64) (hy : y < 2 ^ 64) (hk : k < 2 ^ 64) :
    Calls Try.prog 26 #[.agg #[.int .u64 (h : Int), .int .u64 (l : Int), .int .u64 (x : Int)], .agg #[.int .u64 (p : Int), .int .u64 (q : Int), .int .u64 (y : Int)], .int .u64 (k : Int)] u (Said (.bool (behindB (h * 2 ^ 64 + l) x (p * 2 ^ 64 + q) y k)) u) := by
  have r := behind_ok (h * 2 ^ 64 + l) x (p * 2 ^ 64 + q) y k u (by omega) hx (by omega) hy hk
  rw [fq_of hl, fq_of hq] at r
  exact r

set_option maxRecDepth 100000 in
set_option maxHeartbeats 8000000 in
theorem near_yes (h l x p q y : Nat) (w : World) (hh : h < 2 ^ 64) (hl : l < 2 ^ 64) (hp : p < 2 ^ 64) (hq : q < 2 ^ 64) (h1 : rightN (h * 2 ^ 64 + l) x = true) (h2 : rightN (p * 2 ^ 64 + q) y = true)
    (hb : ¬ (h * 2 ^ 64 + l) * y + 268435456 * x * y < (p * 2 ^ 64 + q) * x) (hc : h * 2 ^ 64 + l ≠ 0 → (h * 2 ^ 64 + l - 1) * y < (p * 2 ^ 64 + q) * x) :
    Calls Try.prog 22 #[.agg #[.int .u64 (h : Int), .int .u64 (l : Int), .int .u64 (x : Int)], .agg #[.int .u64 (p : Int), .int .u64 (q : Int), .int .u64 (y : Int)]] w (Said (.bool true) w) := by
  have hx := rightN_true h1
  have hy := rightN_true h2
  have D1 := Lib.hid (fun (u : World) => less_call h l x 1 u hh hl (by omega) (by omega))
  have hbb : behindB (h * 2 ^ 64 + l) x (p * 2 ^ 64 + q) y 268435456 = false := by
    unfold behindB
    rw [h1, h2, decide_eq_false hb]
    rfl
  have B1 : Hid (∀ u, Calls Try.prog 26 #[.agg #[.int .u64 (h : Int), .int .u64 (l : Int), .int .u64 (x : Int)], .agg #[.int .u64 (p : Int), .int .u64 (q : Int), .int .u64 (y : Int)], .int .u64 268435456] u (Said (.bool false) u)) := Lib.hid (fun u => by
    have r := behind_call h l x p q y 268435456 u hh hl (by omega) hp hq (by omega) (by omega)
    rw [hbb] at r
    exact r)
  obtain ⟨M, hM⟩ : ∃ M, h * 2 ^ 64 + l = M := ⟨_, rfl⟩
  obtain ⟨T, hT⟩ : ∃ T, p * 2 ^ 64 + q = T := ⟨_, rfl⟩
  rw [hM] at D1 hx h1 hc
  rw [hT] at hy h2 hc
  rw [show lessR M x 1 = (M - 1, x, 0) by unfold lessR; rw [if_pos h1]] at D1
  simp only [fe_cells] at D1
  have hm1 : M - 1 < 2 ^ 100 := Nat.lt_of_le_of_lt (Nat.sub_le _ _) hx.2.2
  obtain ⟨th, hth⟩ : ∃ k, (M - 1) / 2 ^ 64 = k := ⟨_, rfl⟩
  obtain ⟨tl, htl⟩ : ∃ k, (M - 1) % 2 ^ 64 = k := ⟨_, rfl⟩
  rw [hth, htl] at D1
  have htm := split_eq hth htl
  have htb := split_lt hm1 hth htl
  have C2 := Lib.hid (fun (u : World) => cmp_call th tl x p q y u htb.1 htb.2 (by omega) hp hq (by omega))
  rw [htm, hT, cmpR_yes (rightN_yes hx.1 hx.2.1 hm1) h2] at C2
  obtain ⟨q2, hq2⟩ : ∃ k, cmpW ((M - 1) * y) (T * x) = k := ⟨_, rfl⟩
  rw [hq2] at C2
  have HB2 : Hid (M ≠ 0 → decide (q2 < 0) = true) := Lib.hid (fun h0 => by rw [← hq2, cmpW_lt (hc h0)]; rfl)
  have HM0 := Lib.hid hM
  obtain ⟨K0, K1, GB⟩ := blks2 w 36 36 #[.int .u64 (h : Int), .int .u64 (l : Int), .int .u64 (x : Int)] #[.int .u64 (p : Int), .int .u64 (q : Int), .int .u64 (y : Int)]
  clear hx hy hbb hM hT hc hb h1 h2 hm1 hth htl htm htb hq2 hh hl hp hq
  go_enter Try.func22, Try.ntmps22
  have zK00 := K0.cell 0
  have zK01 := K0.cell 1
  have zK02 := K0.cell 2
  go_wp2_with fail
  refine (D1.out _).mono ?_
  rintro e w1 ⟨rfl, h9⟩
  clear D1
  replace K0 := K0.below h9 K0.lt
  replace K1 := K1.below h9 K1.lt
  replace GB := GB.trans (h9.mono GB.size)
  clear h9
  clear zK00 zK01 zK02
  have K5 := Blk.new w1 36 #[.int .u64 (th : Int), .int .u64 (tl : Int), .int .u64 (x : Int)]
  replace K0 := K0.alloc (.cells #[.int .u64 (th : Int), .int .u64 (tl : Int), .int .u64 (x : Int)] 36)
  replace K1 := K1.alloc (.cells #[.int .u64 (th : Int), .int .u64 (tl : Int), .int .u64 (x : Int)] 36)
  replace GB := GB.alloc GB.size (.cells #[.int .u64 (th : Int), .int .u64 (tl : Int), .int .u64 (x : Int)] 36)
  have zK00 := K0.cell 0
  have zK01 := K0.cell 1
  have zK02 := K0.cell 2
  have zK10 := K1.cell 0
  have zK11 := K1.cell 1
  have zK12 := K1.cell 2
  go_wp2_with fail
  refine (B1.out _).mono ?_
  rintro e w2 ⟨rfl, h9⟩
  clear B1
  replace K0 := K0.below h9 K0.lt
  replace K1 := K1.below h9 K1.lt
  replace K5 := K5.below h9 K5.lt
  replace GB := GB.trans (h9.mono GB.size)
  clear h9
  clear zK00 zK01 zK02 zK10 zK11 zK12
  have zK00 := K0.cell 0
  have zK01 := K0.cell 1
  have zK02 := K0.cell 2
  have zK10 := K1.cell 0
  have zK11 := K1.cell 1
  have zK12 := K1.cell 2
  have zK50 := K5.cell 0
  have zK51 := K5.cell 1
  have zK52 := K5.cell 2
  by_cases hs : h = 0
  · have c1 : ((h : Int) == 0) = true := by rw [hs]; rfl
    by_cases ht : l = 0
    · have c2 : ((l : Int) == 0) = true := by rw [ht]; rfl
      clear hs ht
      go_wp2
      go_ret
      exact ⟨rfl, GB⟩
    · have c2 : ((l : Int) == 0) = false := by simp; omega
      have c3 := HB2.out (by rw [← HM0.out]; omega)
      clear hs ht
      go_wp2_with fail
      refine (C2.out _).mono ?_
      rintro r w3 ⟨rfl, h9⟩
      go_wp2
      go_ret
      exact ⟨rfl, GB.trans (h9.mono GB.size)⟩
  · have c1 : ((h : Int) == 0) = false := by simp; omega
    have c3 := HB2.out (by rw [← HM0.out]; omega)
    clear hs
    go_wp2_with fail
    refine (C2.out _).mono ?_
    rintro r w3 ⟨rfl, h9⟩
    go_wp2
    go_ret
    exact ⟨rfl, GB.trans (h9.mono GB.size)⟩

/-! ### who joins -/
theorem join_one {l : List Rn} {r : Rn} {boost : Nat} (h : (joinQS l r boost).2 = 0) : RQ l ∧ rightR r = true ∧ kf l r.1 = none ∧ boost ≤ 10000000 := by
  unfold joinQS addQ at h
  obtain ⟨bb, hbb⟩ : ∃ b, decide (boost ≤ 10000000) = b := ⟨_, rfl⟩
  obtain ⟨X, hX⟩ : ∃ X, addedQ l r boost = X := ⟨_, rfl⟩
  rw [hbb, hX] at h
  by_cases hu : unfitQ l (bb && rightR r) = 0
  · rw [if_pos hu] at h
    have hz : rightQ l = true ∧ (bb && rightR r) = true := by
      unfold unfitQ at hu
      cases h1 : rightQ l <;> cases h2 : (bb && rightR r) <;> simp [h1, h2] at hu ⊢
    rw [Bool.and_eq_true] at hz
    cases hk : kf l r.1 with
    | none => exact ⟨rightQ_iff.1 hz.1, hz.2.2, rfl, of_decide_eq_true (hbb.trans hz.2.1)⟩
    | some s =>
      rw [hk, if_pos (show (some s).isSome = true from rfl)] at h
      exact absurd h (by decide)
  · rw [if_neg hu] at h
    exact (hu h).elim
theorem join_none {l : List Rn} {r : Rn} {boost : Nat} (h : (joinQS l r boost).2 ≠ 0) : (joinQS l r boost).1 = [] := by
  unfold joinQS addQ at h ⊢
  obtain ⟨u, hu⟩ : ∃ u, unfitQ l (decide (boost ≤ 10000000) && rightR r) = u := ⟨_, rfl⟩
  rw [hu] at h ⊢
  by_cases h0 : u = 0
  · rw [if_pos h0] at h ⊢
    by_cases hk : (kf l r.1).isSome = true
    · rw [if_pos hk]
    · rw [if_neg hk] at h ⊢
      unfold addedQ at h ⊢
      by_cases h1 : l.length = 0
      · rw [if_pos h1] at h
        exact (h rfl).elim
      · rw [if_neg h1] at h ⊢
        by_cases h2 : joinT l r < 2 ^ 100
        · rw [if_pos h2] at h
          exact (h rfl).elim
        · rw [if_neg h2]
  · rw [if_neg h0]
theorem halves_eq {a b c d : Nat} (hb : b < 2 ^ 64) (hd : d < 2 ^ 64) (h : a * 2 ^ 64 + b = c * 2 ^ 64 + d) : a = c ∧ b = d := by omega
theorem held_le {t low top : Nat} (h : low ≤ top) : low ≤ heldN t low top ∧ heldN t low top ≤ top := by
  unfold heldN
  split
  · exact ⟨Nat.le_refl _, h⟩
  · split
    · exact ⟨h, Nat.le_refl _⟩
    · omega
theorem held_in {t low top : Nat} (h1 : low ≤ t) (h2 : t ≤ top) : heldN t low top = t := by
  unfold heldN
  rw [if_neg (by omega), if_neg (by omega)]
theorem over_exact {T x N z : Nat} (hz : 0 < z) (h : N * z = T * x) : overW T x z = N := by
  unfold overW
  rw [← h, Nat.mul_mod_left, if_pos rfl, Nat.mul_div_cancel _ hz]
  rfl
/-- the numbers: near the top, at it without a boost, as it was where it was at it -/
theorem near_num {T x z N low m y : Nat} (hz : 0 < z) (hl : low = overW T x z - m) (hm : m ≤ 268435456 * x) (hy : y = heldN N low (overW T x z)) :
    ¬ (y * z + 268435456 * x * z < T * x) ∧ (y ≠ 0 → (y - 1) * z < T * x) ∧ (N * z = T * x → y = N) ∧ y ≤ overW T x z := by
  have hlt : low ≤ overW T x z := by omega
  have hy2 := held_le (t := N) hlt
  rw [← hy] at hy2
  have hge := over_ge (n := T) (m := x) hz
  refine ⟨?_, fun h0 => ?_, fun he => ?_, hy2.2⟩
  · have h5 : overW T x z ≤ y + 268435456 * x := by omega
    have h6 := Nat.mul_le_mul_right z h5
    rw [Nat.add_mul] at h6
    omega
  · have h5 := over_lt (n := T) (m := x) hz (by omega)
    have h6 : (y - 1) * z ≤ (overW T x z - 1) * z := Nat.mul_le_mul_right _ (by omega)
    omega
  · have h5 := over_exact hz he
    rw [hy]
    exact held_in (by omega) (by omega)

end Go.Proofs.Ytfgabmelmopgdaa
