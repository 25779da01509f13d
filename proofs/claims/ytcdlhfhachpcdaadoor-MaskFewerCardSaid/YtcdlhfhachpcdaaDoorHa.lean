/-
  MaskHall's walk. No statement is proved here.
-/
import Derived.Test.YtcdlhfhachpcdaaDoorMz
namespace Go.Proofs.YtcdlhfhachpcdaaDoor
open Go.RowKit

theorem and_one (k j : Nat) : bits .and .i64 ((k : Int) / 2 ^ j) 1 = if k.testBit j = true then 1 else 0 := by
  have h127 : (BitVec.ofInt 64 1).toNat = 2 ^ 1 - 1 := by decide
  have key : ∀ n : Int, bits .and .i64 n 1 = n % 2 := fun n => by
    have h1 : (BitVec.ofInt 64 n &&& BitVec.ofInt 64 1).toNat = (n % ((2 ^ 64 : Nat) : Int)).toNat % 2 ^ 1 := by
      rw [BitVec.toNat_and, BitVec.toNat_ofInt, h127, Nat.and_two_pow_sub_one_eq_mod]
    show IntKind.i64.wrap ((BitVec.ofInt 64 n &&& BitVec.ofInt 64 1).toNat : Nat) = n % 2
    rw [h1, IntKind.wrap_i64]
    omega
  rw [key]
  have h2 : ((k : Int) / 2 ^ j) % 2 = ((k / 2 ^ j % 2 : Nat) : Int) := by push_cast; rfl
  rw [h2, shift_bit]
  split <;> rfl
def popB (x : Nat) : Bool := (mem (x : Int)).length == popN x
theorem pop_all : (List.range 256).all popB = true := by kernel_rfl
theorem pop_mem {x : Nat} (h : x < 256) : (mem (x : Int)).length = popN x := by
  have := of_all 256 pop_all h
  unfold popB at this
  simpa using this
theorem count_pop {a : Nat} (h : a < 256) (u : World) : Calls Tryd.prog 26 #[.int .u32 (a : Int)] u (Draws (.int .i64 (popN a : Int)) u) := by
  have := count_any (a : Int) u (by omega) (by omega)
  rwa [pop_mem h] at this
theorem has_nat {a k : Nat} (h : a < 256) (hk : k < 8) : Tells 27 #[.int .u32 (a : Int), .int .i64 (k : Int)] (.bool (a.testBit k)) := Tells.of_same fun u => by
  have := has_any (a : Int) (k : Int) u (by omega) (by omega)
  rwa [has_bit hk] at this
theorem or_nat {a b : Nat} (ha : a < 256) (hb : b < 256) : bits .or .u32 (a : Int) (b : Int) = ((a ||| b : Nat) : Int) := by
  rw [u32_or _ _ (by omega) (by omega) (by omega) (by omega), Int.toNat_natCast, Int.toNat_natCast]
theorem ints_of {W : List Nat} {k : Nat} {z : Int} (h : (ints W)[k]? = some z) : ∃ c : Nat, z = (c : Int) ∧ W[k]? = some c := by
  unfold ints at h
  rw [List.getElem?_map] at h
  cases hc : W[k]? with
  | none => rw [hc] at h; cases h
  | some c => rw [hc] at h; exact ⟨c, by simpa using h.symm, rfl⟩
/-- what was met so far -/
def Met (W : List Nat) (M k : Nat) : Prop := M < 256 ∧ ∀ b, M.testBit b = true → ∃ i, i < k ∧ W[i]? = some b
theorem met_step {W : List Nat} {M k c : Nat} (h : Met W M k) (hc : c < 8) (hk : W[k]? = some c) : Met W (M ||| 2 ^ c) (k + 1) := by
  have hp : (2 : Nat) ^ c < 2 ^ 8 := Nat.pow_lt_pow_right (by omega) hc
  refine ⟨Nat.or_lt_two_pow (n := 8) h.1 hp, fun b hb => ?_⟩
  rw [Nat.testBit_or, Bool.or_eq_true] at hb
  rcases hb with hb | hb
  · obtain ⟨i, hi, he⟩ := h.2 b hb
    exact ⟨i, by omega, he⟩
  · rw [Nat.testBit_two_pow, decide_eq_true_eq] at hb
    subst hb
    exact ⟨k, by omega, hk⟩
theorem two_nat {c : Nat} : ((2 : Int) ^ c) = ((2 ^ c : Nat) : Int) := by push_cast; rfl

set_option maxRecDepth 100000 in
set_option maxHeartbeats 16000000 in
theorem hall_yes (A : Option Addr) (N C P : Nat) (L : List (Int × Int)) (S : Nat) (H W : List Nat) (w : World) (h10 : (N : Int) ≤ 10) (hR : Hid (Reads w w.heap.size 2 A N (mvs L))) (HL : Hid (L.length = N)) (HHl : Hid (H.length = N)) (H8 : Hid (S < 256)) (hP : IntKind.i64.wrap ((2 : Int) ^ N) = (P : Int)) (P1 : (P : Int) ≤ 1024) (HP : Hid (hallB H S P = true)) (hlen : Hid (W.length = N))
    (HW : Hid ((∀ (k c : Nat), W[k]? = some c → c < 8 ∧ (H.getD k 0 &&& S).testBit c = true) ∧ ∀ (i j c : Nat), i < j → W[i]? = some c → W[j]? = some c → False))
    (HD : Hid (Db w))
    (HK : Hid (TellsD 8 #[] (.bool true)))
    (HA : Hid (∀ (k : Nat) (x y : Int), L[k]? = some (x, y) → Tells 13 #[.agg #[.int .u32 x, .int .u32 y], .int .u32 (S : Int)] (.int .u32 ((H.getD k 0 &&& S : Nat) : Int))))
    (HC : Hid (∀ u : World, Below w.heap.size w u → Calls Tryd.prog 19 #[.slice A N C, .int .u32 (S : Int)] u (GetsL (ints W, 0) u))) :
    Calls Tryd.prog 5 #[.slice A N C, .int .u32 (S : Int)] w (Said (.bool true) w) := by
  go_enter Tryd.func5, Tryd.ntmps5
  go_wp2_with fail
  refine (HK.out _ HD.out).mono ?_
  rintro e w1 ⟨rfl, B1⟩
  go_wp2_with fail
  refine (HC.out _ B1).mono ?_
  rintro e w2 ⟨A3, n3, c3, rfl, hn3, hc3, r3, h9⟩
  have B2 := B1.trans (h9.mono B1.size)
  clear h9 B1
  obtain rfl : N = n3 := by rw [hn3, length_ints, hlen.out]
  have HR3 := Lib.hid r3
  clear hn3 r3
  have HX := Lib.hid (fun (u : World) (h : Below w2.heap.size w2 u) => B2.trans (h.mono B2.size))
  clear B2
  go_wp2_with fail
  go_loopw [7, 41] (fun v i wr => ∃ k : Nat, k ≤ P ∧ i = .int .i64 (k : Int) ∧ v = .bool (hallB H S k) ∧ Below w2.heap.size w2 wr) (fun _ i _ => P - (intOf i).toNat)
  case atStart => exact ⟨0, by omega, rfl, rfl, Below.refl _ _⟩
  case round =>
    obtain ⟨k, hk, rfl, rfl, Br⟩ := hrel
    by_cases hlt : k < P
    · obtain ⟨q, hq⟩ : ∃ q, hallB H S k = q := ⟨_, rfl⟩
      have HQ := Lib.hid hq
      rw [hq]
      clear hq
      have k0 : (0 : Int) ≤ (k : Int) := by omega
      have k1 : (k : Int) ≤ 1024 := by omega
      go_wp2_with fail
      go_loopw [9, 10, 46] (fun v a i wr => ∃ (j g x : Nat), j ≤ N ∧ i = .int .i64 (j : Int) ∧ v = .int .i64 (g : Int) ∧ a = .int .u32 (x : Int) ∧ Hid (g = manyN k j ∧ x = orN H S k j) ∧ g ≤ 10 ∧ Below w2.heap.size w2 wr) (fun _ _ i _ => N - (intOf i).toNat)
      case atStart => exact ⟨0, 0, 0, by omega, rfl, rfl, rfl, Lib.hid ⟨rfl, rfl⟩, by omega, Br⟩
      case round =>
        clear Br
        obtain ⟨j, g, x, hj, rfl, rfl, rfl, HG, g10, Br⟩ := hrel
        by_cases hjt : j < N
        · obtain ⟨⟨mx, my⟩, hm⟩ := elem_at (l := L) (k := j) (by rw [HL.out]; exact hjt)
          obtain ⟨ad, rfl, hb, d0, d1⟩ := mask_at (hR.out.below (HX.out _ Br)) hm
          have HXm := Lib.hid (HA.out j mx my hm)
          have j0 : (0 : Int) ≤ (j : Int) := by omega
          have j1 : (j : Int) ≤ 64 := by omega
          have ha := and_one k j
          have g9 : g ≤ j := by rw [HG.out.1]; exact many_le k j
          have hsz := Br.size
          have B3 := Br.alloc hsz (.cells #[.int .u32 mx, .int .u32 my] 25)
          clear hm Br
          cases ht : k.testBit j with
          | true =>
            rw [ht, if_pos rfl] at ha
            have HN : Hid (g + 1 = manyN k (j + 1) ∧ x ||| (H.getD j 0 &&& S) = orN H S k (j + 1)) := Lib.hid ⟨by rw [many_yes ht, HG.out.1], by rw [or_yes ht, HG.out.2]⟩
            have hx : x < 256 := by rw [HG.out.2]; exact or_small H8.out j
            have hal : H.getD j 0 &&& S < 256 := Nat.lt_of_le_of_lt Nat.and_le_right H8.out
            have ho := or_nat hx hal
            clear hx hal ht
            generalize H.getD j 0 &&& S = al at *
            go_wp2_with fail
            refine (HXm.out _).mono ?_
            rintro e w5 ⟨rfl, h9⟩
            have B4 := Lib.hid (B3.trans (h9.mono B3.size))
            clear h9 B3 d0 d1 ha
            go_wp2
            go_roundw
            case rel => exact ⟨j + 1, g + 1, x ||| al, by omega, by go_num, by go_num, by simp, HN, by omega, B4.out⟩
            case measure => simp [intOf] <;> omega
          | false =>
            rw [ht, if_neg (by simp)] at ha
            have HN : Hid (g = manyN k (j + 1) ∧ x = orN H S k (j + 1)) := Lib.hid ⟨by rw [many_no ht, HG.out.1], by rw [or_no ht, HG.out.2]⟩
            clear ht
            go_wp2
            go_roundw
            case rel => exact ⟨j + 1, g, x, by omega, by go_num, rfl, rfl, HN, by omega, B3⟩
            case measure => simp [intOf] <;> omega
        · obtain rfl : N = j := by omega
          have HV : Hid (hallB H S (k + 1) = (q && decide (g ≤ popN x))) := Lib.hid (by
            have hHN : H.length = N := HHl.out
            show (hallB H S k && decide (manyN k H.length ≤ popN (orN H S k H.length))) = _
            rw [HQ.out, hHN, ← HG.out.1, ← HG.out.2])
          have hx : x < 256 := by rw [HG.out.2]; exact or_small H8.out N
          have HCt := Lib.hid (fun u => count_pop hx u)
          clear hx HG
          cases q with
          | true =>
            go_wp2_with fail
            refine (HCt.out _).mono ?_
            rintro e w5 ⟨rfl, m9, rfl⟩
            have B9 := Lib.hid (below_drewN Br m9)
            clear Br
            generalize popN x = y at *
            have hz : decide ((g : Int) ≤ (y : Int)) = decide (g ≤ y) := by
              by_cases h : g ≤ y
              · rw [decide_eq_true h, decide_eq_true (by omega)]
              · rw [decide_eq_false h, decide_eq_false (by omega)]
            go_wp2
            go_roundw
            case rel => exact ⟨k + 1, by omega, by go_num, by rw [HV.out]; simp, B9.out⟩
            case measure => simp [intOf] <;> omega
          | false =>
            go_wp2
            go_roundw
            case rel => exact ⟨k + 1, by omega, by go_num, by rw [HV.out]; rfl, Br⟩
            case measure => simp [intOf] <;> omega
    · obtain rfl : P = k := by omega
      have hv := HP.out
      rw [hv]
      clear hv
      go_wp2_with fail
      go_loopw [13, 78] (fun v i wr => ∃ (j M : Nat), j ≤ N ∧ i = .int .i64 (j : Int) ∧ v = .int .u32 (M : Int) ∧ Hid (Met W M j) ∧ Below w2.heap.size w2 wr) (fun _ i _ => N - (intOf i).toNat)
      case atStart => exact ⟨0, 0, by omega, rfl, rfl, Lib.hid ⟨by omega, fun b hb => by simp at hb⟩, Br⟩
      case round =>
        clear Br
        obtain ⟨j, M, hj, rfl, rfl, HM, Br⟩ := hrel
        by_cases hjt : j < N
        · obtain ⟨⟨mx, my⟩, hm⟩ := elem_at (l := L) (k := j) (by rw [HL.out]; exact hjt)
          obtain ⟨ad, rfl, hb, d0, d1⟩ := mask_at (hR.out.below (HX.out _ Br)) hm
          obtain ⟨ad', v', rfl, _, hx', hc'⟩ := (HR3.out.below Br).at_ hjt
          obtain ⟨z, hz', rfl⟩ := vs_at hx'
          obtain ⟨c, rfl, hWc⟩ := ints_of hz'
          obtain ⟨c8, hcb⟩ := HW.out.1 j c hWc
          have HXm := Lib.hid (HA.out j mx my hm)
          have hal : H.getD j 0 &&& S < 256 := Nat.lt_of_le_of_lt Nat.and_le_right H8.out
          have HH1 := Lib.hid (has_nat hal c8)
          rw [hcb] at HH1
          have HH2 := Lib.hid (has_nat HM.out.1 c8)
          rw [show M.testBit c = false by
            cases hq : M.testBit c with
            | false => rfl
            | true =>
              obtain ⟨i, hi, he⟩ := HM.out.2 c hq
              exact (HW.out.2 i j c hi he hWc).elim] at HH2
          have HN := Lib.hid (met_step HM.out c8 hWc)
          have hp2 : (2 : Nat) ^ c < 256 := Nat.pow_lt_pow_right (m := c) (n := 8) (by omega) c8
          have ho := or_nat HM.out.1 hp2
          rw [← two_nat] at ho
          have hw : IntKind.u32.wrap ((2 : Int) ^ c) = 2 ^ c := wrap_two (by omega)
          have j0 : (0 : Int) ≤ (j : Int) := by omega
          have c0 : (0 : Int) ≤ (c : Int) := by omega
          have c32 : (c : Int) ≤ 32 := by omega
          clear hm hx' hz' hWc hal hcb hp2 c8
          generalize H.getD j 0 &&& S = al at *
          go_wp2_with fail
          refine (HXm.out _).mono ?_
          rintro e w5 ⟨rfl, h9⟩
          have B4 := Br.trans (h9.mono Br.size)
          clear h9 Br d0 d1 hc'
          go_wp2_with fail
          refine (HH1.out _).mono ?_
          rintro e w6 ⟨rfl, h9⟩
          have B5 := B4.trans (h9.mono B4.size)
          clear h9 B4
          go_wp2_with fail
          refine (HH2.out _).mono ?_
          rintro e w7 ⟨rfl, h9⟩
          have B6 := Lib.hid (B5.trans (h9.mono B5.size))
          clear h9 B5
          go_wp2
          go_roundw
          case rel => exact ⟨j + 1, _, by omega, by go_num, by simp, HN, B6.out⟩
          case measure => simp [intOf] <;> omega
        · obtain rfl : N = j := by omega
          have B9 := Lib.hid (HX.out _ Br)
          clear Br
          go_wp2
          go_ret
          exact ⟨rfl, B9.out⟩

set_option maxRecDepth 100000 in
set_option maxHeartbeats 16000000 in
theorem hall_yes_long (ad : Addr) (M0 N C P : Nat) (hM : (10 : Int) < (M0 : Int)) (HT : Hid (N = 10)) (hC : (10 : Int) ≤ (C : Int)) (L : List (Int × Int)) (S : Nat) (H W : List Nat) (w : World) (h10 : (N : Int) ≤ 10) (hR : Hid (Reads w w.heap.size 2 (some ad) N (mvs L))) (HL : Hid (L.length = N)) (HHl : Hid (H.length = N)) (H8 : Hid (S < 256)) (hP : IntKind.i64.wrap ((2 : Int) ^ N) = (P : Int)) (P1 : (P : Int) ≤ 1024) (HP : Hid (hallB H S P = true)) (hlen : Hid (W.length = N))
    (HW : Hid ((∀ (k c : Nat), W[k]? = some c → c < 8 ∧ (H.getD k 0 &&& S).testBit c = true) ∧ ∀ (i j c : Nat), i < j → W[i]? = some c → W[j]? = some c → False))
    (HD : Hid (Db w))
    (HK : Hid (TellsD 8 #[] (.bool true)))
    (HA : Hid (∀ (k : Nat) (x y : Int), L[k]? = some (x, y) → Tells 13 #[.agg #[.int .u32 x, .int .u32 y], .int .u32 (S : Int)] (.int .u32 ((H.getD k 0 &&& S : Nat) : Int))))
    (HC : Hid (∀ u : World, Below w.heap.size w u → Calls Tryd.prog 19 #[.slice (some ad) N C, .int .u32 (S : Int)] u (GetsL (ints W, 0) u))) :
    Calls Tryd.prog 5 #[.slice (some ad) M0 C, .int .u32 (S : Int)] w (Said (.bool true) w) := by
  go_enter Tryd.func5, Tryd.ntmps5
  go_wp2_with fail
  refine (HK.out _ HD.out).mono ?_
  rintro e w1 ⟨rfl, B1⟩
  go_wp2_with fail
  rw [show (Value.slice (some ad) 10 C) = .slice (some ad) N C by rw [HT.out]]
  refine (HC.out _ B1).mono ?_
  rintro e w2 ⟨A3, n3, c3, rfl, hn3, hc3, r3, h9⟩
  have B2 := B1.trans (h9.mono B1.size)
  clear h9 B1
  obtain rfl : N = n3 := by rw [hn3, length_ints, hlen.out]
  have HR3 := Lib.hid r3
  clear hn3 r3
  have HX := Lib.hid (fun (u : World) (h : Below w2.heap.size w2 u) => B2.trans (h.mono B2.size))
  clear B2
  go_wp2_with fail
  go_loopw [7, 41] (fun v i wr => ∃ k : Nat, k ≤ P ∧ i = .int .i64 (k : Int) ∧ v = .bool (hallB H S k) ∧ Below w2.heap.size w2 wr) (fun _ i _ => P - (intOf i).toNat)
  case atStart => exact ⟨0, by omega, rfl, rfl, Below.refl _ _⟩
  case round =>
    obtain ⟨k, hk, rfl, rfl, Br⟩ := hrel
    by_cases hlt : k < P
    · obtain ⟨q, hq⟩ : ∃ q, hallB H S k = q := ⟨_, rfl⟩
      have HQ := Lib.hid hq
      rw [hq]
      clear hq
      have k0 : (0 : Int) ≤ (k : Int) := by omega
      have k1 : (k : Int) ≤ 1024 := by omega
      go_wp2_with fail
      go_loopw [9, 10, 46] (fun v a i wr => ∃ (j g x : Nat), j ≤ N ∧ i = .int .i64 (j : Int) ∧ v = .int .i64 (g : Int) ∧ a = .int .u32 (x : Int) ∧ Hid (g = manyN k j ∧ x = orN H S k j) ∧ g ≤ 10 ∧ Below w2.heap.size w2 wr) (fun _ _ i _ => N - (intOf i).toNat)
      case atStart => exact ⟨0, 0, 0, by omega, rfl, rfl, rfl, Lib.hid ⟨rfl, rfl⟩, by omega, Br⟩
      case round =>
        clear Br
        obtain ⟨j, g, x, hj, rfl, rfl, rfl, HG, g10, Br⟩ := hrel
        by_cases hjt : j < N
        · obtain ⟨⟨mx, my⟩, hm⟩ := elem_at (l := L) (k := j) (by rw [HL.out]; exact hjt)
          obtain ⟨ad2, e2, hb, d0, d1⟩ := mask_at (hR.out.below (HX.out _ Br)) hm
          obtain rfl := Option.some.inj e2
          clear e2
          have HXm := Lib.hid (HA.out j mx my hm)
          have j0 : (0 : Int) ≤ (j : Int) := by omega
          have j1 : (j : Int) ≤ 64 := by omega
          have ha := and_one k j
          have g9 : g ≤ j := by rw [HG.out.1]; exact many_le k j
          have hsz := Br.size
          have B3 := Br.alloc hsz (.cells #[.int .u32 mx, .int .u32 my] 25)
          clear hm Br
          cases ht : k.testBit j with
          | true =>
            rw [ht, if_pos rfl] at ha
            have HN : Hid (g + 1 = manyN k (j + 1) ∧ x ||| (H.getD j 0 &&& S) = orN H S k (j + 1)) := Lib.hid ⟨by rw [many_yes ht, HG.out.1], by rw [or_yes ht, HG.out.2]⟩
            have hx : x < 256 := by rw [HG.out.2]; exact or_small H8.out j
            have hal : H.getD j 0 &&& S < 256 := Nat.lt_of_le_of_lt Nat.and_le_right H8.out
            have ho := or_nat hx hal
            clear hx hal ht
            generalize H.getD j 0 &&& S = al at *
            go_wp2_with fail
            refine (HXm.out _).mono ?_
            rintro e w5 ⟨rfl, h9⟩
            have B4 := Lib.hid (B3.trans (h9.mono B3.size))
            clear h9 B3 d0 d1 ha
            go_wp2
            go_roundw
            case rel => exact ⟨j + 1, g + 1, x ||| al, by omega, by go_num, by go_num, by simp, HN, by omega, B4.out⟩
            case measure => simp [intOf] <;> omega
          | false =>
            rw [ht, if_neg (by simp)] at ha
            have HN : Hid (g = manyN k (j + 1) ∧ x = orN H S k (j + 1)) := Lib.hid ⟨by rw [many_no ht, HG.out.1], by rw [or_no ht, HG.out.2]⟩
            clear ht
            go_wp2
            go_roundw
            case rel => exact ⟨j + 1, g, x, by omega, by go_num, rfl, rfl, HN, by omega, B3⟩
            case measure => simp [intOf] <;> omega
        · obtain rfl : N = j := by omega
          have HV : Hid (hallB H S (k + 1) = (q && decide (g ≤ popN x))) := Lib.hid (by
            have hHN : H.length = N := HHl.out
            show (hallB H S k && decide (manyN k H.length ≤ popN (orN H S k H.length))) = _
            rw [HQ.out, hHN, ← HG.out.1, ← HG.out.2])
          have hx : x < 256 := by rw [HG.out.2]; exact or_small H8.out N
          have HCt := Lib.hid (fun u => count_pop hx u)
          clear hx HG
          cases q with
          | true =>
            go_wp2_with fail
            refine (HCt.out _).mono ?_
            rintro e w5 ⟨rfl, m9, rfl⟩
            have B9 := Lib.hid (below_drewN Br m9)
            clear Br
            generalize popN x = y at *
            have hz : decide ((g : Int) ≤ (y : Int)) = decide (g ≤ y) := by
              by_cases h : g ≤ y
              · rw [decide_eq_true h, decide_eq_true (by omega)]
              · rw [decide_eq_false h, decide_eq_false (by omega)]
            go_wp2
            go_roundw
            case rel => exact ⟨k + 1, by omega, by go_num, by rw [HV.out]; simp, B9.out⟩
            case measure => simp [intOf] <;> omega
          | false =>
            go_wp2
            go_roundw
            case rel => exact ⟨k + 1, by omega, by go_num, by rw [HV.out]; rfl, Br⟩
            case measure => simp [intOf] <;> omega
    · obtain rfl : P = k := by omega
      have hv := HP.out
      rw [hv]
      clear hv
      go_wp2_with fail
      go_loopw [13, 78] (fun v i wr => ∃ (j M : Nat), j ≤ N ∧ i = .int .i64 (j : Int) ∧ v = .int .u32 (M : Int) ∧ Hid (Met W M j) ∧ Below w2.heap.size w2 wr) (fun _ i _ => N - (intOf i).toNat)
      case atStart => exact ⟨0, 0, by omega, rfl, rfl, Lib.hid ⟨by omega, fun b hb => by simp at hb⟩, Br⟩
      case round =>
        clear Br
        obtain ⟨j, M, hj, rfl, rfl, HM, Br⟩ := hrel
        by_cases hjt : j < N
        · obtain ⟨⟨mx, my⟩, hm⟩ := elem_at (l := L) (k := j) (by rw [HL.out]; exact hjt)
          obtain ⟨ad2, e2, hb, d0, d1⟩ := mask_at (hR.out.below (HX.out _ Br)) hm
          obtain rfl := Option.some.inj e2
          clear e2
          obtain ⟨ad', v', rfl, _, hx', hc'⟩ := (HR3.out.below Br).at_ hjt
          obtain ⟨z, hz', rfl⟩ := vs_at hx'
          obtain ⟨c, rfl, hWc⟩ := ints_of hz'
          obtain ⟨c8, hcb⟩ := HW.out.1 j c hWc
          have HXm := Lib.hid (HA.out j mx my hm)
          have hal : H.getD j 0 &&& S < 256 := Nat.lt_of_le_of_lt Nat.and_le_right H8.out
          have HH1 := Lib.hid (has_nat hal c8)
          rw [hcb] at HH1
          have HH2 := Lib.hid (has_nat HM.out.1 c8)
          rw [show M.testBit c = false by
            cases hq : M.testBit c with
            | false => rfl
            | true =>
              obtain ⟨i, hi, he⟩ := HM.out.2 c hq
              exact (HW.out.2 i j c hi he hWc).elim] at HH2
          have HN := Lib.hid (met_step HM.out c8 hWc)
          have hp2 : (2 : Nat) ^ c < 256 := Nat.pow_lt_pow_right (m := c) (n := 8) (by omega) c8
          have ho := or_nat HM.out.1 hp2
          rw [← two_nat] at ho
          have hw : IntKind.u32.wrap ((2 : Int) ^ c) = 2 ^ c := wrap_two (by omega)
          have j0 : (0 : Int) ≤ (j : Int) := by omega
          have c0 : (0 : Int) ≤ (c : Int) := by omega
          have c32 : (c : Int) ≤ 32 := by omega
          clear hm hx' hz' hWc hal hcb hp2 c8
          generalize H.getD j 0 &&& S = al at *
          go_wp2_with fail
          refine (HXm.out _).mono ?_
          rintro e w5 ⟨rfl, h9⟩
          have B4 := Br.trans (h9.mono Br.size)
          clear h9 Br d0 d1 hc'
          go_wp2_with fail
          refine (HH1.out _).mono ?_
          rintro e w6 ⟨rfl, h9⟩
          have B5 := B4.trans (h9.mono B4.size)
          clear h9 B4
          go_wp2_with fail
          refine (HH2.out _).mono ?_
          rintro e w7 ⟨rfl, h9⟩
          have B6 := Lib.hid (B5.trans (h9.mono B5.size))
          clear h9 B5
          go_wp2
          go_roundw
          case rel => exact ⟨j + 1, _, by omega, by go_num, by simp, HN, B6.out⟩
          case measure => simp [intOf] <;> omega
        · obtain rfl : N = j := by omega
          have B9 := Lib.hid (HX.out _ Br)
          clear Br
          go_wp2
          go_ret
          exact ⟨rfl, B9.out⟩

set_option maxRecDepth 100000 in
set_option maxHeartbeats 16000000 in
theorem hall_no (A : Option Addr) (N C P : Nat) (L : List (Int × Int)) (S : Nat) (H : List Nat) (w : World) (h10 : (N : Int) ≤ 10) (hR : Hid (Reads w w.heap.size 2 A N (mvs L))) (HL : Hid (L.length = N)) (HHl : Hid (H.length = N)) (H8 : Hid (S < 256)) (hP : IntKind.i64.wrap ((2 : Int) ^ N) = (P : Int)) (P1 : (P : Int) ≤ 1024) (HP : Hid (hallB H S P = false))
    (HD : Hid (Db w))
    (HK : Hid (TellsD 8 #[] (.bool true)))
    (HA : Hid (∀ (k : Nat) (x y : Int), L[k]? = some (x, y) → Tells 13 #[.agg #[.int .u32 x, .int .u32 y], .int .u32 (S : Int)] (.int .u32 ((H.getD k 0 &&& S : Nat) : Int))))
    (HC : Hid (∀ u : World, Below w.heap.size w u → Calls Tryd.prog 19 #[.slice A N C, .int .u32 (S : Int)] u (GetsL ([], 4) u))) :
    Calls Tryd.prog 5 #[.slice A N C, .int .u32 (S : Int)] w (Said (.bool true) w) := by
  go_enter Tryd.func5, Tryd.ntmps5
  go_wp2_with fail
  refine (HK.out _ HD.out).mono ?_
  rintro e w1 ⟨rfl, B1⟩
  go_wp2_with fail
  refine (HC.out _ B1).mono ?_
  rintro e w2 ⟨A3, n3, c3, rfl, hn3, hc3, r3, h9⟩
  have B2 := B1.trans (h9.mono B1.size)
  clear h9 B1
  obtain rfl : n3 = 0 := hn3
  clear hc3 r3
  have HX := Lib.hid (fun (u : World) (h : Below w2.heap.size w2 u) => B2.trans (h.mono B2.size))
  clear B2
  go_wp2_with fail
  go_loopw [7, 41] (fun v i wr => ∃ k : Nat, k ≤ P ∧ i = .int .i64 (k : Int) ∧ v = .bool (hallB H S k) ∧ Below w2.heap.size w2 wr) (fun _ i _ => P - (intOf i).toNat)
  case atStart => exact ⟨0, by omega, rfl, rfl, Below.refl _ _⟩
  case round =>
    obtain ⟨k, hk, rfl, rfl, Br⟩ := hrel
    by_cases hlt : k < P
    · obtain ⟨q, hq⟩ : ∃ q, hallB H S k = q := ⟨_, rfl⟩
      have HQ := Lib.hid hq
      rw [hq]
      clear hq
      have k0 : (0 : Int) ≤ (k : Int) := by omega
      have k1 : (k : Int) ≤ 1024 := by omega
      go_wp2_with fail
      go_loopw [9, 10, 46] (fun v a i wr => ∃ (j g x : Nat), j ≤ N ∧ i = .int .i64 (j : Int) ∧ v = .int .i64 (g : Int) ∧ a = .int .u32 (x : Int) ∧ Hid (g = manyN k j ∧ x = orN H S k j) ∧ g ≤ 10 ∧ Below w2.heap.size w2 wr) (fun _ _ i _ => N - (intOf i).toNat)
      case atStart => exact ⟨0, 0, 0, by omega, rfl, rfl, rfl, Lib.hid ⟨rfl, rfl⟩, by omega, Br⟩
      case round =>
        clear Br
        obtain ⟨j, g, x, hj, rfl, rfl, rfl, HG, g10, Br⟩ := hrel
        by_cases hjt : j < N
        · obtain ⟨⟨mx, my⟩, hm⟩ := elem_at (l := L) (k := j) (by rw [HL.out]; exact hjt)
          obtain ⟨ad, rfl, hb, d0, d1⟩ := mask_at (hR.out.below (HX.out _ Br)) hm
          have HXm := Lib.hid (HA.out j mx my hm)
          have j0 : (0 : Int) ≤ (j : Int) := by omega
          have j1 : (j : Int) ≤ 64 := by omega
          have ha := and_one k j
          have g9 : g ≤ j := by rw [HG.out.1]; exact many_le k j
          have hsz := Br.size
          have B3 := Br.alloc hsz (.cells #[.int .u32 mx, .int .u32 my] 25)
          clear hm Br
          cases ht : k.testBit j with
          | true =>
            rw [ht, if_pos rfl] at ha
            have HN : Hid (g + 1 = manyN k (j + 1) ∧ x ||| (H.getD j 0 &&& S) = orN H S k (j + 1)) := Lib.hid ⟨by rw [many_yes ht, HG.out.1], by rw [or_yes ht, HG.out.2]⟩
            have hx : x < 256 := by rw [HG.out.2]; exact or_small H8.out j
            have hal : H.getD j 0 &&& S < 256 := Nat.lt_of_le_of_lt Nat.and_le_right H8.out
            have ho := or_nat hx hal
            clear hx hal ht
            generalize H.getD j 0 &&& S = al at *
            go_wp2_with fail
            refine (HXm.out _).mono ?_
            rintro e w5 ⟨rfl, h9⟩
            have B4 := Lib.hid (B3.trans (h9.mono B3.size))
            clear h9 B3 d0 d1 ha
            go_wp2
            go_roundw
            case rel => exact ⟨j + 1, g + 1, x ||| al, by omega, by go_num, by go_num, by simp, HN, by omega, B4.out⟩
            case measure => simp [intOf] <;> omega
          | false =>
            rw [ht, if_neg (by simp)] at ha
            have HN : Hid (g = manyN k (j + 1) ∧ x = orN H S k (j + 1)) := Lib.hid ⟨by rw [many_no ht, HG.out.1], by rw [or_no ht, HG.out.2]⟩
            clear ht
            go_wp2
            go_roundw
            case rel => exact ⟨j + 1, g, x, by omega, by go_num, rfl, rfl, HN, by omega, B3⟩
            case measure => simp [intOf] <;> omega
        · obtain rfl : N = j := by omega
          have HV : Hid (hallB H S (k + 1) = (q && decide (g ≤ popN x))) := Lib.hid (by
            have hHN : H.length = N := HHl.out
            show (hallB H S k && decide (manyN k H.length ≤ popN (orN H S k H.length))) = _
            rw [HQ.out, hHN, ← HG.out.1, ← HG.out.2])
          have hx : x < 256 := by rw [HG.out.2]; exact or_small H8.out N
          have HCt := Lib.hid (fun u => count_pop hx u)
          clear hx HG
          cases q with
          | true =>
            go_wp2_with fail
            refine (HCt.out _).mono ?_
            rintro e w5 ⟨rfl, m9, rfl⟩
            have B9 := Lib.hid (below_drewN Br m9)
            clear Br
            generalize popN x = y at *
            have hz : decide ((g : Int) ≤ (y : Int)) = decide (g ≤ y) := by
              by_cases h : g ≤ y
              · rw [decide_eq_true h, decide_eq_true (by omega)]
              · rw [decide_eq_false h, decide_eq_false (by omega)]
            go_wp2
            go_roundw
            case rel => exact ⟨k + 1, by omega, by go_num, by rw [HV.out]; simp, B9.out⟩
            case measure => simp [intOf] <;> omega
          | false =>
            go_wp2
            go_roundw
            case rel => exact ⟨k + 1, by omega, by go_num, by rw [HV.out]; rfl, Br⟩
            case measure => simp [intOf] <;> omega
    · obtain rfl : P = k := by omega
      have hv := HP.out
      rw [hv]
      clear hv
      go_wp2_with fail
      go_loopw [78] (fun i wr => i = .int .i64 0 ∧ Below w2.heap.size w2 wr) (fun _ _ => 0)
      case atStart => exact ⟨rfl, Br⟩
      case round =>
        obtain ⟨rfl, Br⟩ := hrel
        have B9 := Lib.hid (HX.out _ Br)
        clear Br
        go_wp2
        go_ret
        exact ⟨rfl, B9.out⟩

set_option maxRecDepth 100000 in
set_option maxHeartbeats 16000000 in
theorem hall_no_long (ad : Addr) (M0 N C P : Nat) (hM : (10 : Int) < (M0 : Int)) (HT : Hid (N = 10)) (hC : (10 : Int) ≤ (C : Int)) (L : List (Int × Int)) (S : Nat) (H : List Nat) (w : World) (h10 : (N : Int) ≤ 10) (hR : Hid (Reads w w.heap.size 2 (some ad) N (mvs L))) (HL : Hid (L.length = N)) (HHl : Hid (H.length = N)) (H8 : Hid (S < 256)) (hP : IntKind.i64.wrap ((2 : Int) ^ N) = (P : Int)) (P1 : (P : Int) ≤ 1024) (HP : Hid (hallB H S P = false))
    (HD : Hid (Db w))
    (HK : Hid (TellsD 8 #[] (.bool true)))
    (HA : Hid (∀ (k : Nat) (x y : Int), L[k]? = some (x, y) → Tells 13 #[.agg #[.int .u32 x, .int .u32 y], .int .u32 (S : Int)] (.int .u32 ((H.getD k 0 &&& S : Nat) : Int))))
    (HC : Hid (∀ u : World, Below w.heap.size w u → Calls Tryd.prog 19 #[.slice (some ad) N C, .int .u32 (S : Int)] u (GetsL ([], 4) u))) :
    Calls Tryd.prog 5 #[.slice (some ad) M0 C, .int .u32 (S : Int)] w (Said (.bool true) w) := by
  go_enter Tryd.func5, Tryd.ntmps5
  go_wp2_with fail
  refine (HK.out _ HD.out).mono ?_
  rintro e w1 ⟨rfl, B1⟩
  go_wp2_with fail
  rw [show (Value.slice (some ad) 10 C) = .slice (some ad) N C by rw [HT.out]]
  refine (HC.out _ B1).mono ?_
  rintro e w2 ⟨A3, n3, c3, rfl, hn3, hc3, r3, h9⟩
  have B2 := B1.trans (h9.mono B1.size)
  clear h9 B1
  obtain rfl : n3 = 0 := hn3
  clear hc3 r3
  have HX := Lib.hid (fun (u : World) (h : Below w2.heap.size w2 u) => B2.trans (h.mono B2.size))
  clear B2
  go_wp2_with fail
  go_loopw [7, 41] (fun v i wr => ∃ k : Nat, k ≤ P ∧ i = .int .i64 (k : Int) ∧ v = .bool (hallB H S k) ∧ Below w2.heap.size w2 wr) (fun _ i _ => P - (intOf i).toNat)
  case atStart => exact ⟨0, by omega, rfl, rfl, Below.refl _ _⟩
  case round =>
    obtain ⟨k, hk, rfl, rfl, Br⟩ := hrel
    by_cases hlt : k < P
    · obtain ⟨q, hq⟩ : ∃ q, hallB H S k = q := ⟨_, rfl⟩
      have HQ := Lib.hid hq
      rw [hq]
      clear hq
      have k0 : (0 : Int) ≤ (k : Int) := by omega
      have k1 : (k : Int) ≤ 1024 := by omega
      go_wp2_with fail
      go_loopw [9, 10, 46] (fun v a i wr => ∃ (j g x : Nat), j ≤ N ∧ i = .int .i64 (j : Int) ∧ v = .int .i64 (g : Int) ∧ a = .int .u32 (x : Int) ∧ Hid (g = manyN k j ∧ x = orN H S k j) ∧ g ≤ 10 ∧ Below w2.heap.size w2 wr) (fun _ _ i _ => N - (intOf i).toNat)
      case atStart => exact ⟨0, 0, 0, by omega, rfl, rfl, rfl, Lib.hid ⟨rfl, rfl⟩, by omega, Br⟩
      case round =>
        clear Br
        obtain ⟨j, g, x, hj, rfl, rfl, rfl, HG, g10, Br⟩ := hrel
        by_cases hjt : j < N
        · obtain ⟨⟨mx, my⟩, hm⟩ := elem_at (l := L) (k := j) (by rw [HL.out]; exact hjt)
          obtain ⟨ad2, e2, hb, d0, d1⟩ := mask_at (hR.out.below (HX.out _ Br)) hm
          obtain rfl := Option.some.inj e2
          clear e2
          have HXm := Lib.hid (HA.out j mx my hm)
          have j0 : (0 : Int) ≤ (j : Int) := by omega
          have j1 : (j : Int) ≤ 64 := by omega
          have ha := and_one k j
          have g9 : g ≤ j := by rw [HG.out.1]; exact many_le k j
          have hsz := Br.size
          have B3 := Br.alloc hsz (.cells #[.int .u32 mx, .int .u32 my] 25)
          clear hm Br
          cases ht : k.testBit j with
          | true =>
            rw [ht, if_pos rfl] at ha
            have HN : Hid (g + 1 = manyN k (j + 1) ∧ x ||| (H.getD j 0 &&& S) = orN H S k (j + 1)) := Lib.hid ⟨by rw [many_yes ht, HG.out.1], by rw [or_yes ht, HG.out.2]⟩
            have hx : x < 256 := by rw [HG.out.2]; exact or_small H8.out j
            have hal : H.getD j 0 &&& S < 256 := Nat.lt_of_le_of_lt Nat.and_le_right H8.out
            have ho := or_nat hx hal
            clear hx hal ht
            generalize H.getD j 0 &&& S = al at *
            go_wp2_with fail
            refine (HXm.out _).mono ?_
            rintro e w5 ⟨rfl, h9⟩
            have B4 := Lib.hid (B3.trans (h9.mono B3.size))
            clear h9 B3 d0 d1 ha
            go_wp2
            go_roundw
            case rel => exact ⟨j + 1, g + 1, x ||| al, by omega, by go_num, by go_num, by simp, HN, by omega, B4.out⟩
            case measure => simp [intOf] <;> omega
          | false =>
            rw [ht, if_neg (by simp)] at ha
            have HN : Hid (g = manyN k (j + 1) ∧ x = orN H S k (j + 1)) := Lib.hid ⟨by rw [many_no ht, HG.out.1], by rw [or_no ht, HG.out.2]⟩
            clear ht
            go_wp2
            go_roundw
            case rel => exact ⟨j + 1, g, x, by omega, by go_num, rfl, rfl, HN, by omega, B3⟩
            case measure => simp [intOf] <;> omega
        · obtain rfl : N = j := by omega
          have HV : Hid (hallB H S (k + 1) = (q && decide (g ≤ popN x))) := Lib.hid (by
            have hHN : H.length = N := HHl.out
            show (hallB H S k && decide (manyN k H.length ≤ popN (orN H S k H.length))) = _
            rw [HQ.out, hHN, ← HG.out.1, ← HG.out.2])
          have hx : x < 256 := by rw [HG.out.2]; exact or_small H8.out N
          have HCt := Lib.hid (fun u => count_pop hx u)
          clear hx HG
          cases q with
          | true =>
            go_wp2_with fail
            refine (HCt.out _).mono ?_
            rintro e w5 ⟨rfl, m9, rfl⟩
            have B9 := Lib.hid (below_drewN Br m9)
            clear Br
            generalize popN x = y at *
            have hz : decide ((g : Int) ≤ (y : Int)) = decide (g ≤ y) := by
              by_cases h : g ≤ y
              · rw [decide_eq_true h, decide_eq_true (by omega)]
              · rw [decide_eq_false h, decide_eq_false (by omega)]
            go_wp2
            go_roundw
            case rel => exact ⟨k + 1, by omega, by go_num, by rw [HV.out]; simp, B9.out⟩
            case measure => simp [intOf] <;> omega
          | false =>
            go_wp2
            go_roundw
            case rel => exact ⟨k + 1, by omega, by go_num, by rw [HV.out]; rfl, Br⟩
            case measure => simp [intOf] <;> omega
    · obtain rfl : P = k := by omega
      have hv := HP.out
      rw [hv]
      clear hv
      go_wp2_with fail
      go_loopw [78] (fun i wr => i = .int .i64 0 ∧ Below w2.heap.size w2 wr) (fun _ _ => 0)
      case atStart => exact ⟨rfl, Br⟩
      case round =>
        obtain ⟨rfl, Br⟩ := hrel
        have B9 := Lib.hid (HX.out _ Br)
        clear Br
        go_wp2
        go_ret
        exact ⟨rfl, B9.out⟩

end Go.Proofs.YtcdlhfhachpcdaaDoor
