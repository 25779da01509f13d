/-
  The landed mask's Check, by its own unchanged code (with the landed cpuset's); the library's Or; equal rows of numbers. No statement is proved here.
-/
import Derived.Test.YtknimnopopnbhaaDc
import Derived.Laws.BitsAllLaws
namespace Go.Proofs.Ytknimnopopnbhaa
open Go.RowKit

theorem high_nat (n : Nat) : n &&& 4294967040 = ((n / 256) % 16777216) * 256 := by
  apply Nat.eq_of_testBit_eq
  intro i
  have e1 : (4294967040 : Nat) = (2 ^ 24 - 1) <<< 8 := rfl
  have e2 : n / 256 % 16777216 * 256 = (n / 2 ^ 8 % 2 ^ 24) <<< 8 := by rw [Nat.shiftLeft_eq]
  rw [e2, e1]
  rw [Nat.testBit_and, Nat.testBit_shiftLeft, Nat.testBit_shiftLeft, Nat.testBit_mod_two_pow, Nat.testBit_div_two_pow, Nat.testBit_two_pow_sub_one]
  by_cases hi : 8 ≤ i
  · simp [hi, show i - 8 + 8 = i by omega]
    rw [Bool.and_comm]
  · simp [hi]
theorem not_all {s : Int} (h0 : 0 ≤ s) (h1 : s < 4294967296) : bits .andNot .u32 s 255 = s / 256 * 256 := by
  rw [u32_andNot s 255 h0 h1 (by omega) (by omega)]
  rw [show 4294967295 - (255 : Int).toNat = 4294967040 from rfl, high_nat]
  omega

def chkV (s : Int) : Int := if s < 256 then 0 else 140
set_option maxRecDepth 100000 in
set_option maxHeartbeats 400000 in
theorem ccheck_any (s : Int) (w : World) (h0 : 0 ≤ s) (h1 : s < 4294967296) : Calls Try.prog 90 #[.int .u32 s] w fun e w' => e = .returned (.int .i64 (chkV s)) ∧ w = w' := by
  have hb := not_all h0 h1
  by_cases hs : s < 256
  · have HV : Hid (chkV s = 0) := Lib.hid (if_pos hs)
    have hz : bits .andNot .u32 s 255 = 0 := by rw [hb]; omega
    clear hb hs h0 h1
    go_enter Try.func90, Try.ntmps90
    go_wp2
    go_ret
    exact ⟨retI HV.out.symm, rfl⟩
  · have HV : Hid (chkV s = 140) := Lib.hid (if_neg hs)
    have hz : (bits .andNot .u32 s 255 == 0) = false := by rw [hb]; simp; omega
    clear hb hs h0 h1
    go_enter Try.func90, Try.ntmps90
    go_wp2
    go_ret
    exact ⟨retI HV.out.symm, rfl⟩

theorem drop_at {l : List Int} {k : Nat} {x : Int} (h : l[k]? = some x) : l.drop k = x :: l.drop (k + 1) := by
  obtain ⟨hk, hx⟩ := List.getElem?_eq_some_iff.1 h
  rw [List.drop_eq_getElem_cons hk, hx]

/-- a mask as cells; rows of them -/
def mv (m : Int × Int) : List Value := [.int .u32 m.1, .int .u32 m.2]
def mvs (l : List (Int × Int)) : List Value := flat mv l
theorem length_mv (m : Int × Int) : (mv m).length = 2 := rfl
theorem length_mvs (l : List (Int × Int)) : (mvs l).length = l.length * 2 := length_flat mv length_mv l
/-- numbers of 32 bits -/
def U32 (x : Int) : Prop := 0 ≤ x ∧ x < 4294967296
def UM (m : Int × Int) : Prop := U32 m.1 ∧ U32 m.2
/-- may a mask be -/
def rightM (m : Int × Int) : Bool := decide (m.1 < 256) && decide (m.2 < 256) && decide (0 < m.1)
theorem mask_at {w : World} {B n : Nat} {A : Option Addr} {l : List (Int × Int)} (h : Reads w B 2 A n (mvs l)) {k : Nat} {x y : Int} (hk : l[k]? = some (x, y)) :
    ∃ ad, A = some ad ∧ ad.block < B ∧ w.cell? (ad.add (k * 2)) = some (.int .u32 x) ∧ w.cell? ⟨(ad.add (k * 2)).block, (ad.add (k * 2)).off + 1, none⟩ = some (.int .u32 y) := by
  obtain ⟨ad, e, hb, hc⟩ := h.elem mv length_mv hk (by omega)
  have c1 := hc 1 _ rfl
  rw [add_past ad (k * 2) 0] at c1
  exact ⟨ad, e, hb, hc 0 _ rfl, c1⟩
theorem masks_len {w : World} {B n : Nat} {A : Option Addr} {l : List (Int × Int)} (h : Reads w B 2 A n (mvs l)) : l.length = n := by
  have := h.1
  rw [length_mvs] at this
  omega

theorem all_right_no {l : List (Int × Int)} {k : Nat} {m : Int × Int} (hk : l[k]? = some m) (h : rightM m = false) : l.all rightM = false := by
  cases ha : l.all rightM with
  | false => rfl
  | true =>
    rw [List.all_eq_true] at ha
    rw [ha _ (List.mem_of_getElem? hk)] at h
    cases h
theorem all_right_step {l : List (Int × Int)} {k : Nat} {m : Int × Int} (hk : l[k]? = some m) (h : rightM m = true) (ht : (l.take k).all rightM = true) : (l.take (k + 1)).all rightM = true := by
  rw [List.take_add_one, hk, List.all_append, ht]
  simp [h]

/-- the first that is not nought -/
def orL : List Int → Int
  | [] => 0
  | a :: t => if a = 0 then orL t else a
theorem or_skip {l : List Int} {k : Nat} {x : Int} (h : l[k]? = some x) (hx : x = 0) : orL (l.drop k) = orL (l.drop (k + 1)) := by
  rw [drop_at h]; exact if_pos hx
theorem or_hit {l : List Int} {k : Nat} {x : Int} (h : l[k]? = some x) (hx : ¬ x = 0) : orL (l.drop k) = x := by
  rw [drop_at h]; exact if_neg hx

set_option maxRecDepth 100000 in
set_option maxHeartbeats 1000000 in
theorem orE_any (A : Option Addr) (n c : Nat) (l : List Int) (w : World) (hR : Reads w w.heap.size 1 A n (l.map fun i => .int .i64 i)) (hn : n ≤ 1000) :
    Calls Try.prog 41 #[.slice A n c] w fun e w' => e = .returned (.int .i64 (orL l)) ∧ w = w' := by
  have hl : l.length = n := by have := hR.1; simpa using this
  have HL := Lib.hid hl
  have HR := Lib.hid hR
  generalize hE : orL l = E
  have HE := Lib.hid hE
  clear hR hE hl
  go_enter Try.func41, Try.ntmps41
  go_wp2_with fail
  go_loopw [8] (fun i wr => ∃ k : Nat, k ≤ n ∧ i = .int .i64 (k : Int) ∧ Hid (orL (l.drop k) = E) ∧ wr = w) (fun i _ => n - (intOf i).toNat)
  case atStart => exact ⟨0, by omega, rfl, Lib.hid (by rw [List.drop_zero]; exact HE.out), rfl⟩
  case round =>
    obtain ⟨k, hk, rfl, HA, rfl⟩ := hrel
    by_cases hlt : k < n
    · obtain ⟨x, hm⟩ := elem_at (l := l) (k := k) (by rw [HL.out]; exact hlt)
      obtain ⟨ad, u, rfl, hb, hu, d0⟩ := HR.out.at_ hlt
      obtain rfl : u = .int .i64 x := by rw [List.getElem?_map, hm] at hu; simpa using hu.symm
      have HT := Lib.hid hm
      clear hm hu
      by_cases hx : x = 0
      · have hz : (x == 0) = true := by simp [hx]
        have HN : Hid (orL (l.drop (k + 1)) = E) := Lib.hid (by rw [← HA.out, or_skip HT.out hx])
        clear hx
        go_wp2
        go_roundw
        case rel => exact ⟨k + 1, by omega, by go_num, HN, by first | rfl | trivial⟩
        case measure => simp [intOf] <;> omega
      · have hz : (x == 0) = false := by simp [hx]
        have HN : Hid (x = E) := Lib.hid (by rw [← HA.out, or_hit HT.out hx])
        clear hx
        go_wp2
        go_ret
        exact ⟨retI HN.out, rfl⟩
    · obtain rfl : n = k := by omega
      have HN : Hid (0 = E) := Lib.hid (by rw [← HA.out, ← HL.out, List.drop_length]; rfl)
      go_wp2
      go_ret
      exact ⟨retI HN.out, rfl⟩

/-- a row that was laid as a block -/
theorem reads_new (w : World) (t : TypeId) (size n : Nat) (xs : List Value) (hn : xs.length = n * size) : Reads (w.alloc (.cells xs.toArray t)) (w.alloc (.cells xs.toArray t)).heap.size size (some ⟨w.heap.size, 0, none⟩) n xs := by
  have K := Blk.new w t xs.toArray
  refine ⟨hn, fun _ => ⟨_, rfl, K.lt, fun j u hj => ?_⟩⟩
  have e : (⟨w.heap.size, 0, none⟩ : Addr).add j = ⟨w.heap.size, j, none⟩ := by unfold Addr.add; by_cases hj0 : j = 0 <;> simp [hj0]
  rw [e, K.cell j]
  simpa using hj
theorem right_no {x y : Int} (h : ¬ (x < 256 ∧ y < 256 ∧ 0 < x)) : rightM (x, y) = false := by
  unfold rightM
  cases h1 : decide (x < 256) <;> cases h2 : decide (y < 256) <;> cases h3 : decide (0 < x) <;> simp at h1 h2 h3 ⊢
  omega
theorem right_yes {x y : Int} (h1 : x < 256) (h2 : y < 256) (h3 : 0 < x) : rightM (x, y) = true := by unfold rightM; simp [h1, h2, h3]

/-- may all masks be? -/
def allE (l : List (Int × Int)) : Int := if l.all rightM = true then 0 else 170
set_option maxRecDepth 100000 in
set_option maxHeartbeats 4000000 in
theorem checkall_any (A : Option Addr) (n c : Nat) (l : List (Int × Int)) (w : World) (hR : Reads w w.heap.size 2 A n (mvs l)) (hU : ∀ (k : Nat) (m : Int × Int), l[k]? = some m → UM m) (hn : n ≤ 1000) :
    Calls Try.prog 83 #[.slice A n c] w (Said (.int .i64 (allE l)) w) := by
  have HL := Lib.hid (masks_len hR)
  have HR := Lib.hid hR
  have HU := Lib.hid hU
  generalize hE : allE l = E
  have HE := Lib.hid hE
  clear hR hE hU
  go_enter Try.func83, Try.ntmps83
  go_wp2_with fail
  go_loopw [7] (fun i wr => ∃ k : Nat, k ≤ n ∧ i = .int .i64 (k : Int) ∧ Hid ((l.take k).all rightM = true) ∧ Below w.heap.size w wr) (fun i _ => n - (intOf i).toNat)
  case atStart => exact ⟨0, by omega, rfl, Lib.hid (by rw [List.take_zero]; rfl), Below.refl _ _⟩
  case round =>
    obtain ⟨k, hk, rfl, HA, hB⟩ := hrel
    by_cases hlt : k < n
    · obtain ⟨⟨x, y⟩, hm⟩ := elem_at (l := l) (k := k) (by rw [HL.out]; exact hlt)
      obtain ⟨ad, rfl, hb, d0, d1⟩ := mask_at (HR.out.below hB) hm
      obtain ⟨⟨x0, x1⟩, y0, y1⟩ := HU.out k _ hm
      have HX := Lib.hid (fun u => ccheck_any x u x0 x1)
      have HY := Lib.hid (fun u => ccheck_any y u y0 y1)
      have HT := Lib.hid hm
      have hsz := hB.size
      have B2 := hB.alloc hsz (.cells #[.int .u32 x, .int .u32 y] 48)
      clear hm hB
      by_cases hz : x = 0
      · have hz2 : (x == 0) = true := by simp [hz]
        have HN := Lib.hid (all_right_no HT.out (right_no (by omega)))
        clear hz x0 x1 y0 y1 HX HY
        go_wp2
        go_ret
        exact ⟨retI (by rw [← HE.out]; unfold allE; rw [HN.out]; rfl), B2⟩
      · have hz2 : (x == 0) = false := by simp [hz]
        by_cases hx : x < 256
        · rw [show chkV x = 0 from if_pos hx] at HX
          by_cases hy : y < 256
          · rw [show chkV y = 0 from if_pos hy] at HY
            have HN := Lib.hid (all_right_step HT.out (right_yes hx hy (by omega)) HA.out)
            clear hz x0 x1 y0 y1 hx hy
            go_wp2_with fail
            refine (HX.out _).mono ?_
            rintro e w2 ⟨rfl, rfl⟩
            go_wp2_with fail
            refine (HY.out _).mono ?_
            rintro e w2 ⟨rfl, rfl⟩
            go_wp2
            go_roundw
            case rel => exact ⟨k + 1, by omega, by go_num, HN, B2⟩
            case measure => simp [intOf] <;> omega
          · rw [show chkV y = 140 from if_neg hy] at HY
            have HN := Lib.hid (all_right_no HT.out (right_no (by omega)))
            clear hz x0 x1 y0 y1 hx hy
            go_wp2_with fail
            refine (HX.out _).mono ?_
            rintro e w2 ⟨rfl, rfl⟩
            go_wp2_with fail
            refine (HY.out _).mono ?_
            rintro e w2 ⟨rfl, rfl⟩
            go_wp2
            go_ret
            exact ⟨retI (by rw [← HE.out]; unfold allE; rw [HN.out]; rfl), B2⟩
        · rw [show chkV x = 140 from if_neg hx] at HX
          have HN := Lib.hid (all_right_no HT.out (right_no (by omega)))
          clear hz x0 x1 y0 y1 hx
          go_wp2_with fail
          refine (HX.out _).mono ?_
          rintro e w2 ⟨rfl, rfl⟩
          go_wp2
          go_ret
          exact ⟨retI (by rw [← HE.out]; unfold allE; rw [HN.out]; rfl), B2⟩
    · obtain rfl : n = k := by omega
      have hall : Hid (l.all rightM = true) := Lib.hid (by
        have := HA.out
        rwa [show l.take n = l by rw [← HL.out]; exact List.take_length] at this)
      go_wp2
      go_ret
      exact ⟨retI (by rw [← HE.out]; unfold allE; rw [hall.out]; rfl), hB⟩

/-- a mask that was laid as a row of one -/
theorem reads_one (w : World) (x y : Int) : Reads (w.alloc (.cells #[.int .u32 x, .int .u32 y] 48)) (w.alloc (.cells #[.int .u32 x, .int .u32 y] 48)).heap.size 2 (some ⟨w.heap.size, 0, none⟩) 1 (mvs [(x, y)]) := reads_new w 48 2 1 [.int .u32 x, .int .u32 y] rfl
theorem one_um {x y : Int} (hx : U32 x) (hy : U32 y) : ∀ (k : Nat) (m : Int × Int), [(x, y)][k]? = some m → UM m := fun k m hk => by
  match k, hk with
  | 0, hk => simp at hk; subst hk; exact ⟨hx, hy⟩
  | k + 1, hk => simp at hk

theorem checkall_one (u : World) (g : Nat) (hg : g = u.heap.size) (x y : Int) (hx : U32 x) (hy : U32 y) : Calls Try.prog 83 #[.slice (some ⟨g, 0, none⟩) 1 1] (u.alloc (.cells #[.int .u32 x, .int .u32 y] 48)) (Said (.int .i64 (if rightM (x, y) = true then 0 else 170)) (u.alloc (.cells #[.int .u32 x, .int .u32 y] 48))) := by
  subst hg
  have h := checkall_any (some ⟨u.heap.size, 0, none⟩) 1 1 [(x, y)] (u.alloc (.cells #[.int .u32 x, .int .u32 y] 48)) (reads_one u x y) (one_um hx hy) (by omega)
  have hv : allE [(x, y)] = if rightM (x, y) = true then 0 else 170 := by unfold allE; simp
  rwa [hv] at h

set_option maxRecDepth 100000 in
set_option maxHeartbeats 1000000 in
theorem check_any (x y : Int) (w : World) (hx : U32 x) (hy : U32 y) : Calls Try.prog 61 #[.agg #[.int .u32 x, .int .u32 y]] w (Said (.int .i64 (if rightM (x, y) = true then 0 else 170)) w) := by
  have B1 : Below w.heap.size w ((w.alloc (.cells #[.int .u32 x, .int .u32 y] 48)).alloc (.cells #[.int .u32 x, .int .u32 y] 48)) := ((Below.refl _ w).alloc (Nat.le_refl _) _).alloc (by simp) _
  have HC := Lib.hid (fun (u : World) (g : Nat) (hg : g = u.heap.size) => checkall_one u g hg x y hx hy)
  generalize (if rightM (x, y) = true then (0 : Int) else 170) = E at *
  have HB := Lib.hid B1
  clear hx hy B1
  go_enter Try.func61, Try.ntmps61
  go_wp2_with fail
  refine (HC.out _ _ (by simp)).mono ?_
  rintro e w2 ⟨rfl, h2⟩
  go_wp2
  go_ret
  exact ⟨rfl, HB.out.trans (h2.mono HB.out.size)⟩

set_option maxRecDepth 100000 in
set_option maxHeartbeats 1000000 in
theorem same_same (A1 A2 : Option Addr) (n c1 c2 : Nat) (l : List Int) (w : World) (h1 : Reads w w.heap.size 1 A1 n (vs l)) (h2 : Reads w w.heap.size 1 A2 n (vs l)) (hn : n ≤ 100000) :
    Calls Try.prog 39 #[.slice A1 n c1, .slice A2 n c2] w (Draws (.bool true) w) := by
  go_enter Try.func39, Try.ntmps39
  go_wp2_with fail
  go_loopw [13] (fun i wr => ∃ k q : Nat, k ≤ n ∧ i = .int .i64 k ∧ wr = w.drewN q) (fun i _ => n - (intOf i).toNat)
  case atStart => exact ⟨0, 0, Nat.zero_le _, rfl, rfl⟩
  case round =>
    obtain ⟨k, q, hk, rfl, rfl⟩ := hrel
    by_cases hlt : k < n
    · obtain ⟨ad, v, rfl, _, hx, hc⟩ := h1.at_ hlt
      obtain ⟨ad', v', rfl, _, hx', hc'⟩ := h2.at_ hlt
      obtain rfl : v = v' := by rw [hx] at hx'; injection hx'
      obtain ⟨x, _, rfl⟩ := vs_at hx
      clear hx hx'
      have j0 : (0 : Int) ≤ (k : Int) := by omega
      have j1 : (k : Int) < (n : Int) := by omega
      go_wp2_with fail
      go_quiet (fail)
      go_wp2
      go_roundw
      case rel => exact ⟨k + 1, q + nq, by omega, by go_num, rfl⟩
      case measure => simp [intOf]; omega
    · obtain rfl : k = n := by omega
      go_wp2
      go_ret
      exact ⟨rfl, _, rfl⟩

/-- may this mask be? -/
def maskE (h s : Nat) : Int := if rightK h s = true then 0 else 170
theorem mcheck_any (h s : Nat) (w : World) (hh : h < 4294967296) (hs : s < 4294967296) : Calls Try.prog 61 #[.agg #[.int .u32 (h : Int), .int .u32 (s : Int)]] w (Said (.int .i64 (maskE h s)) w) := by
  have q := check_any (h : Int) (s : Int) w ⟨by omega, by omega⟩ ⟨by omega, by omega⟩
  have e : rightM ((h : Int), (s : Int)) = rightK h s := by
    unfold rightM rightK
    rw [show decide ((h : Int) < 256) = decide (h < 256) from decide_eq_decide.2 (by omega), show decide ((s : Int) < 256) = decide (s < 256) from decide_eq_decide.2 (by omega), show decide ((0 : Int) < (h : Int)) = decide (0 < h) from decide_eq_decide.2 (by omega)]
  rwa [e] at q

end Go.Proofs.Ytknimnopopnbhaa
