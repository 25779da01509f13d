/-
  TopoMakes' walk, on what is asked of the landed calls.
-/
import Derived.Test.YtfalkiinlkfanaaTp
namespace Go.Proofs.Ytfalkiinlkfanaa
open Go.RowKit

/-- three numbers in a row -/
def rv3 (r : Int × Int × Int) : List Value := [.int .i64 r.1, .int .i64 r.2.1, .int .i64 r.2.2]
theorem length_rv3 (r : Int × Int × Int) : (rv3 r).length = 3 := rfl
theorem three_at {w : World} {B n : Nat} {A : Option Addr} {l : List (Int × Int × Int)} (h : Reads w B 3 A n (flat rv3 l)) {k : Nat} {x y z : Int} (hk : l[k]? = some (x, y, z)) :
    ∃ ad, A = some ad ∧ ad.block < B ∧ w.cell? (ad.add (k * 3)) = some (.int .i64 x) ∧ w.cell? ⟨(ad.add (k * 3)).block, (ad.add (k * 3)).off + 1, none⟩ = some (.int .i64 y) ∧ w.cell? ⟨(ad.add (k * 3)).block, (ad.add (k * 3)).off + 2, none⟩ = some (.int .i64 z) := by
  obtain ⟨ad, e, hb, hc⟩ := h.elem rv3 length_rv3 hk (by omega)
  have c1 := hc 1 _ rfl
  have c2 := hc 2 _ rfl
  rw [add_past ad (k * 3) 0] at c1
  rw [add_past ad (k * 3) 1] at c2
  exact ⟨ad, e, hb, hc 0 _ rfl, c1, c2⟩
theorem reg_nil {s c t : Int} (h : (regularV s c t).2 = false) : (regularV s c t).1 = [] := by
  unfold regularV at h ⊢
  split
  · split
    · rename_i h1 h2
      rw [if_pos h1, if_pos h2] at h
      cases h
    · rfl
  · rfl
theorem reg_bound (s c t : Int) : (regularV s c t).1.length ≤ 300 := by
  unfold regularV
  split
  · split
    · rename_i h2
      exact Nat.le_trans (right_parts h2).2.2 (by omega)
    · simp
  · simp
theorem flat_at_ {m k : Nat} (hk : k < m) : ((List.range m).map fun (k : Nat) => ((0 : Int), (k : Int)))[k]? = some (0, (k : Int)) := by
  rw [List.getElem?_map, List.getElem?_range hk]; rfl

set_option maxRecDepth 100000 in
set_option maxHeartbeats 16000000 in
theorem makes_walk (HFl : TFlatOk) (HRe : TRegularOk) (A A' : Option Addr) (n c n' c' : Nat) (cs : List Int) (rs : List (Int × Int × Int)) (w : World) (hn : n ≤ maxLen) (hn' : n' ≤ maxLen) (hl' : rs.length = n')
    (hR : Reads w w.heap.size 1 A n (vs cs)) (hR' : Reads w w.heap.size 3 A' n' (flat rv3 rs))
    (hk : ∀ u, Calls Try.prog 10 #[] u (Said (.bool true) u)) :
    Calls Try.prog 5 #[.slice A n c, .slice A' n' c'] w (Said (.bool true) w) := by
  unfold maxLen at hn hn'
  have HK := Lib.hid hk
  have HR := Lib.hid hR
  have HR' := Lib.hid hR'
  have HL' := Lib.hid hl'
  clear hk hR hR' hl'
  go_enter Try.func5, Try.ntmps5
  go_wp2_with fail
  refine (HK.out _).mono ?_
  rintro e w1 ⟨rfl, h1⟩
  go_wp2_with fail
  go_loopw [21] (fun i wr => ∃ k : Nat, k ≤ n ∧ k ≤ 20 ∧ i = .int .i64 (k : Int) ∧ Below w.heap.size w wr) (fun i _ => n - (intOf i).toNat)
  case atStart => exact ⟨0, by omega, by omega, rfl, h1⟩
  case round =>
    clear h1
    obtain ⟨k, hk, hk20, rfl, hB⟩ := hrel
    by_cases hlt : k < n
    · obtain ⟨ad, v', rfl, _, hx, hc⟩ := (HR.out.below hB).at_ hlt
      obtain ⟨v, hv, rfl⟩ := vs_at hx
      have j0 : (0 : Int) ≤ (k : Int) := by omega
      have j1 : (k : Int) < (n : Int) := by omega
      clear hx hv
      by_cases h20 : k = 20
      · have g20 : ((k : Int) == 20) = true := by simp; omega
        clear h20 hk20
        go_wp2_with fail
        go_loopw [72] (fun i wr => ∃ j : Nat, j ≤ n' ∧ j ≤ 20 ∧ i = .int .i64 (j : Int) ∧ Below w.heap.size w wr) (fun i _ => n' - (intOf i).toNat)
        case atStart => exact ⟨0, by omega, by omega, rfl, hB⟩
        case round =>
          clear hB
          obtain ⟨j, hj, hj20, rfl, hB⟩ := hrel
          by_cases hjt : j < n'
          · obtain ⟨⟨x, y, z⟩, hm⟩ := elem_at (l := rs) (k := j) (by rw [HL'.out]; exact hjt)
            obtain ⟨ad, rfl, hb, d0, d1, d2⟩ := three_at (HR'.out.below hB) hm
            have hsz := hB.size
            clear hm
            by_cases h20 : j = 20
            · have g20 : ((j : Int) == 20) = true := by simp; omega
              have B2 := hB.alloc hsz (.cells #[.int .i64 x, .int .i64 y, .int .i64 z] 56)
              clear h20 hj20 hB
              go_wp2
              go_ret
              exact ⟨rfl, B2⟩
            · have g20 : ((j : Int) == 20) = false := by simp; omega
              have HJ := Lib.hid (show j + 1 ≤ n' ∧ j + 1 ≤ 20 by omega)
              clear h20 hj20
              cases hrv : (regularV x y z).2 with
              | true =>
                obtain ⟨LR, hLR⟩ : ∃ LR, (regularV x y z).1 = LR := ⟨_, rfl⟩
                have hnb := reg_bound x y z
                rw [hLR] at hnb
                have HG := Lib.hid (fun u => HRe x y z u)
                have HM := Lib.hid (fun u => rregular_any x y z u)
                rw [show regR x y z = (LR, 0) from by unfold regR; rw [if_pos hrv, hLR]] at HG
                rw [show regularV x y z = (LR, true) from by rw [← hLR, ← hrv]] at HM
                clear hrv hLR
                have K := Blk.new wr 56 #[.int .i64 x, .int .i64 y, .int .i64 z]
                have B := hB.alloc hsz (.cells #[.int .i64 x, .int .i64 y, .int .i64 z] 56)
                clear hB
                go_wp2_with fail
                refine (HG.out _).mono ?_
                rintro e w2 ⟨A1, n1, c1, rfl, hn1, hA1, h2⟩
                clear hn1
                replace K := K.below h2 K.lt
                replace B := B.trans (h2.mono B.size)
                have q0 := K.cell 0
                have q1 := K.cell 1
                have q2 := K.cell 2
                have kl := K.lt
                have K1 := Blk.new w2 27 #[.slice A1 n1 c1]
                have KB := K.alloc (.cells #[.slice A1 n1 c1] 27)
                have BB := B.alloc B.size (.cells #[.slice A1 n1 c1] 27)
                have hA1b := hA1.below ((Below.refl _ _).alloc (Nat.le_refl _) (.cells #[.slice A1 n1 c1] 27))
                clear d0 d1 d2 h2 K B hA1 HG
                go_wp2_with fail
                refine (HM.out _).mono ?_
                rintro e w3 ⟨A2, n2, c2, rfl, hn2, hc2, hf2, h3⟩
                have k1l := K1.lt
                have BB3 := BB.trans (h3.mono BB.size)
                have hA1c := hA1b.below h3
                have hA2 : At w3 A2 n2 c2 LR := ⟨hf2.1, hc2, by rw [hn2]; exact hnb⟩
                have K1c := (K1.below h3 k1l).alloc (.cells #[.slice A2 n2 c2] 27)
                have K2 := Blk.new w3 27 #[.slice A2 n2 c2]
                have hA1d := hA1c.below ((Below.refl _ _).alloc (Nat.le_refl _) (.cells #[.slice A2 n2 c2] 27))
                have hA2d := hA2.below ((Below.refl _ _).alloc (Nat.le_refl _) (.cells #[.slice A2 n2 c2] 27))
                have BB4 := BB3.alloc BB3.size (.cells #[.slice A2 n2 c2] 27)
                have HS := Lib.hid (rsame_any A1 A2 n1 c1 n2 c2 LR LR _ hA1d.1 hA2d.1 (by have := hA1d.2.2; unfold maxLen; omega))
                rw [show sameB LR LR = true from decide_eq_true rfl] at HS
                have p0 := K1c.cell 0
                have p1 := K2.cell 0
                clear q0 q1 q2 kl KB BB hA1b h3 hA1c hA2 hA1d hA2d hf2 hc2 hn2 K1 K1c K2 BB3 HM k1l
                go_wp2_with fail
                refine HS.out.mono ?_
                rintro e w4 ⟨rfl, h4⟩
                have BB5 := BB4.trans (h4.mono BB4.size)
                clear p0 p1 h4 BB4 HS
                go_wp2
                go_roundw
                case rel => exact ⟨j + 1, HJ.out.1, HJ.out.2, by go_num, BB5⟩
                case measure => have := HJ.out.1; simp [intOf]; omega
              | false =>
                have hnil := reg_nil hrv
                have HG := Lib.hid (fun u => HRe x y z u)
                have HM := Lib.hid (fun u => rregular_any x y z u)
                rw [show regR x y z = (([] : List (Int × Int)), 2) from by unfold regR; rw [if_neg (by rw [hrv]; simp)]] at HG
                rw [show regularV x y z = (([] : List (Int × Int)), false) from by rw [← hnil, ← hrv]] at HM
                clear hrv hnil
                have K := Blk.new wr 56 #[.int .i64 x, .int .i64 y, .int .i64 z]
                have B := hB.alloc hsz (.cells #[.int .i64 x, .int .i64 y, .int .i64 z] 56)
                clear hB
                go_wp2_with fail
                refine (HG.out _).mono ?_
                rintro e w2 ⟨A1, n1, c1, rfl, hn1, hA1, h2⟩
                clear hn1
                replace K := K.below h2 K.lt
                replace B := B.trans (h2.mono B.size)
                have q0 := K.cell 0
                have q1 := K.cell 1
                have q2 := K.cell 2
                have kl := K.lt
                have K1 := Blk.new w2 27 #[.slice A1 n1 c1]
                have KB := K.alloc (.cells #[.slice A1 n1 c1] 27)
                have BB := B.alloc B.size (.cells #[.slice A1 n1 c1] 27)
                have hA1b := hA1.below ((Below.refl _ _).alloc (Nat.le_refl _) (.cells #[.slice A1 n1 c1] 27))
                clear d0 d1 d2 h2 K B hA1 HG
                go_wp2_with fail
                refine (HM.out _).mono ?_
                rintro e w3 ⟨A2, n2, c2, rfl, hn2, hc2, hf2, h3⟩
                have k1l := K1.lt
                have BB3 := BB.trans (h3.mono BB.size)
                have hA1c := hA1b.below h3
                have hA2 : At w3 A2 n2 c2 ([] : List (Int × Int)) := ⟨hf2.1, hc2, by rw [hn2]; exact by simp⟩
                have K1c := (K1.below h3 k1l).alloc (.cells #[.slice A2 n2 c2] 27)
                have K2 := Blk.new w3 27 #[.slice A2 n2 c2]
                have hA1d := hA1c.below ((Below.refl _ _).alloc (Nat.le_refl _) (.cells #[.slice A2 n2 c2] 27))
                have hA2d := hA2.below ((Below.refl _ _).alloc (Nat.le_refl _) (.cells #[.slice A2 n2 c2] 27))
                have BB4 := BB3.alloc BB3.size (.cells #[.slice A2 n2 c2] 27)
                have HS := Lib.hid (rsame_any A1 A2 n1 c1 n2 c2 ([] : List (Int × Int)) ([] : List (Int × Int)) _ hA1d.1 hA2d.1 (by have := hA1d.2.2; unfold maxLen; omega))
                rw [show sameB ([] : List (Int × Int)) ([] : List (Int × Int)) = true from decide_eq_true rfl] at HS
                have p0 := K1c.cell 0
                have p1 := K2.cell 0
                clear q0 q1 q2 kl KB BB hA1b h3 hA1c hA2 hA1d hA2d hf2 hc2 hn2 K1 K1c K2 BB3 HM k1l
                go_wp2_with fail
                refine HS.out.mono ?_
                rintro e w4 ⟨rfl, h4⟩
                have BB5 := BB4.trans (h4.mono BB4.size)
                clear p0 p1 h4 BB4 HS
                go_wp2
                go_roundw
                case rel => exact ⟨j + 1, HJ.out.1, HJ.out.2, by go_num, BB5⟩
                case measure => have := HJ.out.1; simp [intOf]; omega
          · obtain rfl : n' = j := by omega
            go_wp2
            go_ret
            exact ⟨rfl, hB⟩
      · have g20 : ((k : Int) == 20) = false := by simp; omega
        have HJ := Lib.hid (show k + 1 ≤ n ∧ k + 1 ≤ 20 by omega)
        clear h20 hk20
        by_cases v1 : v < 1
        · skip
          have HF := Lib.hid (fun u => HFl v u)
          rw [show flatR v = ([], 2) from if_neg (by omega)] at HF
          go_wp2_with fail
          refine (HF.out _).mono ?_
          rintro e w2 ⟨A1, n1, c1, rfl, hn1, hA1, h2⟩
          obtain rfl : n1 = 0 := hn1
          have B := hB.trans (h2.mono hB.size)
          have K1 := Blk.new w2 27 #[.slice A1 0 c1]
          have BB := B.alloc B.size (.cells #[.slice A1 0 c1] 27)
          have p0 := K1.cell 0
          clear h2 hA1 B K1 HF
          go_wp2
          go_roundw
          case rel => exact ⟨k + 1, HJ.out.1, HJ.out.2, by go_num, BB⟩
          case measure => have := HJ.out.1; simp [intOf]; omega
        · by_cases v8 : 8 < v
          · skip
            have HF := Lib.hid (fun u => HFl v u)
            rw [show flatR v = ([], 2) from if_neg (by omega)] at HF
            go_wp2_with fail
            refine (HF.out _).mono ?_
            rintro e w2 ⟨A1, n1, c1, rfl, hn1, hA1, h2⟩
            obtain rfl : n1 = 0 := hn1
            have B := hB.trans (h2.mono hB.size)
            have K1 := Blk.new w2 27 #[.slice A1 0 c1]
            have BB := B.alloc B.size (.cells #[.slice A1 0 c1] 27)
            have p0 := K1.cell 0
            clear h2 hA1 B K1 HF
            go_wp2
            go_roundw
            case rel => exact ⟨k + 1, HJ.out.1, HJ.out.2, by go_num, BB⟩
            case measure => have := HJ.out.1; simp [intOf]; omega
          · obtain ⟨m, rfl⟩ := Int.eq_ofNat_of_zero_le (show 0 ≤ v by omega)
            have HF := Lib.hid (fun u => HFl (m : Int) u)
            rw [show flatR (m : Int) = ((List.range m).map fun (k : Nat) => ((0 : Int), (k : Int)), 0) from if_pos (by omega)] at HF
            go_wp2_with fail
            refine (HF.out _).mono ?_
            rintro e w2 ⟨A1, n1, c1, rfl, hn1, hA1, h2⟩
            obtain rfl : m = n1 := by rw [hn1]; simp
            have HBB := Lib.hid (hB.trans (h2.mono hB.size))
            have K1 := Blk.new w2 27 #[.slice A1 m c1]
            have HA1 := Lib.hid hA1
            have p0 := K1.cell 0
            clear h2 hA1 K1 HF hc hn1
            go_wp2_with fail
            go_loopw [59] (fun i wr => ∃ q : Nat, q ≤ m ∧ i = .int .i64 (q : Int) ∧ Below w2.heap.size w2 wr) (fun i _ => m - (intOf i).toNat)
            case atStart => exact ⟨0, by omega, rfl, (Below.refl _ _).alloc (Nat.le_refl _) _⟩
            case round =>
              clear p0
              obtain ⟨q, hq, rfl, Bq⟩ := hrel
              by_cases hqm : q < m
              · obtain ⟨ad2, rfl, hb2, d0, d1⟩ := seat_at (HA1.out.1.below Bq) (flat_at_ hqm)
                have Bq2 := Bq.alloc Bq.size (.cells #[.int .i64 0, .int .i64 (q : Int)] 37)
                clear Bq
                go_wp2
                go_roundw
                case rel => exact ⟨q + 1, by omega, by go_num, Bq2⟩
                case measure => simp [intOf]; omega
              · obtain rfl : m = q := by omega
                have B3 := HBB.out.trans (Bq.mono HBB.out.size)
                clear Bq
                go_wp2
                go_roundw
                case rel => exact ⟨k + 1, HJ.out.1, HJ.out.2, by go_num, B3⟩
                case measure => have := HJ.out.1; simp [intOf]; omega
    · obtain rfl : n = k := by omega
      clear hk20
      go_wp2_with fail
      go_loopw [72] (fun i wr => ∃ j : Nat, j ≤ n' ∧ j ≤ 20 ∧ i = .int .i64 (j : Int) ∧ Below w.heap.size w wr) (fun i _ => n' - (intOf i).toNat)
      case atStart => exact ⟨0, by omega, by omega, rfl, hB⟩
      case round =>
        clear hB
        obtain ⟨j, hj, hj20, rfl, hB⟩ := hrel
        by_cases hjt : j < n'
        · obtain ⟨⟨x, y, z⟩, hm⟩ := elem_at (l := rs) (k := j) (by rw [HL'.out]; exact hjt)
          obtain ⟨ad, rfl, hb, d0, d1, d2⟩ := three_at (HR'.out.below hB) hm
          have hsz := hB.size
          clear hm
          by_cases h20 : j = 20
          · have g20 : ((j : Int) == 20) = true := by simp; omega
            have B2 := hB.alloc hsz (.cells #[.int .i64 x, .int .i64 y, .int .i64 z] 56)
            clear h20 hj20 hB
            go_wp2
            go_ret
            exact ⟨rfl, B2⟩
          · have g20 : ((j : Int) == 20) = false := by simp; omega
            have HJ := Lib.hid (show j + 1 ≤ n' ∧ j + 1 ≤ 20 by omega)
            clear h20 hj20
            cases hrv : (regularV x y z).2 with
            | true =>
              obtain ⟨LR, hLR⟩ : ∃ LR, (regularV x y z).1 = LR := ⟨_, rfl⟩
              have hnb := reg_bound x y z
              rw [hLR] at hnb
              have HG := Lib.hid (fun u => HRe x y z u)
              have HM := Lib.hid (fun u => rregular_any x y z u)
              rw [show regR x y z = (LR, 0) from by unfold regR; rw [if_pos hrv, hLR]] at HG
              rw [show regularV x y z = (LR, true) from by rw [← hLR, ← hrv]] at HM
              clear hrv hLR
              have K := Blk.new wr 56 #[.int .i64 x, .int .i64 y, .int .i64 z]
              have B := hB.alloc hsz (.cells #[.int .i64 x, .int .i64 y, .int .i64 z] 56)
              clear hB
              go_wp2_with fail
              refine (HG.out _).mono ?_
              rintro e w2 ⟨A1, n1, c1, rfl, hn1, hA1, h2⟩
              clear hn1
              replace K := K.below h2 K.lt
              replace B := B.trans (h2.mono B.size)
              have q0 := K.cell 0
              have q1 := K.cell 1
              have q2 := K.cell 2
              have kl := K.lt
              have K1 := Blk.new w2 27 #[.slice A1 n1 c1]
              have KB := K.alloc (.cells #[.slice A1 n1 c1] 27)
              have BB := B.alloc B.size (.cells #[.slice A1 n1 c1] 27)
              have hA1b := hA1.below ((Below.refl _ _).alloc (Nat.le_refl _) (.cells #[.slice A1 n1 c1] 27))
              clear d0 d1 d2 h2 K B hA1 HG
              go_wp2_with fail
              refine (HM.out _).mono ?_
              rintro e w3 ⟨A2, n2, c2, rfl, hn2, hc2, hf2, h3⟩
              have k1l := K1.lt
              have BB3 := BB.trans (h3.mono BB.size)
              have hA1c := hA1b.below h3
              have hA2 : At w3 A2 n2 c2 LR := ⟨hf2.1, hc2, by rw [hn2]; exact hnb⟩
              have K1c := (K1.below h3 k1l).alloc (.cells #[.slice A2 n2 c2] 27)
              have K2 := Blk.new w3 27 #[.slice A2 n2 c2]
              have hA1d := hA1c.below ((Below.refl _ _).alloc (Nat.le_refl _) (.cells #[.slice A2 n2 c2] 27))
              have hA2d := hA2.below ((Below.refl _ _).alloc (Nat.le_refl _) (.cells #[.slice A2 n2 c2] 27))
              have BB4 := BB3.alloc BB3.size (.cells #[.slice A2 n2 c2] 27)
              have HS := Lib.hid (rsame_any A1 A2 n1 c1 n2 c2 LR LR _ hA1d.1 hA2d.1 (by have := hA1d.2.2; unfold maxLen; omega))
              rw [show sameB LR LR = true from decide_eq_true rfl] at HS
              have p0 := K1c.cell 0
              have p1 := K2.cell 0
              clear q0 q1 q2 kl KB BB hA1b h3 hA1c hA2 hA1d hA2d hf2 hc2 hn2 K1 K1c K2 BB3 HM k1l
              go_wp2_with fail
              refine HS.out.mono ?_
              rintro e w4 ⟨rfl, h4⟩
              have BB5 := BB4.trans (h4.mono BB4.size)
              clear p0 p1 h4 BB4 HS
              go_wp2
              go_roundw
              case rel => exact ⟨j + 1, HJ.out.1, HJ.out.2, by go_num, BB5⟩
              case measure => have := HJ.out.1; simp [intOf]; omega
            | false =>
              have hnil := reg_nil hrv
              have HG := Lib.hid (fun u => HRe x y z u)
              have HM := Lib.hid (fun u => rregular_any x y z u)
              rw [show regR x y z = (([] : List (Int × Int)), 2) from by unfold regR; rw [if_neg (by rw [hrv]; simp)]] at HG
              rw [show regularV x y z = (([] : List (Int × Int)), false) from by rw [← hnil, ← hrv]] at HM
              clear hrv hnil
              have K := Blk.new wr 56 #[.int .i64 x, .int .i64 y, .int .i64 z]
              have B := hB.alloc hsz (.cells #[.int .i64 x, .int .i64 y, .int .i64 z] 56)
              clear hB
              go_wp2_with fail
              refine (HG.out _).mono ?_
              rintro e w2 ⟨A1, n1, c1, rfl, hn1, hA1, h2⟩
              clear hn1
              replace K := K.below h2 K.lt
              replace B := B.trans (h2.mono B.size)
              have q0 := K.cell 0
              have q1 := K.cell 1
              have q2 := K.cell 2
              have kl := K.lt
              have K1 := Blk.new w2 27 #[.slice A1 n1 c1]
              have KB := K.alloc (.cells #[.slice A1 n1 c1] 27)
              have BB := B.alloc B.size (.cells #[.slice A1 n1 c1] 27)
              have hA1b := hA1.below ((Below.refl _ _).alloc (Nat.le_refl _) (.cells #[.slice A1 n1 c1] 27))
              clear d0 d1 d2 h2 K B hA1 HG
              go_wp2_with fail
              refine (HM.out _).mono ?_
              rintro e w3 ⟨A2, n2, c2, rfl, hn2, hc2, hf2, h3⟩
              have k1l := K1.lt
              have BB3 := BB.trans (h3.mono BB.size)
              have hA1c := hA1b.below h3
              have hA2 : At w3 A2 n2 c2 ([] : List (Int × Int)) := ⟨hf2.1, hc2, by rw [hn2]; exact by simp⟩
              have K1c := (K1.below h3 k1l).alloc (.cells #[.slice A2 n2 c2] 27)
              have K2 := Blk.new w3 27 #[.slice A2 n2 c2]
              have hA1d := hA1c.below ((Below.refl _ _).alloc (Nat.le_refl _) (.cells #[.slice A2 n2 c2] 27))
              have hA2d := hA2.below ((Below.refl _ _).alloc (Nat.le_refl _) (.cells #[.slice A2 n2 c2] 27))
              have BB4 := BB3.alloc BB3.size (.cells #[.slice A2 n2 c2] 27)
              have HS := Lib.hid (rsame_any A1 A2 n1 c1 n2 c2 ([] : List (Int × Int)) ([] : List (Int × Int)) _ hA1d.1 hA2d.1 (by have := hA1d.2.2; unfold maxLen; omega))
              rw [show sameB ([] : List (Int × Int)) ([] : List (Int × Int)) = true from decide_eq_true rfl] at HS
              have p0 := K1c.cell 0
              have p1 := K2.cell 0
              clear q0 q1 q2 kl KB BB hA1b h3 hA1c hA2 hA1d hA2d hf2 hc2 hn2 K1 K1c K2 BB3 HM k1l
              go_wp2_with fail
              refine HS.out.mono ?_
              rintro e w4 ⟨rfl, h4⟩
              have BB5 := BB4.trans (h4.mono BB4.size)
              clear p0 p1 h4 BB4 HS
              go_wp2
              go_roundw
              case rel => exact ⟨j + 1, HJ.out.1, HJ.out.2, by go_num, BB5⟩
              case measure => have := HJ.out.1; simp [intOf]; omega
        · obtain rfl : n' = j := by omega
          go_wp2
          go_ret
          exact ⟨rfl, hB⟩

end Go.Proofs.Ytfalkiinlkfanaa
