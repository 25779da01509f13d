/-
  TopoMetric's walk, on what is asked of the landed calls.
-/
import Derived.Test.YtfalkiinlkfanaaTp
namespace Go.Proofs.Ytfalkiinlkfanaa
open Go.RowKit

set_option maxRecDepth 100000 in
set_option maxHeartbeats 16000000 in
theorem metric_walk (HCk : TCheckOk) (HDi : TDistOk) (HSi : TSiblingsOk) (A : Option Addr) (n c : Nat) (l : List (Int × Int)) (w : World) (hR : Reads w w.heap.size 2 A n (svs l)) (hnc : n ≤ c)
    (hk : ∀ u, Calls Try.prog 10 #[] u (Said (.bool true) u)) :
    Calls Try.prog 7 #[.agg #[.slice A n c]] w (Said (.bool true) w) := by
  have HK := Lib.hid hk
  have HS := Lib.hid (fun u (hb : Below w.heap.size w u) => short_any A n c l u ((hR.below hb).more hb.size) hnc)
  obtain ⟨K, B⟩ : Blk (w.alloc (.cells #[.slice A n c] 27)) w.heap.size 27 #[.slice A n c] ∧ Below w.heap.size w (w.alloc (.cells #[.slice A n c] 27)) := ⟨Blk.new _ _ _, (Below.refl _ _).alloc (Nat.le_refl _) _⟩
  have HB := Lib.hid (And.intro K B)
  have h9 : (l.take 9).length ≤ 9 := List.length_take_le _ _
  clear hk hR K B
  go_enter Try.func7, Try.ntmps7
  go_wp2_with fail
  refine (HK.out _).mono ?_
  rintro e w1 ⟨rfl, h1⟩
  have K1 := HB.out.1.below h1 HB.out.1.lt
  have B1 := HB.out.2.trans (h1.mono HB.out.2.size)
  have c0 := K1.cell 0
  clear h1 HB HK
  go_wp2_with fail
  refine (HS.out _ B1).mono ?_
  rintro e w2 ⟨A2, n2, c2, rfl, hl2, hc2, hr2, h2⟩
  generalize l.take 9 = L at hl2 hr2 h9
  have n9 : n2 ≤ 9 := by omega
  have hAt : At w2 A2 n2 c2 L := ⟨hr2.1, hc2, by omega⟩
  have B2 := B1.trans (h2.mono B1.size)
  clear h2 hr2 hl2 hc2 B1 K1 c0 HS h9
  have K3 := Blk.new w2 27 #[.slice A2 n2 c2]
  have hAt3 := hAt.below ((Below.refl _ _).alloc (Nat.le_refl _) (.cells #[.slice A2 n2 c2] 27))
  have B3 := B2.alloc B2.size (.cells #[.slice A2 n2 c2] 27)
  have z3 : (w2.alloc (.cells #[.slice A2 n2 c2] 27)).cell? ⟨w2.heap.size, 0, none⟩ = some (.slice A2 n2 c2) := K3.cell 0
  have HCx := HCk A2 n2 c2 L _ hAt3
  clear hAt B2
  cases hr : rightT L with
  | false =>
    rw [hr, if_neg (by simp)] at HCx
    have HC := Lib.hid HCx
    clear HCx
    go_wp2_with fail
    refine HC.out.mono ?_
    rintro e w3 ⟨rfl, h3⟩
    go_wp2
    go_ret
    exact ⟨rfl, B3.trans (h3.mono B3.size)⟩
  | true =>
    rw [hr, if_pos rfl] at HCx
    have HC := Lib.hid HCx
    have hlen := hAt3.len
    have n8 : n2 ≤ 8 := by have := (right_parts hr).2.2; omega
    clear HCx
    go_wp2_with fail
    refine HC.out.mono ?_
    rintro e w3 ⟨rfl, h3⟩
    have HA3 := Lib.hid (hAt3.below h3)
    replace K3 := K3.below h3 K3.lt
    replace B3 := B3.trans (h3.mono B3.size)
    have HB3 := Lib.hid B3
    have z4 : w3.cell? ⟨w2.heap.size, 0, none⟩ = some (.slice A2 n2 c2) := K3.cell 0
    have HD : Hid (∀ a b : Nat, a < n2 → b < n2 → ∀ u, Below w3.heap.size w3 u → Calls Try.prog 20 #[.agg #[.slice A2 n2 c2], .int .i64 (a : Int), .int .i64 (b : Int)] u (Said (.tuple #[.int .i64 (distN L a b), .int .i64 0]) u)) := Lib.hid (fun a b ha hb u hu => by
      have := HDi A2 n2 c2 L (a : Int) (b : Int) u (HA3.out.below hu)
      rwa [dist_in hr (by omega) (by omega)] at this)
    have HSib : Hid (∀ a : Nat, a < n2 → ∀ u, Below w3.heap.size w3 u → Calls Try.prog 19 #[.agg #[.slice A2 n2 c2], .int .i64 (a : Int)] u (Said (.int .u32 (setN (fun k => st L k == st L a) n2 : Int)) u)) := Lib.hid (fun a ha u hu => by
      have := HSi A2 n2 c2 L (a : Int) u (HA3.out.below hu)
      unfold sibV at this
      rwa [hr, hlen, cpuT_nat ha, Bool.and_true, if_pos rfl, Int.toNat_natCast] at this)
    have HHas : Hid (∀ a b : Nat, b < n2 → ∀ u, Calls Try.prog 34 #[.int .u32 (setN (fun k => st L k == st L a) n2 : Int), .int .i64 (b : Int)] u fun e w' => e = .returned (.bool (decide (distN L a b ≤ 1))) ∧ u = w') := Lib.hid (fun a b hb u => by
      have hs := setN_small (fun k => st L k == st L a) n8
      have := has_any (setN (fun k => st L k == st L a) n2 : Int) (b : Int) u (by omega) (by omega)
      rwa [has_set _ hb n8, ← dist_near] at this)
    clear h3 z3 hAt3 HC hr hlen B3
    generalize w2.heap.size = g3 at K3 z4 ⊢
    go_wp2_with fail
    go_loopw [27] (fun i wr => ∃ a : Nat, a ≤ n2 ∧ i = .int .i64 (a : Int) ∧ Blk wr g3 27 #[.slice A2 n2 c2] ∧ Below w3.heap.size w3 wr) (fun i _ => n2 - (intOf i).toNat)
    case atStart => exact ⟨0, by omega, rfl, K3, Below.refl _ _⟩
    case round =>
      clear K3 z4
      obtain ⟨a, ha, rfl, Kr, Br⟩ := hrel
      by_cases han : a < n2
      · go_wp2_with fail
        go_loopw [31] (fun i wr => ∃ b : Nat, b ≤ n2 ∧ i = .int .i64 (b : Int) ∧ Blk wr g3 27 #[.slice A2 n2 c2] ∧ Below w3.heap.size w3 wr) (fun i _ => n2 - (intOf i).toNat)
        case atStart => exact ⟨0, by omega, rfl, Kr, Br⟩
        case round =>
          clear Kr Br
          obtain ⟨b, hb, rfl, Kr, Br⟩ := hrel
          by_cases hbn : b < n2
          · have HP := Lib.hid (HD.out a b han hbn)
            have hq := HD.out b a hbn han
            rw [dist_sym L b a] at hq
            have HQ := Lib.hid hq
            have HSa := Lib.hid (HSib.out a han)
            have HHb := Lib.hid (HHas.out a b hbn)
            have H3 := Lib.hid (fun c' => dist_three L a b c')
            have e1 := dist_zero L a b
            generalize distN L a b = D' at HP HQ HHb H3 e1
            obtain ⟨b1, hb1⟩ : ∃ b1, ((a : Int) == (b : Int)) = b1 := ⟨_, rfl⟩
            obtain ⟨b2, hb2⟩ : ∃ b2, decide (D' ≤ 1) = b2 := ⟨_, rfl⟩
            rw [hb1] at e1
            rw [hb2] at HHb
            generalize setN (fun k => st L k == st L a) n2 = S at HSa HHb
            have zr : wr.cell? ⟨g3, 0, none⟩ = some (.slice A2 n2 c2) := Kr.cell 0
            clear hq
            go_wp2_with fail
            refine (HP.out _ Br).mono ?_
            rintro e w5 ⟨rfl, h2⟩
            have Kw5 := Kr.below h2 Kr.lt
            have Bw5 := Br.trans (h2.mono Br.size)
            have zw5 : w5.cell? ⟨g3, 0, none⟩ = some (.slice A2 n2 c2) := Kw5.cell 0
            clear h2 Kr Br zr
            go_wp2_with fail
            refine (HQ.out _ Bw5).mono ?_
            rintro e w6 ⟨rfl, h2⟩
            have Kw6 := Kw5.below h2 Kw5.lt
            have Bw6 := Bw5.trans (h2.mono Bw5.size)
            have zw6 : w6.cell? ⟨g3, 0, none⟩ = some (.slice A2 n2 c2) := Kw6.cell 0
            clear h2 Kw5 Bw5 zw5
            go_wp2_with fail
            refine (HSa.out _ Bw6).mono ?_
            rintro e w7 ⟨rfl, h2⟩
            have Kw7 := Kw6.below h2 Kw6.lt
            have Bw7 := Bw6.trans (h2.mono Bw6.size)
            have zw7 : w7.cell? ⟨g3, 0, none⟩ = some (.slice A2 n2 c2) := Kw7.cell 0
            clear h2 Kw6 Bw6 zw6
            go_wp2_with fail
            refine (HHb.out _).mono ?_
            rintro e w' ⟨rfl, rfl⟩
            clear HP HQ HSa HHb
            go_wp2_with fail
            go_loopw [78] (fun i wr => ∃ c' : Nat, c' ≤ n2 ∧ i = .int .i64 (c' : Int) ∧ Blk wr g3 27 #[.slice A2 n2 c2] ∧ Below w3.heap.size w3 wr) (fun i _ => n2 - (intOf i).toNat)
            case atStart => exact ⟨0, by omega, rfl, Kw7, Bw7⟩
            case round =>
              clear Kw7 Bw7 zw7
              obtain ⟨c', hc', rfl, Kr, Br⟩ := hrel
              by_cases hcn : c' < n2
              · have HP := Lib.hid (HD.out a c' han hcn)
                have HQ := Lib.hid (HD.out c' b hcn hbn)
                have hm := H3.out c'
                generalize distN L a c' = p at HP hm
                generalize distN L c' b = q at HQ hm
                have zr : wr.cell? ⟨g3, 0, none⟩ = some (.slice A2 n2 c2) := Kr.cell 0
                by_cases hpq : p < q
                · have hd : decide (q < D') = false := by simp; omega
                  clear hm
                  go_wp2_with fail
                  refine (HP.out _ Br).mono ?_
                  rintro e w8 ⟨rfl, h2⟩
                  have Kw8 := Kr.below h2 Kr.lt
                  have Bw8 := Br.trans (h2.mono Br.size)
                  have zw8 : w8.cell? ⟨g3, 0, none⟩ = some (.slice A2 n2 c2) := Kw8.cell 0
                  clear h2 Kr Br zr
                  go_wp2_with fail
                  refine (HQ.out _ Bw8).mono ?_
                  rintro e w9 ⟨rfl, h2⟩
                  have Kw9 := Kw8.below h2 Kw8.lt
                  have Bw9 := Bw8.trans (h2.mono Bw8.size)
                  have zw9 : w9.cell? ⟨g3, 0, none⟩ = some (.slice A2 n2 c2) := Kw9.cell 0
                  clear h2 Kw8 Bw8 zw8
                  go_wp2
                  go_roundw
                  case rel => exact ⟨c' + 1, by omega, by go_num, Kw9, Bw9⟩
                  case measure => simp [intOf]; omega
                · have hd : decide (p < D') = false := by simp; omega
                  clear hm
                  go_wp2_with fail
                  refine (HP.out _ Br).mono ?_
                  rintro e w8 ⟨rfl, h2⟩
                  have Kw8 := Kr.below h2 Kr.lt
                  have Bw8 := Br.trans (h2.mono Br.size)
                  have zw8 : w8.cell? ⟨g3, 0, none⟩ = some (.slice A2 n2 c2) := Kw8.cell 0
                  clear h2 Kr Br zr
                  go_wp2_with fail
                  refine (HQ.out _ Bw8).mono ?_
                  rintro e w9 ⟨rfl, h2⟩
                  have Kw9 := Kw8.below h2 Kw8.lt
                  have Bw9 := Bw8.trans (h2.mono Bw8.size)
                  have zw9 : w9.cell? ⟨g3, 0, none⟩ = some (.slice A2 n2 c2) := Kw9.cell 0
                  clear h2 Kw8 Bw8 zw8
                  go_wp2
                  go_roundw
                  case rel => exact ⟨c' + 1, by omega, by go_num, Kw9, Bw9⟩
                  case measure => simp [intOf]; omega
              · obtain rfl : n2 = c' := by omega
                go_wp2
                go_roundw
                case rel => exact ⟨b + 1, by omega, by go_num, Kr, Br⟩
                case measure => simp [intOf]; omega
          · obtain rfl : n2 = b := by omega
            go_wp2
            go_roundw
            case rel => exact ⟨a + 1, by omega, by go_num, Kr, Br⟩
            case measure => simp [intOf]; omega
      · obtain rfl : n2 = a := by omega
        go_wp2
        go_ret
        exact ⟨rfl, HB3.out.trans (Br.mono HB3.out.size)⟩

end Go.Proofs.Ytfalkiinlkfanaa
