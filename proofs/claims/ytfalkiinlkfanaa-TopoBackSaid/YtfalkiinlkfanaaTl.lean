/-
  TopoBack's walk, on what is asked of the landed calls.
-/
import Derived.Test.YtfalkiinlkfanaaTj
namespace Go.Proofs.Ytfalkiinlkfanaa
open Go.RowKit

theorem bytes_range {L : List (Int × Int)} (hr : rightT L = true) : ∀ (k : Nat) (x : Int), (bytesL L)[k]? = some x → 0 ≤ x ∧ x < 256 := fun k x hx => by
  obtain ⟨r1, _, r3⟩ := right_parts hr
  have hm := List.mem_of_getElem? hx
  unfold bytesL at hm
  rcases List.mem_cons.1 hm with rfl | h
  · omega
  · obtain ⟨s, hs, hxs⟩ := List.mem_flatMap.1 h
    rw [List.all_eq_true] at r1
    obtain ⟨s1, s2, s3, s4⟩ := seat_yes (x := s.1) (y := s.2) (r1 s hs)
    unfold sb at hxs
    simp only [List.mem_cons, List.not_mem_nil, or_false] at hxs
    rcases hxs with rfl | rfl <;> omega

set_option maxRecDepth 100000 in
set_option maxHeartbeats 16000000 in
theorem back_walk (HSa : TSameOk) (HEn : TEncodeOk) (HDd : TDecodeOk) (A A' : Option Addr) (n c n' c' : Nat) (l : List (Int × Int)) (bs : List Int) (w : World) (hR : Reads w w.heap.size 2 A n (svs l)) (hnc : n ≤ c)
    (hl' : bs.length = n') (hby : ∀ (k : Nat) (x : Int), bs[k]? = some x → 0 ≤ x ∧ x < 256) (hR' : Reads w w.heap.size 1 A' n' (bv bs)) (hnc' : n' ≤ c')
    (hk : ∀ u, Calls Try.prog 10 #[] u (Said (.bool true) u)) :
    Calls Try.prog 9 #[.agg #[.slice A n c], .slice A' n' c'] w (Said (.bool true) w) := by
  have HK := Lib.hid hk
  have HS := Lib.hid (fun u (hb : Below w.heap.size w u) => short_any A n c l u ((hR.below hb).more hb.size) hnc)
  obtain ⟨m, hm⟩ : ∃ m, m = min n' 600 := ⟨_, rfl⟩
  have hlt : (bs.take 600).length = m := by rw [List.length_take]; omega
  have hbt : bs.take 600 = bs.take m := by rw [hm, ← hl']; simp; omega
  have HR' : Hid (∀ u, Below w.heap.size w u → Reads u u.heap.size 1 A' m (bv (bs.take 600))) := Lib.hid (fun u hb => by
    have := bytes_first ((hR'.below hb).more hb.size) (m := m) (by omega)
    rwa [← hbt] at this)
  have hby2 : ∀ (k : Nat) (x : Int), (bs.take 600)[k]? = some x → 0 ≤ x ∧ x < 256 := fun k x hx => by
    rw [List.getElem?_take] at hx
    split at hx
    · exact hby k x hx
    · cases hx
  have HDc := Lib.hid (decode_cases (bs.take 600) hby2)
  have HDe : Hid (∀ u, Below w.heap.size w u → Calls Try.prog 32 #[.slice A' m c'] u (Gets (decodeV (bs.take 600)) u)) := Lib.hid (fun u hb => HDd A' m c' _ u hlt hby2 (HR'.out u hb) (by omega) (by omega))
  obtain ⟨K, B⟩ : Blk (w.alloc (.cells #[.slice A n c] 27)) w.heap.size 27 #[.slice A n c] ∧ Below w.heap.size w (w.alloc (.cells #[.slice A n c] 27)) := ⟨Blk.new _ _ _, (Below.refl _ _).alloc (Nat.le_refl _) _⟩
  have HB := Lib.hid (And.intro K B)
  have h9 : (l.take 9).length ≤ 9 := List.length_take_le _ _
  have m0 : (m : Int) ≤ (c' : Int) := by omega
  have HMm := Lib.hid hm
  clear hk hR K B hR' hby hl' hlt hbt hby2 hm
  go_enter Try.func9, Try.ntmps9
  go_wp2_with fail
  refine (HK.out _).mono ?_
  rintro e w1 ⟨rfl, h1⟩
  have K1 := HB.out.1.below h1 HB.out.1.lt
  have B1 := HB.out.2.trans (h1.mono HB.out.2.size)
  have c0 := K1.cell 0
  clear h1 HB HK
  go_wp2_with fail
  refine (HS.out _ B1).mono ?_
  rintro e w2 ⟨A2, n2, c2, rfl, hl2, hc2, hr2, h2⟩
  generalize l.take 9 = L at hl2 hr2 h9
  have n9 : n2 ≤ 9 := by omega
  have hAt : At w2 A2 n2 c2 L := ⟨hr2.1, hc2, by omega⟩
  have B2 := B1.trans (h2.mono B1.size)
  clear h2 hr2 hl2 hc2 B1 K1 c0 HS h9
  have K3 := Blk.new w2 27 #[.slice A2 n2 c2]
  have hAt3 := hAt.below ((Below.refl _ _).alloc (Nat.le_refl _) (.cells #[.slice A2 n2 c2] 27))
  have B3 := B2.alloc B2.size (.cells #[.slice A2 n2 c2] 27)
  have z3 : (w2.alloc (.cells #[.slice A2 n2 c2] 27)).cell? ⟨w2.heap.size, 0, none⟩ = some (.slice A2 n2 c2) := K3.cell 0
  have HCx := HEn A2 n2 c2 L _ hAt3
  clear hAt B2
  cases hr : rightT L with
  | false =>
    rw [show encR L = ([], 160) by unfold encR; rw [hr]; rfl] at HCx
    have HC := Lib.hid HCx
    clear HCx
    go_wp2_with fail
    refine HC.out.mono ?_
    rintro e w3 ⟨A3, n3, c3, rfl, hn3, hc3, hr3, h3⟩
    have B0 := B3.trans (h3.mono B3.size)
    clear hn3 hc3 hr3 h3 B3 K3 z3 hAt3 hr HC n9
    by_cases h6 : (600 : Int) < (n' : Int)
    · have hm : m = 600 := by have := HMm.out; omega
      subst hm
      rcases HDc.out with ⟨L2, hd, hr2, hbb⟩ | hd | hd
      · have HD := Lib.hid (fun u hb => hd ▸ HDe.out u hb)
        have HE := Lib.hid (fun (A : Option Addr) (n c : Nat) u (ha : At u A n c L2) => HEn A n c L2 u ha)
        rw [show encR L2 = (bs.take 600, 0) by unfold encR; rw [if_pos hr2, hbb]] at HE
        clear hd hr2 hbb
        go_wp2_with fail
        refine (HD.out _ B0).mono ?_
        rintro e w8 ⟨A8, n8, c8, rfl, hn8, hA8, h8⟩
        clear hn8
        have B8 := B0.trans (h8.mono B0.size)
        have K8 := Blk.new w8 27 #[.slice A8 n8 c8]
        have B9 := B8.alloc B8.size (.cells #[.slice A8 n8 c8] 27)
        have hA9 := hA8.below ((Below.refl _ _).alloc (Nat.le_refl _) (.cells #[.slice A8 n8 c8] 27))
        have p0 := K8.cell 0
        have HE9 := Lib.hid (HE.out A8 n8 c8 _ hA9)
        clear h8 B8 K8 hA8 hA9 B0 HD HE
        go_wp2_with fail
        refine HE9.out.mono ?_
        rintro e w10 ⟨A10, n10, c10, rfl, hn10, hc10, hr10, h10⟩
        have B10 := B9.trans (h10.mono B9.size)
        have HQ := Lib.hid (equal_same A10 A' n10 600 c10 c' _ _ (bs.take 600) w10 hr10 (HR'.out w10 B10))
        clear hn10 hc10 hr10 h10 B9 p0 HE9
        go_wp2_with fail
        refine HQ.out.mono ?_
        rintro e w' ⟨rfl, rfl⟩
        go_wp2
        go_ret
        exact ⟨rfl, B10⟩
      · have HD := Lib.hid (fun u hb => hd ▸ HDe.out u hb)
        clear hd
        go_wp2_with fail
        refine (HD.out _ B0).mono ?_
        rintro e w8 ⟨A8, n8, c8, rfl, hn8, hA8, h8⟩
        obtain rfl : n8 = 0 := hn8
        have B8 := B0.trans (h8.mono B0.size)
        have K8 := Blk.new w8 27 #[.slice A8 0 c8]
        have B9 := B8.alloc B8.size (.cells #[.slice A8 0 c8] 27)
        have p0 := K8.cell 0
        clear h8 B8 K8 hA8 B0 HD
        go_wp2
        go_ret
        exact ⟨rfl, B9⟩
      · have HD := Lib.hid (fun u hb => hd ▸ HDe.out u hb)
        clear hd
        go_wp2_with fail
        refine (HD.out _ B0).mono ?_
        rintro e w8 ⟨A8, n8, c8, rfl, hn8, hA8, h8⟩
        obtain rfl : n8 = 0 := hn8
        have B8 := B0.trans (h8.mono B0.size)
        have K8 := Blk.new w8 27 #[.slice A8 0 c8]
        have B9 := B8.alloc B8.size (.cells #[.slice A8 0 c8] 27)
        have p0 := K8.cell 0
        clear h8 B8 K8 hA8 B0 HD
        go_wp2
        go_ret
        exact ⟨rfl, B9⟩
    · have hm : m = n' := by have := HMm.out; omega
      subst hm
      rcases HDc.out with ⟨L2, hd, hr2, hbb⟩ | hd | hd
      · have HD := Lib.hid (fun u hb => hd ▸ HDe.out u hb)
        have HE := Lib.hid (fun (A : Option Addr) (n c : Nat) u (ha : At u A n c L2) => HEn A n c L2 u ha)
        rw [show encR L2 = (bs.take 600, 0) by unfold encR; rw [if_pos hr2, hbb]] at HE
        clear hd hr2 hbb
        go_wp2_with fail
        refine (HD.out _ B0).mono ?_
        rintro e w8 ⟨A8, n8, c8, rfl, hn8, hA8, h8⟩
        clear hn8
        have B8 := B0.trans (h8.mono B0.size)
        have K8 := Blk.new w8 27 #[.slice A8 n8 c8]
        have B9 := B8.alloc B8.size (.cells #[.slice A8 n8 c8] 27)
        have hA9 := hA8.below ((Below.refl _ _).alloc (Nat.le_refl _) (.cells #[.slice A8 n8 c8] 27))
        have p0 := K8.cell 0
        have HE9 := Lib.hid (HE.out A8 n8 c8 _ hA9)
        clear h8 B8 K8 hA8 hA9 B0 HD HE
        go_wp2_with fail
        refine HE9.out.mono ?_
        rintro e w10 ⟨A10, n10, c10, rfl, hn10, hc10, hr10, h10⟩
        have B10 := B9.trans (h10.mono B9.size)
        have HQ := Lib.hid (equal_same A10 A' n10 m c10 c' _ _ (bs.take 600) w10 hr10 (HR'.out w10 B10))
        clear hn10 hc10 hr10 h10 B9 p0 HE9
        go_wp2_with fail
        refine HQ.out.mono ?_
        rintro e w' ⟨rfl, rfl⟩
        go_wp2
        go_ret
        exact ⟨rfl, B10⟩
      · have HD := Lib.hid (fun u hb => hd ▸ HDe.out u hb)
        clear hd
        go_wp2_with fail
        refine (HD.out _ B0).mono ?_
        rintro e w8 ⟨A8, n8, c8, rfl, hn8, hA8, h8⟩
        obtain rfl : n8 = 0 := hn8
        have B8 := B0.trans (h8.mono B0.size)
        have K8 := Blk.new w8 27 #[.slice A8 0 c8]
        have B9 := B8.alloc B8.size (.cells #[.slice A8 0 c8] 27)
        have p0 := K8.cell 0
        clear h8 B8 K8 hA8 B0 HD
        go_wp2
        go_ret
        exact ⟨rfl, B9⟩
      · have HD := Lib.hid (fun u hb => hd ▸ HDe.out u hb)
        clear hd
        go_wp2_with fail
        refine (HD.out _ B0).mono ?_
        rintro e w8 ⟨A8, n8, c8, rfl, hn8, hA8, h8⟩
        obtain rfl : n8 = 0 := hn8
        have B8 := B0.trans (h8.mono B0.size)
        have K8 := Blk.new w8 27 #[.slice A8 0 c8]
        have B9 := B8.alloc B8.size (.cells #[.slice A8 0 c8] 27)
        have p0 := K8.cell 0
        clear h8 B8 K8 hA8 B0 HD
        go_wp2
        go_ret
        exact ⟨rfl, B9⟩
  | true =>
    rw [show encR L = (bytesL L, 0) by unfold encR; rw [if_pos hr]] at HCx
    have HC := Lib.hid HCx
    clear HCx
    go_wp2_with fail
    refine HC.out.mono ?_
    rintro e w3 ⟨A3, n3, c3, rfl, hn3, hc3, hr3, h3⟩
    have K := K3.below h3 K3.lt
    have hA := hAt3.below h3
    have B4 := B3.trans (h3.mono B3.size)
    have z4 := K.cell 0
    have hlb : (bytesL L).length = n3 := hn3.symm
    have hlen := hAt3.len
    have n17 : n3 ≤ 17 := by rw [← hlb, length_bytesL]; have := (right_parts hr).2.2; omega
    have hbL : ∀ (k : Nat) (x : Int), (bytesL L)[k]? = some x → 0 ≤ x ∧ x < 256 := bytes_range hr
    have HR3 := Lib.hid (fun u (hb : Below w3.heap.size w3 u) => (hr3.below hb).more hb.size)
    have hD1 := HDd A3 n3 c3 (bytesL L) w3 hlb hbL hr3 hc3 (by omega)
    rw [decode_bytes hr] at hD1
    have HD1 := Lib.hid hD1
    have HSh : Hid (∀ i, i < n3 → ∀ u, Below w3.heap.size w3 u → Calls Try.prog 32 #[.slice A3 i c3] u (Gets ([], 7) u)) := Lib.hid (fun i hi u hu => by
      have := HDd A3 i c3 ((bytesL L).take i) u (by rw [List.length_take]; omega) (fun k x hx => by
        rw [List.getElem?_take] at hx
        split at hx
        · exact hbL k x hx
        · cases hx) (bytes_first (HR3.out u hu) (by omega)) (by omega) (by omega)
      rwa [decode_short (by omega)] at this)
    have HB4 := Lib.hid B4
    have HC3 := Lib.hid hc3
    clear hD1 hn3 hr3 h3 hlb hlen hbL K3 B3 hAt3 z3 hr HC HR3
    go_wp2_with fail
    refine HD1.out.mono ?_
    rintro e w4 ⟨A4, n4, c4, rfl, hn4, hA4, h4⟩
    have hAb := (hA.below h4).below ((Below.refl _ _).alloc (Nat.le_refl _) (.cells #[.slice A4 n4 c4] 27))
    have hA4b := hA4.below ((Below.refl _ _).alloc (Nat.le_refl _) (.cells #[.slice A4 n4 c4] 27))
    have Kb := (K.below h4 K.lt).alloc (.cells #[.slice A4 n4 c4] 27)
    have K4 := Blk.new w4 27 #[.slice A4 n4 c4]
    have Bb : Below w3.heap.size w3 (w4.alloc (.cells #[.slice A4 n4 c4] 27)) := h4.alloc h4.size _
    have hS := HSa A2 A4 n2 c2 n4 c4 L L _ hAb hA4b
    rw [show sameB L L = true from decide_eq_true rfl] at hS
    have HSx := Lib.hid hS
    have p0 := Kb.cell 0
    have p1 := K4.cell 0
    have k4l := (K.below h4 K.lt).lt
    clear hS hAb hA4b hA4 hA Kb K4 h4 hn4 z4 K HD1 B4
    go_wp2_with fail
    refine HSx.out.mono ?_
    rintro e w5 ⟨rfl, h5⟩
    have B5 := Bb.trans (h5.mono Bb.size)
    clear p0 p1 h5 HSx Bb k4l
    go_wp2_with fail
    go_loopw [40] (fun i wr => ∃ q : Nat, q ≤ n3 ∧ i = .int .i64 (q : Int) ∧ Below w3.heap.size w3 wr) (fun i _ => n3 - (intOf i).toNat)
    case atStart => exact ⟨0, by omega, rfl, B5⟩
    case round =>
      clear B5
      obtain ⟨q, hq, rfl, Bq⟩ := hrel
      by_cases hqn : q < n3
      · have HSq := Lib.hid (HSh.out q hqn)
        have q0 : (q : Int) ≤ (c3 : Int) := by have := HC3.out; omega
        go_wp2_with fail
        refine (HSq.out _ Bq).mono ?_
        rintro e w6 ⟨A6, n6, c6, rfl, hn6, hA6, h6⟩
        have B6 := Bq.trans (h6.mono Bq.size)
        have B7 := B6.alloc B6.size (.cells #[.slice A6 n6 c6] 27)
        clear hn6 hA6 h6 B6 Bq
        go_wp2
        go_roundw
        case rel => exact ⟨q + 1, by omega, by go_num, B7⟩
        case measure => simp [intOf]; omega
      · obtain rfl : n3 = q := by omega
        have B0 := HB4.out.trans (Bq.mono HB4.out.size)
        clear Bq n17 n9
        by_cases h6 : (600 : Int) < (n' : Int)
        · have hm : m = 600 := by have := HMm.out; omega
          subst hm
          rcases HDc.out with ⟨L2, hd, hr2, hbb⟩ | hd | hd
          · have HD := Lib.hid (fun u hb => hd ▸ HDe.out u hb)
            have HE := Lib.hid (fun (A : Option Addr) (n c : Nat) u (ha : At u A n c L2) => HEn A n c L2 u ha)
            rw [show encR L2 = (bs.take 600, 0) by unfold encR; rw [if_pos hr2, hbb]] at HE
            clear hd hr2 hbb
            go_wp2_with fail
            refine (HD.out _ B0).mono ?_
            rintro e w8 ⟨A8, n8, c8, rfl, hn8, hA8, h8⟩
            clear hn8
            have B8 := B0.trans (h8.mono B0.size)
            have K8 := Blk.new w8 27 #[.slice A8 n8 c8]
            have B9 := B8.alloc B8.size (.cells #[.slice A8 n8 c8] 27)
            have hA9 := hA8.below ((Below.refl _ _).alloc (Nat.le_refl _) (.cells #[.slice A8 n8 c8] 27))
            have p0 := K8.cell 0
            have HE9 := Lib.hid (HE.out A8 n8 c8 _ hA9)
            clear h8 B8 K8 hA8 hA9 B0 HD HE
            go_wp2_with fail
            refine HE9.out.mono ?_
            rintro e w10 ⟨A10, n10, c10, rfl, hn10, hc10, hr10, h10⟩
            have B10 := B9.trans (h10.mono B9.size)
            have HQ := Lib.hid (equal_same A10 A' n10 600 c10 c' _ _ (bs.take 600) w10 hr10 (HR'.out w10 B10))
            clear hn10 hc10 hr10 h10 B9 p0 HE9
            go_wp2_with fail
            refine HQ.out.mono ?_
            rintro e w' ⟨rfl, rfl⟩
            go_wp2
            go_ret
            exact ⟨rfl, B10⟩
          · have HD := Lib.hid (fun u hb => hd ▸ HDe.out u hb)
            clear hd
            go_wp2_with fail
            refine (HD.out _ B0).mono ?_
            rintro e w8 ⟨A8, n8, c8, rfl, hn8, hA8, h8⟩
            obtain rfl : n8 = 0 := hn8
            have B8 := B0.trans (h8.mono B0.size)
            have K8 := Blk.new w8 27 #[.slice A8 0 c8]
            have B9 := B8.alloc B8.size (.cells #[.slice A8 0 c8] 27)
            have p0 := K8.cell 0
            clear h8 B8 K8 hA8 B0 HD
            go_wp2
            go_ret
            exact ⟨rfl, B9⟩
          · have HD := Lib.hid (fun u hb => hd ▸ HDe.out u hb)
            clear hd
            go_wp2_with fail
            refine (HD.out _ B0).mono ?_
            rintro e w8 ⟨A8, n8, c8, rfl, hn8, hA8, h8⟩
            obtain rfl : n8 = 0 := hn8
            have B8 := B0.trans (h8.mono B0.size)
            have K8 := Blk.new w8 27 #[.slice A8 0 c8]
            have B9 := B8.alloc B8.size (.cells #[.slice A8 0 c8] 27)
            have p0 := K8.cell 0
            clear h8 B8 K8 hA8 B0 HD
            go_wp2
            go_ret
            exact ⟨rfl, B9⟩
        · have hm : m = n' := by have := HMm.out; omega
          subst hm
          rcases HDc.out with ⟨L2, hd, hr2, hbb⟩ | hd | hd
          · have HD := Lib.hid (fun u hb => hd ▸ HDe.out u hb)
            have HE := Lib.hid (fun (A : Option Addr) (n c : Nat) u (ha : At u A n c L2) => HEn A n c L2 u ha)
            rw [show encR L2 = (bs.take 600, 0) by unfold encR; rw [if_pos hr2, hbb]] at HE
            clear hd hr2 hbb
            go_wp2_with fail
            refine (HD.out _ B0).mono ?_
            rintro e w8 ⟨A8, n8, c8, rfl, hn8, hA8, h8⟩
            clear hn8
            have B8 := B0.trans (h8.mono B0.size)
            have K8 := Blk.new w8 27 #[.slice A8 n8 c8]
            have B9 := B8.alloc B8.size (.cells #[.slice A8 n8 c8] 27)
            have hA9 := hA8.below ((Below.refl _ _).alloc (Nat.le_refl _) (.cells #[.slice A8 n8 c8] 27))
            have p0 := K8.cell 0
            have HE9 := Lib.hid (HE.out A8 n8 c8 _ hA9)
            clear h8 B8 K8 hA8 hA9 B0 HD HE
            go_wp2_with fail
            refine HE9.out.mono ?_
            rintro e w10 ⟨A10, n10, c10, rfl, hn10, hc10, hr10, h10⟩
            have B10 := B9.trans (h10.mono B9.size)
            have HQ := Lib.hid (equal_same A10 A' n10 m c10 c' _ _ (bs.take 600) w10 hr10 (HR'.out w10 B10))
            clear hn10 hc10 hr10 h10 B9 p0 HE9
            go_wp2_with fail
            refine HQ.out.mono ?_
            rintro e w' ⟨rfl, rfl⟩
            go_wp2
            go_ret
            exact ⟨rfl, B10⟩
          · have HD := Lib.hid (fun u hb => hd ▸ HDe.out u hb)
            clear hd
            go_wp2_with fail
            refine (HD.out _ B0).mono ?_
            rintro e w8 ⟨A8, n8, c8, rfl, hn8, hA8, h8⟩
            obtain rfl : n8 = 0 := hn8
            have B8 := B0.trans (h8.mono B0.size)
            have K8 := Blk.new w8 27 #[.slice A8 0 c8]
            have B9 := B8.alloc B8.size (.cells #[.slice A8 0 c8] 27)
            have p0 := K8.cell 0
            clear h8 B8 K8 hA8 B0 HD
            go_wp2
            go_ret
            exact ⟨rfl, B9⟩
          · have HD := Lib.hid (fun u hb => hd ▸ HDe.out u hb)
            clear hd
            go_wp2_with fail
            refine (HD.out _ B0).mono ?_
            rintro e w8 ⟨A8, n8, c8, rfl, hn8, hA8, h8⟩
            obtain rfl : n8 = 0 := hn8
            have B8 := B0.trans (h8.mono B0.size)
            have K8 := Blk.new w8 27 #[.slice A8 0 c8]
            have B9 := B8.alloc B8.size (.cells #[.slice A8 0 c8] 27)
            have p0 := K8.cell 0
            clear h8 B8 K8 hA8 B0 HD
            go_wp2
            go_ret
            exact ⟨rfl, B9⟩

end Go.Proofs.Ytfalkiinlkfanaa
