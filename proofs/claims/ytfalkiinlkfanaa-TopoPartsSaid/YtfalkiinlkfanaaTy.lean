/-
  TopoParts' walk, on what is asked of the landed calls.
-/
import Derived.Test.YtfalkiinlkfanaaTs
import Derived.Deep.RegionHeld3
import Derived.Deep.DeepCutAuto
import Derived.Deep.CutBlock
namespace Go.Proofs.Ytfalkiinlkfanaa
open Go.RowKit

theorem near_small8 {l : List (Int × Int)} {s : Int} {a : Nat} (h : l.length ≤ 8) : ofT (nearL l s a) 0 < 256 := by
  rw [near_set]
  exact setN_small _ h
theorem near_small {l : List (Int × Int)} {s : Int} {a : Nat} (h : l.length ≤ 9) : (nearL l s a).length ≤ 100000 := by
  have h1 := length_nearO l s a 4
  have h2 : 4 * l.length ≤ 36 := by omega
  unfold nearL
  omega
theorem and_allV {l : List (Int × Int)} (hr : rightT l = true) {s : Int} (h0 : 0 ≤ s) (h1 : s < 4294967296) (a : Nat) : bits .and .u32 s (allV l : Int) = ((ofT (nearL l s a) 0 : Nat) : Int) := by
  have h8 := (right_parts hr).2.2
  obtain ⟨n, rfl⟩ := Int.eq_ofNat_of_zero_le h0
  have h3 := setN_small (fun _ => true) h8
  rw [near_set]
  unfold allV
  rw [if_pos hr, u32_and _ _ h0 h1 (by omega) (by omega), Int.toNat_natCast, Int.toNat_natCast]
  congr 1
  refine Nat.eq_of_testBit_eq fun b => ?_
  rw [Nat.testBit_and, setN_bit, setN_bit]
  by_cases hb : b < l.length
  · rw [has_bit (by omega)]
    simp [hb]
  · simp [hb]

set_option maxRecDepth 100000 in
set_option maxHeartbeats 16000000 in
theorem parts_walk (HCk : TCheckOk) (HAl : TAllOk) (HSk : TSocketOk) (HNe : TNearOk) (HDi : TDistOk) (A : Option Addr) (n c : Nat) (l : List (Int × Int)) (cpu among : Int) (w : World) (hR : Reads w w.heap.size 2 A n (svs l)) (hnc : n ≤ c)
    (h0 : 0 ≤ among) (h1 : among < 4294967296) (hk : ∀ u, Calls Try.prog 10 #[] u (Said (.bool true) u)) :
    Calls Try.prog 8 #[.agg #[.slice A n c], .int .i64 cpu, .int .u32 among] w (Said (.bool true) w) := by
  have HK := Lib.hid hk
  have HS0 : Hid (0 ≤ among ∧ among < 4294967296) := Lib.hid ⟨h0, h1⟩
  have HS := Lib.hid (fun u (hb : Below w.heap.size w u) => short_any A n c l u ((hR.below hb).more hb.size) hnc)
  obtain ⟨K, B⟩ : Blk (w.alloc (.cells #[.slice A n c] 27)) w.heap.size 27 #[.slice A n c] ∧ Below w.heap.size w (w.alloc (.cells #[.slice A n c] 27)) := ⟨Blk.new _ _ _, (Below.refl _ _).alloc (Nat.le_refl _) _⟩
  have HB := Lib.hid (And.intro K B)
  have h9 : (l.take 9).length ≤ 9 := List.length_take_le _ _
  clear hk hR K B h0 h1
  go_enter Try.func8, Try.ntmps8
  go_wp2_with fail
  refine (HK.out _).mono ?_
  rintro e w1 ⟨rfl, h1⟩
  have K1 := HB.out.1.below h1 HB.out.1.lt
  have B1 := HB.out.2.trans (h1.mono HB.out.2.size)
  have c0 := K1.cell 0
  clear h1 HB HK
  go_wp2_with fail
  refine (HS.out _ B1).mono ?_
  rintro e w2 ⟨A2, n2, c2, rfl, hl2, hc2, hr2, h2⟩
  generalize l.take 9 = L at hl2 hr2 h9
  have n9 : n2 ≤ 9 := by omega
  have hAt : At w2 A2 n2 c2 L := ⟨hr2.1, hc2, by omega⟩
  have B2 := B1.trans (h2.mono B1.size)
  clear h2 hr2 hl2 hc2 B1 K1 c0 HS h9
  have K3 := Blk.new w2 27 #[.slice A2 n2 c2]
  have hAt3 := hAt.below ((Below.refl _ _).alloc (Nat.le_refl _) (.cells #[.slice A2 n2 c2] 27))
  have B3 := B2.alloc B2.size (.cells #[.slice A2 n2 c2] 27)
  have z3 : (w2.alloc (.cells #[.slice A2 n2 c2] 27)).cell? ⟨w2.heap.size, 0, none⟩ = some (.slice A2 n2 c2) := K3.cell 0
  have HCx := HCk A2 n2 c2 L _ hAt3
  clear hAt B2
  cases hr : rightT L with
  | false =>
    rw [hr, if_neg (by simp)] at HCx
    have HC := Lib.hid HCx
    clear HCx
    go_wp2_with fail
    refine HC.out.mono ?_
    rintro e w3 ⟨rfl, h3⟩
    go_wp2
    go_ret
    exact ⟨rfl, B3.trans (h3.mono B3.size)⟩
  | true =>
    rw [hr, if_pos rfl] at HCx
    have HC := Lib.hid HCx
    have hlen := hAt3.len
    have n8 : n2 ≤ 8 := by have := (right_parts hr).2.2; omega
    clear HCx
    go_wp2_with fail
    refine HC.out.mono ?_
    rintro e w3 ⟨rfl, h3⟩
    have HA3 := Lib.hid (hAt3.below h3)
    replace K3 := K3.below h3 K3.lt
    have HB3 := Lib.hid (B3.trans (h3.mono B3.size))
    have HL := Lib.hid hlen
    have HN8 := Lib.hid n8
    have HR := Lib.hid hr
    have HSoc : Hid (∀ s : Nat, ∀ u, Below w3.heap.size w3 u → Calls Try.prog 18 #[.agg #[.slice A2 n2 c2], .int .i64 (s : Int)] u (Said (.int .u32 (sockV L (s : Int) : Int)) u)) := Lib.hid (fun s u hu => HSk A2 n2 c2 L (s : Int) u (HA3.out.below hu))
    have HAll : Hid (∀ u, Below w3.heap.size w3 u → Calls Try.prog 16 #[.agg #[.slice A2 n2 c2]] u (Said (.int .u32 (allV L : Int)) u)) := Lib.hid (fun u hu => HAl A2 n2 c2 L u (HA3.out.below hu))
    have HCnt : Hid (∀ u, Calls Try.prog 35 #[.int .u32 (allV L : Int)] u (Draws (.int .i64 (n2 : Int)) u)) := Lib.hid (fun u => by
      have := count_any (allV L) u (by unfold allV; rw [if_pos hr]; exact setN_small _ (by omega))
      rwa [ones_allV hr, hlen] at this)
    have HMet : Hid (∀ s : Nat, bits .and .u32 (metV L s : Int) (sockV L (s : Int) : Int) = 0 ∧ bits .or .u32 (metV L s : Int) (sockV L (s : Int) : Int) = (metV L (s + 1) : Int)) := Lib.hid (fun s => by
      have g1 : metV L s < 256 := setN_small _ (by omega)
      have g2 : sockV L (s : Int) < 256 := by unfold sockV; rw [if_pos hr]; exact setN_small _ (by omega)
      exact ⟨by rw [u32_and _ _ (by omega) (by omega) (by omega) (by omega), Int.toNat_natCast, Int.toNat_natCast, met_and hr]; rfl, by rw [u32_or_nat _ _ (by omega) (by omega), met_or hr]⟩)
    have HM0 : Hid (metV L 0 = 0) := Lib.hid (met_none hr)
    have HM4 : Hid (metV L 4 = allV L) := Lib.hid (met_all hr)
    have HAnd : Hid (∀ a : Nat, among < 256 → bits .and .u32 among (allV L : Int) = ((ofT (nearL L among a) 0 : Nat) : Int)) := Lib.hid (fun a _ => and_allV hr HS0.out.1 HS0.out.2 a)
    replace B3 := Below.refl w3.heap.size w3
    have z : w3.cell? ⟨w2.heap.size, 0, none⟩ = some (.slice A2 n2 c2) := K3.cell 0
    clear h3 z3 hAt3 HC hr hlen n8 n9
    generalize w2.heap.size = g3 at K3 z ⊢
    go_wp2_with fail
    go_loopw [8, 27] (fun m i wr => ∃ s : Nat, s ≤ 4 ∧ m = .int .u32 ((metV L s : Nat) : Int) ∧ i = .int .i64 (s : Int) ∧ Blk wr g3 27 #[.slice A2 n2 c2] ∧ Below w3.heap.size w3 wr) (fun _ i _ => 4 - (intOf i).toNat)
    case atStart => exact ⟨0, by omega, by rw [HM0.out]; rfl, rfl, K3, B3⟩
    case round =>
      clear K3 B3 z
      obtain ⟨s, hs, rfl, rfl, K3, B3⟩ := hrel
      have z : wr.cell? ⟨g3, 0, none⟩ = some (.slice A2 n2 c2) := K3.cell 0
      by_cases hs4 : s < 4
      · have hd : decide ((s : Int) < 4) = true := by simp <;> omega
        have HS4 := Lib.hid hs4
        have HSo := Lib.hid (HSoc.out s)
        obtain ⟨e1, e2⟩ := HMet.out s
        generalize metV L s = M at e1 e2 ⊢
        generalize sockV L (s : Int) = S at e1 e2 HSo
        obtain ⟨M2, hM2⟩ : ∃ M2, metV L (s + 1) = M2 := ⟨_, rfl⟩
        rw [hM2] at e2
        have HM2 := Lib.hid hM2
        clear hs hM2
        go_wp2_with fail
        refine (HSo.out _ B3).mono ?_
        rintro e w5 ⟨rfl, h2⟩
        replace K3 := K3.below h2 K3.lt
        replace B3 := B3.trans (h2.mono B3.size)
        clear h2
        clear z HSo
        go_wp2
        go_roundw
        case rel => exact ⟨s + 1, HS4.out, by rw [HM2.out], by go_num, K3, B3⟩
        case measure => have := HS4.out; simp [intOf]; omega
      · have hd : decide ((s : Int) < 4) = false := by simp <;> omega
        have hM : metV L s = allV L := by rw [show s = 4 by omega]; exact HM4.out
        rw [hM]
        generalize allV L = M at HAll HCnt HAnd ⊢
        clear hs hs4 hM HMet HSoc HM0 HM4 z
        go_upto_region 15 with fail
        replace K3 : Blk (World.drew _) _ _ _ := K3
        replace B3 := B3.drew
        go_cut [52] (fun s52 wx => s52 = .bool false ∧ Blk wx g3 27 #[.slice A2 n2 c2] ∧ Below w3.heap.size w3 wx)
        case first =>
          refine wp_region_held_drew (S := fun W => Blk W g3 27 #[.slice A2 n2 c2] ∧ Below w3.heap.size w3 W) (by kernel_rfl) ⟨K3, B3⟩ (fun hS => ?_)
          generalize wr.drew = V at K3 B3 hS ⊢
          refine wpAnyH_take (i := 0) (v := .int .u32 (M : Int)) rfl (by kernel_rfl) (by kernel_rfl) (by kernel_rfl) (fun _ _ _ h => h) (Or.inl ⟨by kernel_rfl, fun u hSw => (by go_simp)⟩) hS ?_
          refine wpAnyH_take (i := 1) (v := .agg #[.slice A2 n2 c2]) rfl (by kernel_rfl) (by kernel_rfl) (by kernel_rfl) (fun _ _ _ h => h) (Or.inl ⟨by kernel_rfl, fun u hSw => (by have c0 : u.cell? ⟨g3, 0, none⟩ = some (.slice A2 n2 c2) := hSw.1.cell 0; go_simp)⟩) hS ?_
          refine wpAnyH_ready (rs := [2]) (by kernel_rfl) (by simp) ?_
          refine AllReadyH.cons rfl (fun K hK => ?_) (AllReadyH.nil)
          go_simp
          refine (HAll.out _ B3).mono ?_
          rintro e w1 ⟨rfl, h2⟩
          replace K3 := K3.below h2 K3.lt
          replace B3 := B3.trans (h2.mono B3.size)
          clear h2
          refine hK.out _ _ ⟨K3, B3⟩ (fun hS => ?_)
          clear hK K
          refine wpAnyH_take (i := 3) (v := .bool false) rfl (by kernel_rfl) (by kernel_rfl) (by kernel_rfl) (fun _ _ _ h => h) (Or.inl ⟨by kernel_rfl, fun u hSw => (by go_simp)⟩) hS ?_
          refine wpAnyH_take (i := 4) (v := .bool false) rfl (by kernel_rfl) (by kernel_rfl) (by kernel_rfl) (fun _ _ _ h => h) (Or.inl ⟨by kernel_rfl, fun u hSw => (by go_simp)⟩) hS ?_
          refine wpAnyH_take (i := 5) (v := .int .u32 (M : Int)) rfl (by kernel_rfl) (by kernel_rfl) (by kernel_rfl) (fun _ _ _ h => h) (Or.inl ⟨by kernel_rfl, fun u hSw => (by go_simp)⟩) hS ?_
          refine wpAnyH_take (i := 7) (v := .pointer (some ⟨g3, 0, none⟩)) rfl (by kernel_rfl) (by kernel_rfl) (by kernel_rfl) (fun _ _ _ h => h) (Or.inl ⟨by kernel_rfl, fun u hSw => (by go_simp)⟩) hS ?_
          refine wpAnyH_take (i := 8) (v := .slice A2 n2 c2) rfl (by kernel_rfl) (by kernel_rfl) (by kernel_rfl) (fun _ _ _ h => h) (Or.inl ⟨by kernel_rfl, fun u hSw => (by have c0 : u.cell? ⟨g3, 0, none⟩ = some (.slice A2 n2 c2) := hSw.1.cell 0; go_simp)⟩) hS ?_
          refine wpAnyH_take (i := 9) (v := .int .i64 (n2 : Int)) rfl (by kernel_rfl) (by kernel_rfl) (by kernel_rfl) (fun _ _ _ h => h) (Or.inl ⟨by kernel_rfl, fun u hSw => (by go_simp)⟩) hS ?_
          refine wpAnyH_ready (rs := [6]) (by kernel_rfl) (by simp) ?_
          refine AllReadyH.cons rfl (fun K hK => ?_) (AllReadyH.nil)
          go_simp
          refine (HCnt.out _).mono ?_
          rintro e w2 ⟨rfl, q, rfl⟩
          replace K3 := K3.drewN q
          replace B3 := below_drewN B3 q
          refine hK.out _ _ ⟨K3, B3⟩ (fun hS => ?_)
          clear hK K
          refine wpAnyH_take (i := 10) (v := .bool false) rfl (by kernel_rfl) (by kernel_rfl) (by kernel_rfl) (fun _ _ _ h => h) (Or.inl ⟨by kernel_rfl, fun u hSw => (by go_simp)⟩) hS ?_
          refine wpAnyH_take (i := 11) (v := .bool false) rfl (by kernel_rfl) (by kernel_rfl) (by kernel_rfl) (fun _ _ _ h => h) (Or.inl ⟨by kernel_rfl, fun u hSw => (by go_simp)⟩) hS ?_
          refine wpAnyH_done (by kernel_rfl) ?_ _
          go_wp2_with fail
          go_meet
          exact ⟨rfl, K3, B3⟩
        case rest =>
          clear K3 B3
          obtain ⟨rfl, K3, B3⟩ := hcut
          rename World => wx
          by_cases hc : cpuT L.length cpu = true
          · by_cases hs : among < 256
            · obtain ⟨a, rfl, ha⟩ := cpuT_true hc
              rw [HL.out] at ha
              have hN := HNe A2 n2 c2 L (a : Int) among wx (HA3.out.below B3) HS0.out.1 HS0.out.2
              rw [show nearR L (a : Int) among = (nearL L among a, 0) by unfold nearR; rw [if_pos HR.out, if_pos hc, if_pos hs, Int.toNat_natCast]] at hN
              have HNx := Lib.hid hN
              clear hN
              have z : wx.cell? ⟨g3, 0, none⟩ = some (.slice A2 n2 c2) := K3.cell 0
              go_wp2_with fail
              refine HNx.out.mono ?_
              rintro e w5 ⟨A5, n5, c5, rfl, hn5, hc5, hr5, h2⟩
              simp only [] at hn5 hr5
              have K5 := K3.below h2 K3.lt
              have B5 := B3.trans (h2.mono B3.size)
              clear h2 HNx z K3 B3
              have HX : Hid (∀ (k : Nat) (x : Int), (nearL L among a)[k]? = some x → cpuB x = true) := Lib.hid (fun k x hx => by
                obtain ⟨j, hj, _, rfl⟩ := mem_nearL.mp (List.mem_of_getElem? hx)
                have := HN8.out
                have := HL.out
                exact cpuB_yes (by omega) (by omega))
              have n5k : n5 ≤ 100000 := by have := near_small (l := L) (s := among) (a := a) (by have := HL.out; have := HN8.out; omega); omega
              have HOf := Lib.hid (of_any A5 n5 c5 (nearL L among a) w5 hn5 n5k hr5 HX.out)
              have e1 : bits .and .u32 among (M : Int) = ((ofT (nearL L among a) 0 : Nat) : Int) := HAnd.out a hs
              have hcn := fun u => count_any (ofT (nearL L among a) 0) u (near_small8 (by have := HL.out; have := HN8.out; omega))
              rw [near_count (by have := HL.out; have := HN8.out; omega), show (nearL L among a).length = n5 from hn5.symm] at hcn
              have HCn := Lib.hid hcn
              have HH := Lib.hid (fun u => has_any among (a : Int) u HS0.out.1 HS0.out.2)
              have HD5 : Hid (∀ (k : Nat) (x : Int), (nearL L among a)[k]? = some x → ∀ u, Below w5.heap.size w5 u → Calls Try.prog 20 #[.agg #[.slice A2 n2 c2], .int .i64 (a : Int), .int .i64 x] u (Said (.tuple #[.int .i64 (distN L a x.toNat), .int .i64 0]) u)) := Lib.hid (fun k x hx u hu => by
                obtain ⟨j, hj, _, rfl⟩ := mem_nearL.mp (List.mem_of_getElem? hx)
                have := HDi A2 n2 c2 L (a : Int) (j : Int) u (HA3.out.below (B5.trans (hu.mono B5.size)))
                rwa [dist_in HR.out (by have := HL.out; omega) (by omega)] at this)
              have HF : Hid (hasB among (a : Int) = true → (nearL L among a)[0]? = some (a : Int)) := Lib.hid (fun h => near_first (by have := HL.out; omega) h)
              have HSt : Hid (∀ (i : Nat) (x y : Int), (nearL L among a)[i]? = some x → (nearL L among a)[i + 1]? = some y → distN L a x.toNat ≤ distN L a y.toNat) := Lib.hid (fun i x y h1 h2 => near_step h1 h2)
              have HR5 := Lib.hid hr5
              have HL5 := Lib.hid hn5
              have HRg := Lib.hid (fun x : Int => dist_range L a x.toNat)
              clear hc hs ha hn5 hc5 hr5 hcn HX HAnd
              generalize ofT (nearL L among a) 0 = S at HOf e1 HCn
              generalize nearL L among a = N at *
              have z : w5.cell? ⟨g3, 0, none⟩ = some (.slice A2 n2 c2) := K5.cell 0
              go_wp2_with fail
              refine HOf.out.mono ?_
              rintro e w' ⟨rfl, rfl⟩
              clear HOf
              cases hb : hasB among (a : Int) with
              | false =>
                rw [hb] at HH
                clear HF hb
                have L5 := Below.refl w5.heap.size w5
                go_wp2_with fail
                refine (HAll.out _ B5).mono ?_
                rintro e w7 ⟨rfl, h2⟩
                replace K5 := K5.below h2 K5.lt
                replace L5 := h2
                skip
                clear h2 z
                go_wp2_with fail
                refine (HCn.out _).mono ?_
                rintro e w8 ⟨rfl, q, rfl⟩
                replace K5 := K5.drewN q
                replace L5 := below_drewN L5 q
                go_wp2_with fail
                refine (HH.out _).mono ?_
                rintro e w9 ⟨rfl, rfl⟩
                clear HAll HCn HH e1
                go_wp2_with fail
                go_loopw [15, 98] (fun d i wr => ∃ (k : Nat) (D' : Int), k ≤ n5 ∧ d = .int .i64 D' ∧ i = .int .i64 (k : Int) ∧ Hid (∀ x, N[k]? = some x → D' ≤ distN L a x.toNat) ∧ Blk wr g3 27 #[.slice A2 n2 c2] ∧ Below w5.heap.size w5 wr) (fun _ i _ => n5 - (intOf i).toNat)
                case atStart => exact ⟨0, -1, by omega, rfl, rfl, Lib.hid (fun x _ => by have := HRg.out x; omega), K5, L5⟩
                case round =>
                  clear K5 L5
                  obtain ⟨k, D', hk, rfl, rfl, hD, K5, L5⟩ := hrel
                  by_cases hkn : k < n5
                  · obtain ⟨ad6, v6, e6, _, hx6, hc6⟩ := (HR5.out.below L5).at_ hkn
                    obtain rfl := e6
                    obtain ⟨x, hx, rfl⟩ := vs_at hx6
                    have HDx := Lib.hid (HD5.out k x hx)
                    have hle := hD.out x hx
                    have HNx := Lib.hid (fun y hy => HSt.out k x y hx hy)
                    have j0 : (0 : Int) ≤ (k : Int) := by omega
                    have j1 : (k : Int) < (n5 : Int) := by omega
                    have z : wr.cell? ⟨g3, 0, none⟩ = some (.slice A2 n2 c2) := K5.cell 0
                    clear hx hx6 hD
                    generalize distN L a x.toNat = dx at HDx hle HNx
                    have hd : decide (dx < D') = false := by simp; omega
                    clear hle
                    go_wp2_with fail
                    refine (HDx.out _ L5).mono ?_
                    rintro e w9 ⟨rfl, h2⟩
                    replace K5 := K5.below h2 K5.lt
                    replace L5 := L5.trans (h2.mono L5.size)
                    clear h2 z HDx
                    go_wp2
                    go_roundw
                    case rel => exact ⟨k + 1, dx, by omega, rfl, by go_num, HNx, K5, L5⟩
                    case measure => simp [intOf]; omega
                  · obtain rfl : n5 = k := by omega
                    go_wp2
                    go_ret
                    exact ⟨rfl, HB3.out.trans ((B5.trans (L5.mono B5.size)).mono HB3.out.size)⟩
              | true =>
                rw [hb] at HH
                have hf := HF.out hb
                obtain ⟨adF, vF, eF, adB, hxF, hcF⟩ := HR5.out.at_ (k := 0) (by have := HL5.out; have := (List.getElem?_eq_some_iff.mp hf).1; omega)
                obtain rfl := eF
                obtain ⟨xF, hF2, rfl⟩ := vs_at hxF
                obtain rfl : xF = (a : Int) := by rw [hf] at hF2; exact (Option.some.inj hF2).symm
                have n50 : 0 < n5 := by have := HL5.out; have := (List.getElem?_eq_some_iff.mp hf).1; omega
                have n51 : (0 : Int) < (n5 : Int) := by omega
                replace hcF : w5.cell? adF = some (.int .i64 (a : Int)) := hcF
                clear HF hb hf hxF hF2
                have L5 := Below.refl w5.heap.size w5
                go_wp2_with fail
                refine (HAll.out _ B5).mono ?_
                rintro e w7 ⟨rfl, h2⟩
                replace K5 := K5.below h2 K5.lt
                replace L5 := h2
                have hcG := (L5.cell (p := adF) adB).trans hcF
                clear h2 z hcF
                go_wp2_with fail
                refine (HCn.out _).mono ?_
                rintro e w8 ⟨rfl, q, rfl⟩
                replace K5 := K5.drewN q
                replace L5 := below_drewN L5 q
                go_wp2_with fail
                refine (HH.out _).mono ?_
                rintro e w9 ⟨rfl, rfl⟩
                clear HAll HCn HH e1
                go_wp2_with fail
                go_loopw [15, 98] (fun d i wr => ∃ (k : Nat) (D' : Int), k ≤ n5 ∧ d = .int .i64 D' ∧ i = .int .i64 (k : Int) ∧ Hid (∀ x, N[k]? = some x → D' ≤ distN L a x.toNat) ∧ Blk wr g3 27 #[.slice A2 n2 c2] ∧ Below w5.heap.size w5 wr) (fun _ i _ => n5 - (intOf i).toNat)
                case atStart => exact ⟨0, -1, by omega, rfl, rfl, Lib.hid (fun x _ => by have := HRg.out x; omega), K5, L5⟩
                case round =>
                  clear K5 L5
                  obtain ⟨k, D', hk, rfl, rfl, hD, K5, L5⟩ := hrel
                  by_cases hkn : k < n5
                  · obtain ⟨ad6, v6, e6, _, hx6, hc6⟩ := (HR5.out.below L5).at_ hkn
                    obtain rfl := Option.some.inj e6
                    obtain ⟨x, hx, rfl⟩ := vs_at hx6
                    have HDx := Lib.hid (HD5.out k x hx)
                    have hle := hD.out x hx
                    have HNx := Lib.hid (fun y hy => HSt.out k x y hx hy)
                    have j0 : (0 : Int) ≤ (k : Int) := by omega
                    have j1 : (k : Int) < (n5 : Int) := by omega
                    have z : wr.cell? ⟨g3, 0, none⟩ = some (.slice A2 n2 c2) := K5.cell 0
                    clear hx hx6 hD
                    generalize distN L a x.toNat = dx at HDx hle HNx
                    have hd : decide (dx < D') = false := by simp; omega
                    clear hle
                    go_wp2_with fail
                    refine (HDx.out _ L5).mono ?_
                    rintro e w9 ⟨rfl, h2⟩
                    replace K5 := K5.below h2 K5.lt
                    replace L5 := L5.trans (h2.mono L5.size)
                    clear h2 z HDx
                    go_wp2
                    go_roundw
                    case rel => exact ⟨k + 1, dx, by omega, rfl, by go_num, HNx, K5, L5⟩
                    case measure => simp [intOf]; omega
                  · obtain rfl : n5 = k := by omega
                    go_wp2
                    go_ret
                    exact ⟨rfl, HB3.out.trans ((B5.trans (L5.mono B5.size)).mono HB3.out.size)⟩
            · have hE : nearR L cpu among = ([], 140) := by unfold nearR; rw [if_pos HR.out, if_pos hc, if_neg hs]
              clear hs
              have hN := HNe A2 n2 c2 L cpu among wx (HA3.out.below B3) HS0.out.1 HS0.out.2
              rw [hE] at hN
              have HNx := Lib.hid hN
              clear hN
              have z : wx.cell? ⟨g3, 0, none⟩ = some (.slice A2 n2 c2) := K3.cell 0
              go_wp2_with fail
              refine HNx.out.mono ?_
              rintro e w5 ⟨A5, n5, c5, rfl, hn5, hc5, hr5, h2⟩
              simp only [] at hn5 hr5
              have K5 := K3.below h2 K3.lt
              have B5 := B3.trans (h2.mono B3.size)
              clear h2 HNx z K3 B3
              clear hn5 hc5 hr5
              go_wp2
              go_ret
              exact ⟨rfl, HB3.out.trans (B5.mono HB3.out.size)⟩
          · have hE : nearR L cpu among = ([], 2) := by unfold nearR; rw [if_pos HR.out, if_neg hc]
            have hN := HNe A2 n2 c2 L cpu among wx (HA3.out.below B3) HS0.out.1 HS0.out.2
            rw [hE] at hN
            have HNx := Lib.hid hN
            clear hN
            have z : wx.cell? ⟨g3, 0, none⟩ = some (.slice A2 n2 c2) := K3.cell 0
            go_wp2_with fail
            refine HNx.out.mono ?_
            rintro e w5 ⟨A5, n5, c5, rfl, hn5, hc5, hr5, h2⟩
            simp only [] at hn5 hr5
            have K5 := K3.below h2 K3.lt
            have B5 := B3.trans (h2.mono B3.size)
            clear h2 HNx z K3 B3
            clear hn5 hc5 hr5
            go_wp2
            go_ret
            exact ⟨rfl, HB3.out.trans (B5.mono HB3.out.size)⟩

end Go.Proofs.Ytfalkiinlkfanaa
