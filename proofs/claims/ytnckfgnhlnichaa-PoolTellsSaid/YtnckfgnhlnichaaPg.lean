/-
  The landed pool: Decode. No statement is proved here.
-/
import Derived.Test.YtnckfgnhlnichaaPr
namespace Go.Proofs.Ytnckfgnhlnichaa
open Go.RowKit

set_option maxRecDepth 100000 in
set_option maxHeartbeats 8000000 in
theorem ldecode_any {G : World → Prop} (hG : Steady G) : PDecodeOk G := by
  intro A n c bs w hAt
  have hl := hAt.len
  have HGs := Lib.hid (fun (u : World) (h : Below w.heap.size w u) => (hAt.below hG h).2.2.2.2)
  obtain ⟨hR, hnc, hn, hby, hg⟩ := hAt
  obtain ⟨K, B⟩ := box1 w 24 #[.slice none 0 0]
  by_cases h1 : n < 1
  · have HV : Hid (decodeP bs = ([], 7)) := Lib.hid (by unfold decodeP; rw [if_pos (.inl (by omega))])
    have e1 : decide ((n : Int) < 1) = true := decide_eq_true (by omega)
    have HK := Lib.hid (And.intro K B)
    clear hl hby hR hn h1 K B hg hG hnc
    go_enter Try.func27, Try.ntmps27
    go_wp2_with fail
    rw [HV.out]
    exact bodyPost_ret (v := .tuple #[.agg #[.slice none 0 0], .int .i64 7]) (results_pools2 Try.results27 _ _ _ _ _ _ rfl HK.out.1 Try.underlying24 rfl (by kernel_rfl)) rfl (GivesP2.none_ HK.out.2)
  · obtain ⟨ad, z, rfl, hb, hb0, hc0⟩ := ubyte_at hR (k := 0) (by omega)
    have hc0' : w.cell? ad = some (.int .u8 (z : Int)) := hc0
    have z8 := hby z (List.mem_of_getElem? hb0)
    have hg0 : bs.getD 0 0 = z := getD_at hb0
    have e1 : decide ((n : Int) < 1) = false := decide_eq_false (by omega)
    have HW := Lib.hid (fun u => lwidth_any z u z8)
    have cz : (w.alloc (.cells #[.slice none 0 0] 24)).cell? ad = some (.int .u8 (z : Int)) := (B.cell hb).trans hc0'
    have p0 : (0 : Int) < (n : Int) := by omega
    by_cases h2 : n < 1 + z
    · have HV : Hid (decodeP bs = ([], 7)) := Lib.hid (by unfold decodeP; rw [if_pos (.inr (by rw [hg0]; omega))])
      have q : decide ((n : Int) < 1 + (z : Int)) = true := decide_eq_true (by omega)
      have HK := Lib.hid (And.intro K B)
      clear hl hby hR h1 K B hb0 hg0 h2 hc0 hc0' hg hG hnc z8 hn
      go_enter Try.func27, Try.ntmps27
      go_wp2_with fail
      refine (HW.out _).mono ?_
      rintro e w2 ⟨rfl, rfl⟩
      go_wp2_with fail
      rw [HV.out]
      exact bodyPost_ret (v := .tuple #[.agg #[.slice none 0 0], .int .i64 7]) (results_pools2 Try.results27 _ _ _ _ _ _ rfl HK.out.1 Try.underlying24 rfl (by kernel_rfl)) rfl (GivesP2.none_ HK.out.2)
    · have q : decide ((n : Int) < 1 + (z : Int)) = false := decide_eq_false (by omega)
      by_cases h3 : 1 + z < n
      · have HV : Hid (decodeP bs = ([], 180)) := Lib.hid (by unfold decodeP; rw [if_neg (by rw [hg0]; omega), if_pos (.inl (by rw [hg0]; omega))])
        have q2 : decide (1 + (z : Int) < (n : Int)) = true := decide_eq_true (by omega)
        have HK := Lib.hid (And.intro K B)
        clear hl hby hR h1 K B hb0 hg0 h2 h3 hc0 hc0' hg hG hnc z8 hn
        go_enter Try.func27, Try.ntmps27
        go_wp2_with fail
        refine (HW.out _).mono ?_
        rintro e w2 ⟨rfl, rfl⟩
        go_wp2_with fail
        refine (HW.out _).mono ?_
        rintro e w2 ⟨rfl, rfl⟩
        go_wp2_with fail
        rw [HV.out]
        exact bodyPost_ret (v := .tuple #[.agg #[.slice none 0 0], .int .i64 180]) (results_pools2 Try.results27 _ _ _ _ _ _ rfl HK.out.1 Try.underlying24 rfl (by kernel_rfl)) rfl (GivesP2.none_ HK.out.2)
      · have q2 : decide (1 + (z : Int) < (n : Int)) = false := decide_eq_false (by omega)
        have HV : Hid (decodeP bs = if rightP (bs.drop 1) = false then ([], 180) else (bs.drop 1, 0)) := Lib.hid (by
          unfold decodeP
          rw [if_neg (by rw [hg0]; omega), hg0, hl]
          have : n = 1 + z := by omega
          simp [this])
        obtain ⟨rest, hrest⟩ : ∃ r, (if c = 1 then some ad else some (⟨ad.block, ad.off + 1, none⟩ : Addr)) = r := ⟨_, rfl⟩
        have hRr := reads_behind1 hR hnc
        rw [hrest] at hRr
        obtain ⟨m, hm⟩ : ∃ m, n - 1 = m := ⟨_, rfl⟩
        rw [hm] at hRr
        have hml : (bs.drop 1).length = m := by rw [List.length_drop, hl]; exact hm
        have hbyd : ∀ x ∈ bs.drop 1, x < 256 := fun x hx => hby x (List.drop_subset 1 bs hx)
        generalize bs.drop 1 = L at *
        have HRd : Hid (∀ (C : Nat) (u : World), Below w.heap.size w u → Calls Try.prog 46 #[.slice rest (n - 1) C] u (TellsS u L)) := Lib.hid (fun C u h => by rw [hm]; exact lreads_any rest m C L u ((hRr.below h).more h.size) hbyd (by omega))
        have HL := Lib.hid hml
        have HLn : Hid (L.length ≤ 1000) := Lib.hid (by omega)
        have HU : Hid (U32s L) := Lib.hid (fun x hx => by have := hbyd x hx; omega)
        have c1 : (1 : Int) ≤ (n : Int) := by omega
        have c2 : (n : Int) ≤ (c : Int) := by omega
        have m1 : (n : Int) - 1 = (m : Int) := by omega
        have HK := Lib.hid (And.intro K B)
        clear hl hby hR h1 K B hb0 hg0 h2 h3 hc0 hc0' hRr hbyd hml hg hnc hm z8 hn
        cases hr : rightP L with
        | false =>
          have HV2 : Hid (decodeP bs = ([], 180)) := Lib.hid (by rw [HV.out, if_pos hr])
          have HCk := Lib.hid (fun (B2 : Option Addr) (n2 c2 : Nat) (u : World) (h : PAt G u B2 n2 c2 L) => check_no h hr)
          clear hr
          go_enter Try.func27, Try.ntmps27
          go_wp2_with fail
          refine (HW.out _).mono ?_
          rintro e w2 ⟨rfl, rfl⟩
          go_wp2_with fail
          refine (HW.out _).mono ?_
          rintro e w2 ⟨rfl, rfl⟩
          go_wp2_with fail
          refine (HRd.out _ _ HK.out.2).mono ?_
          rintro e w3 ⟨A3, c3, rfl, own3, h3⟩
          rw [HL.out] at own3 ⊢
          have K3 := HK.out.1.below h3 HK.out.1.lt
          have B3 := HK.out.2.trans (h3.mono HK.out.2.size)
          have K4 := K3.alloc (.cells #[.slice A3 m c3] 24)
          have B4 := B3.alloc B3.size (.cells #[.slice A3 m c3] 24)
          have At4 := PAt.own (G := G) (own3.alloc (.cells #[.slice A3 m c3] 24)) (by have := HL.out; have := HLn.out; omega) HU.out (HGs.out _ B4)
          clear own3 h3 K3 B3
          go_wp2_with fail
          refine (HCk.out _ _ _ _ At4).mono ?_
          rintro e w5 ⟨rfl, h5⟩
          have K5 := K4.below h5 K4.lt
          have B5 := B4.trans (h5.mono B4.size)
          have k5 := K5.cell 0
          have f5 := K5.frozen 0
          have HKF := Lib.hid (put1 (x := .slice none 0 0) K5 B5 (by omega))
          clear K4 B4 At4 h5 K5 B5
          go_wp2_with fail
          rw [HV2.out]
          exact bodyPost_ret (v := .tuple #[.agg #[.slice none 0 0], .int .i64 180]) (results_pools2 Try.results27 _ _ _ _ _ _ rfl HKF.out.1 Try.underlying24 rfl (by kernel_rfl)) rfl (GivesP2.none_ HKF.out.2)
        | true =>
          have HV2 : Hid (decodeP bs = (L, 0)) := Lib.hid (by rw [HV.out, if_neg (by rw [hr]; simp)])
          have HCk := Lib.hid (fun (B2 : Option Addr) (n2 c2 : Nat) (u : World) (h : PAt G u B2 n2 c2 L) => check_yes h hr)
          clear hr
          go_enter Try.func27, Try.ntmps27
          go_wp2_with fail
          refine (HW.out _).mono ?_
          rintro e w2 ⟨rfl, rfl⟩
          go_wp2_with fail
          refine (HW.out _).mono ?_
          rintro e w2 ⟨rfl, rfl⟩
          go_wp2_with fail
          refine (HRd.out _ _ HK.out.2).mono ?_
          rintro e w3 ⟨A3, c3, rfl, own3, h3⟩
          rw [HL.out] at own3 ⊢
          have K3 := HK.out.1.below h3 HK.out.1.lt
          have B3 := HK.out.2.trans (h3.mono HK.out.2.size)
          have K4 := K3.alloc (.cells #[.slice A3 m c3] 24)
          have B4 := B3.alloc B3.size (.cells #[.slice A3 m c3] 24)
          have KB := Blk.new w3 24 #[.slice A3 m c3]
          have own4 := own3.alloc (.cells #[.slice A3 m c3] 24)
          have At4 := PAt.own (G := G) own4 (by have := HL.out; have := HLn.out; omega) HU.out (HGs.out _ B4)
          have hsz : w.heap.size + 1 ≤ (w.alloc (.cells #[.slice none 0 0] 24)).heap.size := by simp
          clear h3 K3 B3 own3
          go_wp2_with fail
          refine (HCk.out _ _ _ _ At4).mono ?_
          rintro e w5 ⟨rfl, h5⟩
          have K5 := K4.below h5 K4.lt
          have B5 := B4.trans (h5.mono B4.size)
          have own5 := own_down (own_below own4 h5) hsz
          have j5 := (KB.below h5 KB.lt).cell 0
          have k5 := K5.cell 0
          have f5 := K5.frozen 0
          have HO := Lib.hid (own_set own5 (show w.heap.size < w.heap.size + 1 by omega) 0 (.slice A3 m c3))
          have HKF := Lib.hid (put1 (x := .slice A3 m c3) K5 B5 (by omega))
          clear K4 B4 At4 h5 K5 B5 own4 own5 KB hsz
          go_wp2_with fail
          rw [HV2.out]
          exact bodyPost_ret (v := .tuple #[.agg #[.slice A3 m c3], .int .i64 0]) (results_pools2 Try.results27 _ _ _ _ _ _ rfl HKF.out.1 Try.underlying24 rfl (by kernel_rfl)) rfl ⟨A3, c3, by rw [HL.out], by rw [HL.out]; exact own_down HO.out (by omega), HKF.out.2⟩

end Go.Proofs.Ytnckfgnhlnichaa
