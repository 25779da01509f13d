/-
  The landed gang: unformed; Form's closure. No statement is proved here.
-/
import Derived.Test.YtkbgpmgnkegipaaDoorGl
namespace Go.Proofs.YtkbgpmgnkegipaaDoor
open Go.RowKit Go.Maps

def unfV (l : List Gm) (ms : List Int) : Int := if rightG l = false then 240 else if membersB ms = false then 2 else if (l.any fun h => havB ms h) = true then 5 else if l.length = 8 then 6 else 0
theorem unf_1 {l : List Gm} {ms : List Int} (h : rightG l = false) : unfV l ms = 240 := if_pos h
theorem unf_2 {l : List Gm} {ms : List Int} (h : rightG l = true) (h2 : membersB ms = false) : unfV l ms = 2 := by unfold unfV; rw [if_neg (by rw [h]; simp), if_pos h2]
theorem unf_3 {l : List Gm} {ms : List Int} (h : rightG l = true) (h2 : membersB ms = true) (h3 : (l.any fun h => havB ms h) = true) : unfV l ms = 5 := by unfold unfV; rw [if_neg (by rw [h]; simp), if_neg (by rw [h2]; simp), if_pos h3]
theorem unf_4 {l : List Gm} {ms : List Int} (h : rightG l = true) (h2 : membersB ms = true) (h3 : (l.any fun h => havB ms h) = false) : unfV l ms = if l.length = 8 then 6 else 0 := by unfold unfV; rw [if_neg (by rw [h]; simp), if_neg (by rw [h2]; simp), if_neg (by rw [h3]; simp)]

set_option maxRecDepth 100000 in
set_option maxHeartbeats 8000000 in
theorem unformed_any (A : Option Addr) (n c : Nat) (gs : List Gn) (A2 : Option Addr) (m c2 : Nat) (ms : List Int) (w : World) (hG : NW w A n gs) (hc : n ≤ c) (hI : IR w A2 m ms) :
    Calls Tryd.prog 25 #[.agg #[.slice A n c], .slice A2 m c2] w (Said (.int .i64 (unfV (gsM gs) ms)) w) := by
  obtain ⟨K0, GB⟩ := box1 w 36 #[.slice A n c]
  have HC := Lib.hid (fun (u : World) (h : Below w.heap.size w u) => gcheck_any A n c gs u (hG.below h) hc)
  have HM := Lib.hid (fun (u : World) (h : Below w.heap.size w u) => members_any A2 m c2 ms u (hI.below h))
  have HG := Lib.hid hG
  have HI := Lib.hid hI
  have HK := Lib.hid K0
  have hlen : (gsM gs).length = n := by rw [gsM_len, hG.len]
  have hgs : w.heap.size < (w.alloc (.cells #[.slice A n c] 36)).heap.size := by simp
  have c0 := K0.cell 0
  clear hG hI K0
  generalize hl : gsM gs = l at *
  cases hr : rightG l with
  | false =>
    have HV := Lib.hid (unf_1 (ms := ms) hr)
    rw [show chkG l = 240 from if_neg (by rw [hr]; simp)] at HC
    clear hr hlen
    go_enter Tryd.func25, Tryd.ntmps25
    go_wp2_with fail
    refine (HC.out _ GB).mono ?_
    rintro e w1 ⟨rfl, h1⟩
    clear c0
    go_wp2
    go_ret
    rw [HV.out]
    exact ⟨rfl, GB.trans (h1.mono GB.size)⟩
  | true =>
    rw [show chkG l = 0 from if_pos hr] at HC
    cases hm : membersB ms with
    | false =>
      rw [hm] at HM
      have HV := Lib.hid (unf_2 hr hm)
      clear hr hlen hm
      go_enter Tryd.func25, Tryd.ntmps25
      go_wp2_with fail
      refine (HC.out _ GB).mono ?_
      rintro e w1 ⟨rfl, h1⟩
      have B1 := GB.trans (h1.mono GB.size)
      clear c0
      go_wp2_with fail
      refine (HM.out _ B1).mono ?_
      rintro e w2 ⟨rfl, h2⟩
      go_wp2
      go_ret
      rw [HV.out]
      exact ⟨rfl, B1.trans (h2.mono B1.size)⟩
    | true =>
      rw [hm] at HM
      have HHf := Lib.hid (fun (u : World) (hu : Below w.heap.size w u) => havingf_any A2 m c2 ms u (HI.out.below hu))
      have HHa := Lib.hid (fun (u : World) (hu : Below w.heap.size w u) (vb : Nat) (h : HV u vb A2 m c2 ms) => hasany_any A n c gs u (HG.out.below hu) vb A2 m c2 ms h)
      rw [hl] at HHa
      obtain ⟨b, hb⟩ : ∃ b, (l.any fun h => havB ms h) = b := ⟨_, rfl⟩
      rw [hb] at HHa
      have HVb : Hid ((b = true → unfV l ms = 5) ∧ (b = false → unfV l ms = if n = 8 then 6 else 0)) := Lib.hid ⟨fun e => unf_3 hr hm (by rw [hb, e]), fun e => by rw [unf_4 hr hm (by rw [hb, e]), hlen]⟩
      clear hr hm hb hlen
      go_enter Tryd.func25, Tryd.ntmps25
      go_wp2_with fail
      refine (HC.out _ GB).mono ?_
      rintro e w1 ⟨rfl, h1⟩
      have B1 := GB.trans (h1.mono GB.size)
      have HK1 := Lib.hid (HK.out.below h1 hgs)
      clear c0
      go_wp2_with fail
      refine (HM.out _ B1).mono ?_
      rintro e w2 ⟨rfl, h2⟩
      have HB2 := Lib.hid (B1.trans (h2.mono B1.size))
      have HK2 := Lib.hid (HK1.out.below h2 HK1.out.lt)
      have HS : Hid (∀ u, Below w2.heap.size w2 u → u.cell? ⟨w.heap.size, 0, none⟩ = some (.slice A n c)) := Lib.hid (fun u hu => (HK2.out.below hu HK2.out.lt).cell 0)
      have D0 := (Below.refl w2.heap.size w2).drew
      have k0 := HS.out _ D0
      clear h1 h2 B1
      go_upto_region 5 with fail
      go_region_held3 (fun w' => w'.cell? ⟨w.heap.size, 0, none⟩ = some (.slice A n c))
        (first | exact k2 | exact k1 | exact k0)
        (first
          | (go_at_call 46; (with_reducible refine (HHa.out _ (HB2.out.trans (D1.mono HB2.out.size)) vb hv1).mono ?_); rintro e w5 ⟨rfl, h9⟩; have D2 := Lib.hid (D1.trans (h9.mono D1.size)); have k2 := HS.out _ D2.out; clear h9)
          | (go_at_call 47; (with_reducible refine (HHf.out _ (HB2.out.trans (D0.mono HB2.out.size))).mono ?_); rintro e w4 ⟨vb, rfl, hv1, h9⟩; have D1 := D0.trans (h9.mono D0.size); have k1 := HS.out _ D1; clear h9))
      have HBE := Lib.hid (HB2.out.trans (D2.out.mono HB2.out.size))
      have c0 := HS.out _ D2.out
      clear k0 k1 k2 D0 D1 hv1
      cases b with
      | true =>
        clear c0
        go_wp2
        go_ret
        rw [HVb.out.1 (by simp)]
        exact ⟨rfl, HBE.out⟩
      | false =>
        by_cases h8 : n = 8
        · have q : ((n : Int) == 8) = true := by simp; omega
          have HV : Hid (unfV l ms = 6) := Lib.hid (by rw [HVb.out.2 (by simp), if_pos h8])
          clear h8
          go_wp2_with fail
          go_ret
          rw [HV.out]
          exact ⟨rfl, HBE.out⟩
        · have q : ((n : Int) == 8) = false := by simp; omega
          have HV : Hid (unfV l ms = 0) := Lib.hid (by rw [HVb.out.2 (by simp), if_neg h8])
          clear h8
          go_wp2_with fail
          go_ret
          rw [HV.out]
          exact ⟨rfl, HBE.out⟩

end Go.Proofs.YtkbgpmgnkegipaaDoor
