/-
  The landed Check. No statement is proved here.
-/
import Derived.Test.YtniilfcbiliegaaZMl
import Derived.Test.YtniilfcbiliegaaZMm
namespace Go.Proofs.Ytniilfcbiliegaa
open Go.RowKit Go.Maps

set_option maxRecDepth 100000 in
set_option maxHeartbeats 4000000 in
theorem ocheck_any (A : Option Addr) (n c : Nat) (qs : List Rn) (A' : Option Addr) (n' c' : Nat) (ws : List Wt) (A2 : Option Addr) (n2 c2 : Nat) (gs : List Gg) (w : World) (hG : QR w A n c qs) (hW : WT w A' n' c' ws) (hS : GW w A2 n2 gs) :
    Calls Try.prog 13 #[.agg #[.slice A n c], .slice A' n' c', .slice A2 n2 c2] w (Said (.int .i64 (chkO qs ws (gsI gs))) w) := by
  obtain ⟨K0, GB⟩ := box1 w 26 #[.slice A n c]
  have z0 := K0.cell 0
  have HC := Lib.hid (fun (u : World) (h : Below w.heap.size w u) => qcheck_any A n c qs u (hG.below h))
  have HWa := Lib.hid (fun (u : World) (h : Below w.heap.size w u) => awaits_any A' n' c' ws A n c qs u (hW.below h) (hG.below h))
  have HGa := Lib.hid (fun (u : World) (h : Below w.heap.size w u) => agangs_any A2 n2 c2 gs u (hS.below h))
  clear hG hW hS
  cases hq : rightQ qs with
  | false =>
    have HV : Hid (chkO qs ws (gsI gs) = 200) := Lib.hid (by unfold chkO; rw [if_pos hq])
    rw [show chkQ qs = 200 from if_neg (by rw [hq]; simp)] at HC
    clear hq HWa HGa
    go_enter Try.func13, Try.ntmps13
    go_wp2_with fail
    refine (HC.out _ GB).mono ?_
    rintro e w1 ⟨rfl, h9⟩
    replace K0 := K0.below h9 K0.lt
    replace GB := GB.trans (h9.mono GB.size)
    clear h9
    have y0 := K0.cell 0
    clear z0
    have HB := Lib.hid GB
    clear GB K0
    go_wp2
    go_ret
    exact ⟨retI HV.out.symm, HB.out⟩
  | true =>
    rw [show chkQ qs = 0 from if_pos hq] at HC
    cases hw : waitsB qs ws with
    | false =>
      have HV : Hid (chkO qs ws (gsI gs) = 220) := Lib.hid (by unfold chkO; rw [if_neg (by rw [hq]; simp), hw, Bool.false_and]; exact if_neg (by simp))
      rw [hw] at HWa
      clear hq hw HGa
      go_enter Try.func13, Try.ntmps13
      go_wp2_with fail
      refine (HC.out _ GB).mono ?_
      rintro e w1 ⟨rfl, h9⟩
      replace K0 := K0.below h9 K0.lt
      replace GB := GB.trans (h9.mono GB.size)
      clear h9
      have y0 := K0.cell 0
      clear z0
      go_wp2_with fail
      refine (HWa.out _ GB).mono ?_
      rintro e w2 ⟨rfl, h9⟩
      replace GB := GB.trans (h9.mono GB.size)
      clear h9 y0
      have HB := Lib.hid GB
      clear GB K0
      go_wp2
      go_ret
      exact ⟨retI HV.out.symm, HB.out⟩
    | true =>
      rw [hw] at HWa
      cases hg : gangsB (gsI gs) with
      | false =>
        have HV : Hid (chkO qs ws (gsI gs) = 220) := Lib.hid (by unfold chkO; rw [if_neg (by rw [hq]; simp), hw, hg]; exact if_neg (by simp))
        rw [hg] at HGa
        clear hq hw hg
        go_enter Try.func13, Try.ntmps13
        go_wp2_with fail
        refine (HC.out _ GB).mono ?_
        rintro e w1 ⟨rfl, h9⟩
        replace K0 := K0.below h9 K0.lt
        replace GB := GB.trans (h9.mono GB.size)
        clear h9
        have y0 := K0.cell 0
        clear z0
        go_wp2_with fail
        refine (HWa.out _ GB).mono ?_
        rintro e w2 ⟨rfl, h9⟩
        replace GB := GB.trans (h9.mono GB.size)
        clear h9 y0
        go_wp2_with fail
        refine (HGa.out _ GB).mono ?_
        rintro e w3 ⟨rfl, h9⟩
        replace GB := GB.trans (h9.mono GB.size)
        clear h9
        have HB := Lib.hid GB
        clear GB K0
        go_wp2
        go_ret
        exact ⟨retI HV.out.symm, HB.out⟩
      | true =>
        have HV : Hid (chkO qs ws (gsI gs) = 0) := Lib.hid (by unfold chkO; rw [if_neg (by rw [hq]; simp), hw, hg]; exact if_pos rfl)
        rw [hg] at HGa
        clear hq hw hg
        go_enter Try.func13, Try.ntmps13
        go_wp2_with fail
        refine (HC.out _ GB).mono ?_
        rintro e w1 ⟨rfl, h9⟩
        replace K0 := K0.below h9 K0.lt
        replace GB := GB.trans (h9.mono GB.size)
        clear h9
        have y0 := K0.cell 0
        clear z0
        go_wp2_with fail
        refine (HWa.out _ GB).mono ?_
        rintro e w2 ⟨rfl, h9⟩
        replace GB := GB.trans (h9.mono GB.size)
        clear h9 y0
        go_wp2_with fail
        refine (HGa.out _ GB).mono ?_
        rintro e w3 ⟨rfl, h9⟩
        replace GB := GB.trans (h9.mono GB.size)
        clear h9
        have HB := Lib.hid GB
        clear GB K0
        go_wp2
        go_ret
        exact ⟨retI HV.out.symm, HB.out⟩

end Go.Proofs.Ytniilfcbiliegaa
