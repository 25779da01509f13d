/-
  The statements' wakes, over the landed calls. No statement is proved here.
-/
import Derived.Test.YtknimnopopnbhaaEq
namespace Go.Proofs.Ytknimnopopnbhaa
open Go.RowKit

theorem GR.of_own {u : World} {b1 b2 : Nat} {A : Option Addr} {n c : Nat} {ds : List Dom} {B : Option Addr} {m d : Nat} {us : List Vc} (hd : u.ownsRow b1 27 4 (.slice A n c) n (flat dv ds)) (hv : u.ownsRow b2 50 4 (.slice B m d) m (flat cv us))
    (hn : n ≤ 1000) (hm : m ≤ 1000) (hU : UV us) : GR u A n c ds B m d us := by
  obtain ⟨A1, c1, e1, h1, r1⟩ := own_reads hd
  obtain ⟨B1, d1, e2, h2, r2⟩ := own_reads hv
  injection e1 with e3 e4 e5
  injection e2 with e6 e7 e8
  subst e3 e5 e6 e8
  exact ⟨r1, r2, h1, h2, hn, hm, hU⟩
theorem GR.nil (u : World) : GR u none 0 0 [] none 0 0 [] := ⟨Reads.none_, Reads.none_, by omega, by omega, by omega, by omega, fun v hv => by cases hv⟩
theorem UV.right {ds : List Dom} {us : List Vc} (h : RightP ds us) : UV us := fun v hv => by
  have := (h.ov v hv).2.2.2
  unfold rightK at this
  simp only [Bool.and_eq_true, decide_eq_true_eq] at this
  omega
theorem create_wakes : createQ [] [] (2, 256, 0, 0) = ([(2, 256, 0, 0)], [], 0) := by kernel_rfl
theorem add_wakes : addQ [(2, 256, 0, 0)] [] 2 1 0 = ([(2, 256, 0, 0)], [(1, 2, 1, 0)], 1, 0) := by kernel_rfl
theorem add_wakes2 : addQ [(2, 256, 0, 0)] [(1, 2, 1, 0)] 2 1 0 = ([(2, 256, 0, 0)], [(1, 2, 1, 0), (2, 2, 1, 0)], 2, 0) := by kernel_rfl
theorem rate_wakes : rateQ [(2, 256, 0, 0)] [(1, 2, 1, 0), (2, 2, 1, 0)] 2 = (256, 2, true) := by kernel_rfl
theorem uv1 : UV [(1, 2, 1, 0)] := fun v hv => by
  simp only [List.mem_cons, List.not_mem_nil, or_false] at hv
  subst hv
  exact ⟨by decide, by decide⟩
theorem uv2 : UV [(1, 2, 1, 0), (2, 2, 1, 0)] := fun v hv => by
  simp only [List.mem_cons, List.not_mem_nil, or_false] at hv
  rcases hv with rfl | rfl <;> exact ⟨by decide, by decide⟩

set_option maxRecDepth 100000 in
set_option maxHeartbeats 4000000 in
theorem wakes_any (w : World) : Calls Try.prog 8 #[] w (Said (.bool true) w) := by
  have HC := Lib.hid (gcreate_any none 0 0 [] none 0 0 [] 2 256 0 0 w (GR.nil w))
  rw [create_wakes] at HC
  go_enter Try.func8, Try.ntmps8
  go_wp2_with fail
  refine HC.out.mono ?_
  rintro e w1 ⟨A1, n1, c1, B1, m1, d1, rfl, hn1, hm1, oD, oV, h9⟩
  have K := Blk.new w1 25 #[.slice A1 n1 c1, .slice B1 m1 d1]
  have GB := h9.alloc h9.size (.cells #[.slice A1 n1 c1, .slice B1 m1 d1] 25)
  have hG := (GR.of_own oD oV (by rw [← hn1]; decide) (by rw [← hm1]; decide) (fun v hv => by cases hv)).below ((Below.refl _ w1).alloc (Nat.le_refl _) (.cells #[.slice A1 n1 c1, .slice B1 m1 d1] 25))
  have HA := Lib.hid (gadd_any A1 n1 c1 [(2, 256, 0, 0)] B1 m1 d1 [] 2 1 0 _ hG (by omega) (by omega))
  rw [add_wakes] at HA
  have hg : w.heap.size ≤ w1.heap.size := h9.size
  have k0 := K.cell 0
  have k1 := K.cell 1
  clear HC oD oV h9 hn1 hm1 hG
  go_wp2_with fail
  refine HA.out.mono ?_
  rintro e w2 ⟨A2, n2, c2, B2, m2, d2, rfl, hn2, hm2, oD, oV, h9⟩
  have K2 := K.below h9 K.lt
  have GB2 := GB.trans (h9.mono GB.size)
  have z0 := K2.cell 0
  have z1 := K2.cell 1
  have y0 := K2.frozen 0
  have y1 := K2.frozen 1
  have KP := put2 (x := .slice A2 n2 c2) (y := .slice B2 m2 d2) K2 GB2 hg
  have oD' := own_set (own_set oD (g := w1.heap.size) K.lt 0 (.slice A2 n2 c2)) (g := w1.heap.size) K.lt 1 (.slice B2 m2 d2)
  have oV' := own_set (own_set oV (g := w1.heap.size) K.lt 0 (.slice A2 n2 c2)) (g := w1.heap.size) K.lt 1 (.slice B2 m2 d2)
  have HB := Lib.hid (gadd_any A2 n2 c2 [(2, 256, 0, 0)] B2 m2 d2 [(1, 2, 1, 0)] 2 1 0 _ (GR.of_own oD' oV' (by rw [← hn2]; decide) (by rw [← hm2]; decide) uv1) (by omega) (by omega))
  rw [add_wakes2] at HB
  have p0 := KP.1.cell 0
  have p1 := KP.1.cell 1
  have HP := Lib.hid (And.intro KP hg)
  clear HA k0 k1 K GB K2 GB2 hg oD oV oD' oV' h9 hn2 hm2 KP
  go_wp2_with fail
  refine HB.out.mono ?_
  rintro e w3 ⟨A3, n3, c3, B3, m3, d3, rfl, hn3, hm3, oD, oV, h9⟩
  have K3 := HP.out.1.1.below h9 HP.out.1.1.lt
  have GB3 := HP.out.1.2.trans (h9.mono HP.out.1.2.size)
  clear z0 z1 y0 y1 p0 p1
  have z0 := K3.cell 0
  have z1 := K3.cell 1
  have y0 := K3.frozen 0
  have y1 := K3.frozen 1
  have KP := put2 (x := .slice A3 n3 c3) (y := .slice B3 m3 d3) K3 GB3 HP.out.2
  have hlt := HP.out.1.1.lt
  have oD' := own_set (own_set oD (g := w1.heap.size) hlt 0 (.slice A3 n3 c3)) (g := w1.heap.size) hlt 1 (.slice B3 m3 d3)
  have oV' := own_set (own_set oV (g := w1.heap.size) hlt 0 (.slice A3 n3 c3)) (g := w1.heap.size) hlt 1 (.slice B3 m3 d3)
  have HR := Lib.hid (grate_any A3 n3 c3 [(2, 256, 0, 0)] B3 m3 d3 [(1, 2, 1, 0), (2, 2, 1, 0)] 2 _ (GR.of_own oD' oV' (by rw [← hn3]; decide) (by rw [← hm3]; decide) uv2))
  rw [rate_wakes] at HR
  have p0 := KP.1.cell 0
  have p1 := KP.1.cell 1
  have HQ := Lib.hid KP.2
  clear HB HP K3 GB3 hlt oD oV oD' oV' h9 hn3 hm3 KP
  go_wp2_with fail
  refine HR.out.mono ?_
  rintro e w4 ⟨rfl, h9⟩
  have BF := HQ.out.trans (h9.mono HQ.out.size)
  clear HR HQ z0 z1 y0 y1 p0 p1 h9
  go_wp2
  go_ret
  exact ⟨rfl, BF⟩

end Go.Proofs.Ytknimnopopnbhaa
