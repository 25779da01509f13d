/-
  The contracts of the landed topo: Socket, Siblings. No statement is proved here.
-/
import Derived.Test.YtfalkiinlkfanaaLg
import Derived.Test.YtfalkiinlkfanaaLb
namespace Go.Proofs.Ytfalkiinlkfanaa
open Go.RowKit Go.Shelf

set_option maxRecDepth 100000 in
set_option maxHeartbeats 2000000 in
theorem tsocket_ok : TSocketOk := by
  intro A n c l s w hAt
  have hv := where_sets hAt.len (fun k => (st l k).1 == s)
  have hw : sockV l s = if rightT l = true then setN (fun k => (st l k).1 == s) l.length else 0 := rfl
  rw [← hw] at hv
  rw [← hv]
  obtain ⟨K0, K1, K2, K3, B⟩ := blks4 w 27 3 27 82 #[.slice A n c] #[.int .i64 s] #[.slice A n c] #[.func (.func 44) #[] #[.pointer (some ⟨w.heap.size, 0, none⟩), .pointer (some ⟨w.heap.size + 1, 0, none⟩)]]
  have hA4 := hAt.past B (Nat.le_refl _)
  have HG := Lib.hid (gather_any (w.heap.size + 1 + 1) (w.heap.size + 1 + 1 + 1) _ _ (toldSock_stops 4 (by decide) _ _ w.heap.size (w.heap.size + 1) A n c l (fun k => (st l k).1 == s) _ _ K2 K3 hA4
    (fun _ k hk u hu => sock1_any w.heap.size (w.heap.size + 1) A n c l s k u (K0.below hu K0.lt) (K1.below hu K1.lt) (hA4.below hu) hk)))
  have HW := Lib.hid (fun u => where_any A n c 44 #[.pointer (some ⟨w.heap.size, 0, none⟩), .pointer (some ⟨w.heap.size + 1, 0, none⟩)] u)
  have HB := Lib.hid B
  clear hv hw K0 K1 K2 K3 B hAt hA4
  generalize gathV (whereL l (fun k => (st l k).1 == s) n) = g at *
  go_enter Try.func18, Try.ntmps18
  go_wp2_with fail
  refine (HW.out _).mono ?_
  rintro e w1 ⟨rfl, rfl⟩
  go_wp2_with fail
  refine HG.out.mono ?_
  rintro e w2 ⟨rfl, h2⟩
  have B2 := Lib.hid (HB.out.trans (h2.mono HB.out.size))
  clear h2
  go_wp2
  go_ret
  exact ⟨rfl, B2.out⟩

set_option maxRecDepth 100000 in
set_option maxHeartbeats 2000000 in
theorem tsiblings_ok : TSiblingsOk := by
  intro A n c l s w hAt
  have hl := hAt.len
  obtain ⟨K0, K1, B⟩ := blks2 w 27 3 #[.slice A n c] #[.int .i64 s]
  have HA := Lib.hid (hAt.past B (Nat.le_refl _))
  have HB := Lib.hid (And.intro K0 (And.intro K1 B))
  have HI := Lib.hid (fun u => cput_any A n c s u)
  clear K0 K1 B hAt
  cases hc : cpuT n s with
  | false =>
    have hv : sibV l s = 0 := by unfold sibV; rw [hl, hc, Bool.and_false]; rfl
    rw [hv]
    rw [hc] at HI
    clear hc hv hl
    go_enter Try.func19, Try.ntmps19
    go_wp2_with fail
    refine (HI.out _).mono ?_
    rintro e w1 ⟨rfl, h1⟩
    have B1 := Lib.hid (HB.out.2.2.trans (h1.mono HB.out.2.2.size))
    clear h1
    go_wp2
    go_ret
    exact ⟨rfl, B1.out⟩
  | true =>
    obtain ⟨j, rfl, hj⟩ := cpuT_true hc
    have hv := where_sets hl (fun k => st l k == st l j)
    have hw : sibV l (j : Int) = if rightT l = true then setN (fun k => st l k == st l j) l.length else 0 := by
      unfold sibV
      rw [hl, hc, Bool.and_true, Int.toNat_natCast]
    rw [← hw] at hv
    rw [← hv]
    rw [hc] at HI
    have HW := Lib.hid (fun u => where_any A n c 46 #[.pointer (some ⟨w.heap.size, 0, none⟩), .pointer (some ⟨w.heap.size + 1, 0, none⟩)] u)
    have HG := Lib.hid (fun (w3 : World) (K0 : Blk w3 w.heap.size 27 #[.slice A n c]) (K1 : Blk w3 (w.heap.size + 1) 3 #[.int .i64 (j : Int)]) (a b : Nat) K2 K3 (hA : At w3 A n c l) =>
      gather_any a b _ w3 (toldSib_stops 4 (by decide) a b w.heap.size (w.heap.size + 1) A n c l (fun k => st l k == st l j) 82 w3 K2 K3 hA
        (fun _ k hk u hu => sib1_any w.heap.size (w.heap.size + 1) A n c l j k u (K0.below hu K0.lt) (K1.below hu K1.lt) (hA.below hu) hk hj)))
    clear hv hw hc hl hj
    generalize gathV (whereL l (fun k => st l k == st l j) n) = g at *
    go_enter Try.func19, Try.ntmps19
    go_wp2_with fail
    refine (HI.out _).mono ?_
    rintro e w1 ⟨rfl, h1⟩
    have K0 := HB.out.1.below h1 HB.out.1.lt
    have K1 := HB.out.2.1.below h1 HB.out.2.1.lt
    have B1 := HB.out.2.2.trans (h1.mono HB.out.2.2.size)
    have A1 := HA.out.below h1
    have k0 := K0.cell 0
    have k1 := K1.cell 0
    obtain ⟨K2, K3, B3⟩ := blks2 w1 27 82 #[.slice A n c] #[.func (.func 46) #[] #[.pointer (some ⟨w.heap.size, 0, none⟩), .pointer (some ⟨w.heap.size + 1, 0, none⟩)]]
    have HG3 := Lib.hid (HG.out _ (K0.below B3 K0.lt) (K1.below B3 K1.lt) w1.heap.size (w1.heap.size + 1) K2 K3 (A1.past B3 (Nat.le_refl _)))
    have HB3 := Lib.hid (B1.trans (B3.mono B1.size))
    clear h1 K0 K1 B1 A1 K2 K3 B3 HG
    go_wp2_with fail
    refine (HW.out _).mono ?_
    rintro e w2 ⟨rfl, rfl⟩
    clear k0 k1
    go_wp2_with fail
    refine HG3.out.mono ?_
    rintro e w2 ⟨rfl, h2⟩
    have B2 := Lib.hid (HB3.out.trans (h2.mono HB3.out.size))
    clear h2
    go_wp2
    go_ret
    exact ⟨rfl, B2.out⟩

end Go.Proofs.Ytfalkiinlkfanaa
