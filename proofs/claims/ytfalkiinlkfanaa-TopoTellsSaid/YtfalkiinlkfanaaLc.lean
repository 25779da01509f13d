/-
  The contracts of the landed topo: distance. No statement is proved here.
-/
import Derived.Test.YtfalkiinlkfanaaLa
import Derived.BigRegion
namespace Go.Proofs.Ytfalkiinlkfanaa
open Go.RowKit

set_option maxRecDepth 100000 in
set_option maxHeartbeats 4000000 in
theorem distance_any (A : Option Addr) (n c : Nat) (l : List (Int × Int)) (a b : Nat) (w : World) (hR : Reads w w.heap.size 2 A n (svs l)) (ha : a < n) (hb : b < n) :
    Calls Try.prog 48 #[.agg #[.slice A n c], .int .i64 (a : Int), .int .i64 (b : Int)] w (Said (.int .i64 (distN l a b)) w) := by
  have hl := reads_len hR
  obtain ⟨⟨x, y⟩, hm⟩ := elem_at (l := l) (k := a) (by omega)
  obtain ⟨⟨p, q⟩, hm'⟩ := elem_at (l := l) (k := b) (by omega)
  have e1 := st_at hm
  have e2 := st_at hm'
  obtain ⟨ad, rfl, hb1, c0, c1⟩ := seat_at hR hm
  obtain ⟨ad', e, hb2, d0, d1⟩ := seat_at hR hm'
  obtain rfl := Option.some.inj e
  have B := Lib.hid (fun (o1 o2 : Obj) => (((Below.refl w.heap.size w).alloc (Nat.le_refl _) (.cells #[.slice (some ad) n c] 27)).alloc (by simp) o1).alloc (by simp; omega) o2)
  have l1 : (ad.add (a * 2)).block < w.heap.size := by rw [block_of_add]; exact hb1
  have l2 : (ad.add (b * 2)).block < w.heap.size := by rw [block_of_add]; exact hb1
  have hk : ∀ (o1 o2 : Obj) (p : Addr), p.block < w.heap.size → ((((w.alloc (.cells #[.slice (some ad) n c] 27)).alloc o1).alloc o2).drew).cell? p = w.cell? p := fun o1 o2 p hp => by
    show World.cell? (((w.alloc _).alloc _).alloc _) p = _
    rw [World.cell?_alloc_lt _ _ _ (by simp; omega), World.cell?_alloc_lt _ _ _ (by simp; omega), World.cell?_alloc_lt _ _ _ hp]
  have hk1 : ∀ (o1 : Obj) (p : Addr), p.block < w.heap.size → (((w.alloc (.cells #[.slice (some ad) n c] 27)).alloc o1).drew).cell? p = w.cell? p := fun o1 p hp => by
    show World.cell? ((w.alloc _).alloc _) p = _
    rw [World.cell?_alloc_lt _ _ _ (by simp; omega), World.cell?_alloc_lt _ _ _ hp]
  have hk0 : ∀ (p : Addr), p.block < w.heap.size → ((w.alloc (.cells #[.slice (some ad) n c] 27)).drew).cell? p = w.cell? p := fun p hp => by
    show World.cell? (w.alloc _) p = _
    rw [World.cell?_alloc_lt _ _ _ hp]
  have c00 := (hk0 (ad.add (a * 2)) l1).trans c0
  have c10 := (hk0 ⟨(ad.add (a * 2)).block, (ad.add (a * 2)).off + 1, none⟩ l1).trans c1
  have d00 := (hk0 (ad.add (b * 2)) l2).trans d0
  have d10 := (hk0 ⟨(ad.add (b * 2)).block, (ad.add (b * 2)).off + 1, none⟩ l2).trans d1
  have c01 := (hk1 (.cells #[.int .i64 0, .int .i64 0] 37) (ad.add (a * 2)) l1).trans c0
  have c11 := (hk1 (.cells #[.int .i64 0, .int .i64 0] 37) ⟨(ad.add (a * 2)).block, (ad.add (a * 2)).off + 1, none⟩ l1).trans c1
  have d01 := (hk1 (.cells #[.int .i64 0, .int .i64 0] 37) (ad.add (b * 2)) l2).trans d0
  have d11 := (hk1 (.cells #[.int .i64 0, .int .i64 0] 37) ⟨(ad.add (b * 2)).block, (ad.add (b * 2)).off + 1, none⟩ l2).trans d1
  have c02 := (hk1 (.cells #[.int .i64 x, .int .i64 y] 37) (ad.add (a * 2)) l1).trans c0
  have c12 := (hk1 (.cells #[.int .i64 x, .int .i64 y] 37) ⟨(ad.add (a * 2)).block, (ad.add (a * 2)).off + 1, none⟩ l1).trans c1
  have d02 := (hk1 (.cells #[.int .i64 x, .int .i64 y] 37) (ad.add (b * 2)) l2).trans d0
  have d12 := (hk1 (.cells #[.int .i64 x, .int .i64 y] 37) ⟨(ad.add (b * 2)).block, (ad.add (b * 2)).off + 1, none⟩ l2).trans d1
  have c03 := (hk1 (.cells #[.int .i64 p, .int .i64 q] 37) (ad.add (a * 2)) l1).trans c0
  have c13 := (hk1 (.cells #[.int .i64 p, .int .i64 q] 37) ⟨(ad.add (a * 2)).block, (ad.add (a * 2)).off + 1, none⟩ l1).trans c1
  have d03 := (hk1 (.cells #[.int .i64 p, .int .i64 q] 37) (ad.add (b * 2)) l2).trans d0
  have d13 := (hk1 (.cells #[.int .i64 p, .int .i64 q] 37) ⟨(ad.add (b * 2)).block, (ad.add (b * 2)).off + 1, none⟩ l2).trans d1
  have c04 := (hk (.cells #[.int .i64 0, .int .i64 0] 37) (.cells #[.int .i64 0, .int .i64 0] 37) (ad.add (a * 2)) l1).trans c0
  have c14 := (hk (.cells #[.int .i64 0, .int .i64 0] 37) (.cells #[.int .i64 0, .int .i64 0] 37) ⟨(ad.add (a * 2)).block, (ad.add (a * 2)).off + 1, none⟩ l1).trans c1
  have d04 := (hk (.cells #[.int .i64 0, .int .i64 0] 37) (.cells #[.int .i64 0, .int .i64 0] 37) (ad.add (b * 2)) l2).trans d0
  have d14 := (hk (.cells #[.int .i64 0, .int .i64 0] 37) (.cells #[.int .i64 0, .int .i64 0] 37) ⟨(ad.add (b * 2)).block, (ad.add (b * 2)).off + 1, none⟩ l2).trans d1
  have c05 := (hk (.cells #[.int .i64 0, .int .i64 0] 37) (.cells #[.int .i64 x, .int .i64 y] 37) (ad.add (a * 2)) l1).trans c0
  have c15 := (hk (.cells #[.int .i64 0, .int .i64 0] 37) (.cells #[.int .i64 x, .int .i64 y] 37) ⟨(ad.add (a * 2)).block, (ad.add (a * 2)).off + 1, none⟩ l1).trans c1
  have d05 := (hk (.cells #[.int .i64 0, .int .i64 0] 37) (.cells #[.int .i64 x, .int .i64 y] 37) (ad.add (b * 2)) l2).trans d0
  have d15 := (hk (.cells #[.int .i64 0, .int .i64 0] 37) (.cells #[.int .i64 x, .int .i64 y] 37) ⟨(ad.add (b * 2)).block, (ad.add (b * 2)).off + 1, none⟩ l2).trans d1
  have c06 := (hk (.cells #[.int .i64 x, .int .i64 y] 37) (.cells #[.int .i64 0, .int .i64 0] 37) (ad.add (a * 2)) l1).trans c0
  have c16 := (hk (.cells #[.int .i64 x, .int .i64 y] 37) (.cells #[.int .i64 0, .int .i64 0] 37) ⟨(ad.add (a * 2)).block, (ad.add (a * 2)).off + 1, none⟩ l1).trans c1
  have d06 := (hk (.cells #[.int .i64 x, .int .i64 y] 37) (.cells #[.int .i64 0, .int .i64 0] 37) (ad.add (b * 2)) l2).trans d0
  have d16 := (hk (.cells #[.int .i64 x, .int .i64 y] 37) (.cells #[.int .i64 0, .int .i64 0] 37) ⟨(ad.add (b * 2)).block, (ad.add (b * 2)).off + 1, none⟩ l2).trans d1
  have c07 := (hk (.cells #[.int .i64 0, .int .i64 0] 37) (.cells #[.int .i64 p, .int .i64 q] 37) (ad.add (a * 2)) l1).trans c0
  have c17 := (hk (.cells #[.int .i64 0, .int .i64 0] 37) (.cells #[.int .i64 p, .int .i64 q] 37) ⟨(ad.add (a * 2)).block, (ad.add (a * 2)).off + 1, none⟩ l1).trans c1
  have d07 := (hk (.cells #[.int .i64 0, .int .i64 0] 37) (.cells #[.int .i64 p, .int .i64 q] 37) (ad.add (b * 2)) l2).trans d0
  have d17 := (hk (.cells #[.int .i64 0, .int .i64 0] 37) (.cells #[.int .i64 p, .int .i64 q] 37) ⟨(ad.add (b * 2)).block, (ad.add (b * 2)).off + 1, none⟩ l2).trans d1
  have c08 := (hk (.cells #[.int .i64 p, .int .i64 q] 37) (.cells #[.int .i64 0, .int .i64 0] 37) (ad.add (a * 2)) l1).trans c0
  have c18 := (hk (.cells #[.int .i64 p, .int .i64 q] 37) (.cells #[.int .i64 0, .int .i64 0] 37) ⟨(ad.add (a * 2)).block, (ad.add (a * 2)).off + 1, none⟩ l1).trans c1
  have d08 := (hk (.cells #[.int .i64 p, .int .i64 q] 37) (.cells #[.int .i64 0, .int .i64 0] 37) (ad.add (b * 2)) l2).trans d0
  have d18 := (hk (.cells #[.int .i64 p, .int .i64 q] 37) (.cells #[.int .i64 0, .int .i64 0] 37) ⟨(ad.add (b * 2)).block, (ad.add (b * 2)).off + 1, none⟩ l2).trans d1
  have i1 : (0 : Int) ≤ (a : Int) := by omega
  have i2 : (a : Int) < (n : Int) := by omega
  have i3 : (0 : Int) ≤ (b : Int) := by omega
  have i4 : (b : Int) < (n : Int) := by omega
  unfold distN
  rw [e1, e2]
  clear hk hk1 hk0 hR hl hm hm' e1 e2 e hb2 l1 l2 c0 c1 d0 d1 ha hb hb1
  by_cases hab : a = b
  · have g : ((a : Int) == (b : Int)) = true := by simp; omega
    rw [if_pos hab]
    clear hab
    go_enter Try.func48, Try.ntmps48
    go_wp2_with fail
    go_big_region
    all_goals
      go_wp2
      go_ret
      exact ⟨rfl, below_drewN (B.out _ _) 1⟩
  · have g : ((a : Int) == (b : Int)) = false := by simp; omega
    rw [if_neg hab]
    by_cases hx : x = p
    · subst hx
      by_cases hy : y = q
      · subst hy
        rw [if_pos rfl]
        clear hab
        go_enter Try.func48, Try.ntmps48
        go_wp2_with fail
        go_big_region
        all_goals
          go_wp2
          go_ret
          exact ⟨rfl, below_drewN (B.out _ _) 1⟩
      · have g2 : (y == q) = false := by simpa using hy
        rw [if_neg (by simp [hy]), if_pos rfl]
        clear hab hy
        go_enter Try.func48, Try.ntmps48
        go_wp2_with fail
        go_big_region
        all_goals
          go_wp2
          go_ret
          exact ⟨rfl, below_drewN (B.out _ _) 1⟩
    · have g2 : (x == p) = false := by simpa using hx
      rw [if_neg (by simp [hx]), if_neg hx]
      clear hab hx
      go_enter Try.func48, Try.ntmps48
      go_wp2_with fail
      go_big_region
      all_goals
        go_wp2
        go_ret
        exact ⟨rfl, below_drewN (B.out _ _) 1⟩

end Go.Proofs.Ytfalkiinlkfanaa
