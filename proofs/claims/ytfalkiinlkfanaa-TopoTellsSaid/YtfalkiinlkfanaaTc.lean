/-
  The contracts of the document's Dist and Same of topologies. No statement is proved here.
-/
import Derived.Test.YtfalkiinlkfanaaTb
namespace Go.Proofs.Ytfalkiinlkfanaa
open Go.RowKit

set_option maxRecDepth 100000 in
set_option maxHeartbeats 4000000 in
theorem rdist_any (A : Option Addr) (n c : Nat) (l : List (Int × Int)) (a b : Nat) (w : World) (hR : Reads w w.heap.size 2 A n (svs l)) (ha : a < n) (hb : b < n) :
    Calls Try.prog 21 #[.agg #[.slice A n c], .int .i64 (a : Int), .int .i64 (b : Int)] w (Said (.int .i64 (distN l a b)) w) := by
  have hl := reads_len hR
  obtain ⟨⟨x, y⟩, hm⟩ := elem_at (l := l) (k := a) (by omega)
  obtain ⟨⟨p, q⟩, hm'⟩ := elem_at (l := l) (k := b) (by omega)
  have e1 := st_at hm
  have e2 := st_at hm'
  obtain ⟨ad, rfl, hb1, c0, c1⟩ := seat_at hR hm
  obtain ⟨ad', e, hb2, d0, d1⟩ := seat_at hR hm'
  obtain rfl := Option.some.inj e
  have B := Lib.hid ((Below.refl w.heap.size w).alloc (Nat.le_refl _) (.cells #[.slice (some ad) n c] 27))
  have l1 : (ad.add (a * 2)).block < w.heap.size := by rw [block_of_add]; exact hb1
  have l2 : (ad.add (b * 2)).block < w.heap.size := by rw [block_of_add]; exact hb1
  have c0' := (World.cell?_alloc_lt w (.cells #[.slice (some ad) n c] 27) (ad.add (a * 2)) l1).trans c0
  have c1' := (World.cell?_alloc_lt w (.cells #[.slice (some ad) n c] 27) ⟨(ad.add (a * 2)).block, (ad.add (a * 2)).off + 1, none⟩ l1).trans c1
  have d0' := (World.cell?_alloc_lt w (.cells #[.slice (some ad) n c] 27) (ad.add (b * 2)) l2).trans d0
  have d1' := (World.cell?_alloc_lt w (.cells #[.slice (some ad) n c] 27) ⟨(ad.add (b * 2)).block, (ad.add (b * 2)).off + 1, none⟩ l2).trans d1
  have i1 : (0 : Int) ≤ (a : Int) := by omega
  have i2 : (a : Int) < (n : Int) := by omega
  have i3 : (0 : Int) ≤ (b : Int) := by omega
  have i4 : (b : Int) < (n : Int) := by omega
  unfold distN
  rw [e1, e2]
  clear hR hl hm hm' e1 e2 e hb2 l1 l2 c0 c1 d0 d1 ha hb hb1
  by_cases hab : a = b
  · have g : ((a : Int) == (b : Int)) = true := by simp; omega
    rw [if_pos hab]
    clear hab c0' c1' d0' d1' i1 i2 i3 i4
    go_enter Try.func21, Try.ntmps21
    go_wp2
    go_ret
    exact ⟨rfl, B.out⟩
  · have g : ((a : Int) == (b : Int)) = false := by simp; omega
    rw [if_neg hab]
    by_cases hx : x = p
    · subst hx
      by_cases hy : y = q
      · subst hy
        rw [if_pos rfl]
        clear hab
        go_enter Try.func21, Try.ntmps21
        go_wp2_with fail
        go_quiet (fail)
        go_wp2
        go_ret
        exact ⟨rfl, below_drewN B.out _⟩
      · have g2 : (y == q) = false := by simpa using hy
        rw [if_neg (by simp [hy]), if_pos rfl]
        clear hab hy
        go_enter Try.func21, Try.ntmps21
        go_wp2_with fail
        go_quiet (fail)
        go_wp2_with fail
        go_quiet (fail)
        go_wp2
        go_ret
        exact ⟨rfl, below_drewN (below_drewN B.out _) _⟩
    · have g2 : (x == p) = false := by simpa using hx
      rw [if_neg (by simp [hx]), if_neg hx]
      clear hab hx
      go_enter Try.func21, Try.ntmps21
      go_wp2_with fail
      go_quiet (fail)
      go_wp2_with fail
      go_quiet (fail)
      go_wp2
      go_ret
      exact ⟨rfl, below_drewN (below_drewN B.out _) _⟩

/-- are two rows one -/
def sameB (l m : List (Int × Int)) : Bool := decide (l = m)
theorem take_same {l m : List (Int × Int)} {k : Nat} {s : Int × Int} (h1 : l[k]? = some s) (h2 : m[k]? = some s) (h : l.take k = m.take k) : l.take (k + 1) = m.take (k + 1) := by
  rw [List.take_add_one, List.take_add_one, h1, h2, h]
theorem same_no {l m : List (Int × Int)} {k : Nat} {s t : Int × Int} (h1 : l[k]? = some s) (h2 : m[k]? = some t) (h : s ≠ t) : sameB l m = false := by
  unfold sameB
  rw [decide_eq_false]
  rintro rfl
  rw [h1] at h2
  exact h (Option.some.inj h2)
theorem same_long {l m : List (Int × Int)} (h : l.length ≠ m.length) : sameB l m = false := by
  unfold sameB
  rw [decide_eq_false]
  rintro rfl
  exact h rfl

set_option maxRecDepth 100000 in
set_option maxHeartbeats 4000000 in
theorem rsame_any (A A' : Option Addr) (n c n' c' : Nat) (l m : List (Int × Int)) (w : World) (hR : Reads w w.heap.size 2 A n (svs l)) (hR' : Reads w w.heap.size 2 A' n' (svs m)) (hn : n ≤ maxLen) :
    Calls Try.prog 15 #[.agg #[.slice A n c], .agg #[.slice A' n' c']] w (Said (.bool (sameB l m)) w) := by
  unfold maxLen at hn
  have hl := reads_len hR
  have hl' := reads_len hR'
  obtain ⟨K1, K2, B⟩ := blks2 w 27 27 #[.slice A n c] #[.slice A' n' c']
  have HB := Lib.hid (And.intro K1 (And.intro K2 B))
  clear K1 K2 B
  by_cases hnn : n = n'
  · have g : ((n : Int) == (n' : Int)) = true := by simp; omega
    have HL := Lib.hid hl
    have HL' : Hid (m.length = n) := Lib.hid (by omega)
    have HR := Lib.hid hR
    have HR' := Lib.hid hR'
    have HN : Hid (n = n') := Lib.hid hnn
    clear hl hl' hR hR' hnn
    go_enter Try.func15, Try.ntmps15
    go_wp2_with fail
    go_loopw [16] (fun i wr => ∃ k : Nat, k ≤ n ∧ i = .int .i64 (k : Int) ∧ Hid (l.take k = m.take k) ∧ Blk wr w.heap.size 27 #[.slice A n c] ∧ Blk wr (w.heap.size + 1) 27 #[.slice A' n' c'] ∧ Below w.heap.size w wr) (fun i _ => n - (intOf i).toNat)
    case atStart => exact ⟨0, by omega, rfl, Lib.hid (by rw [List.take_zero, List.take_zero]), HB.out.1, HB.out.2.1, HB.out.2.2⟩
    case round =>
      obtain ⟨k, hk, rfl, HA, K1, K2, hB⟩ := hrel
      by_cases hlt : k < n
      · obtain ⟨⟨x, y⟩, hm⟩ := elem_at (l := l) (k := k) (by rw [HL.out]; exact hlt)
        obtain ⟨⟨p, q⟩, hm'⟩ := elem_at (l := m) (k := k) (by rw [HL'.out]; exact hlt)
        obtain ⟨ad, rfl, hb1, c0, c1⟩ := seat_at (HR.out.below hB) hm
        obtain ⟨ad', rfl, hb2, d0, d1⟩ := seat_at (HR'.out.below hB) hm'
        have k1 : wr.cell? ⟨w.heap.size, 0, none⟩ = some (.slice (some ad) n c) := K1.cell 0
        have k2 : wr.cell? ⟨w.heap.size + 1, 0, none⟩ = some (.slice (some ad') n' c') := K2.cell 0
        have i1 : (0 : Int) ≤ (k : Int) := by omega
        have i2 : (k : Int) < (n : Int) := by omega
        have i3 : (k : Int) < (n' : Int) := by have := HN.out; omega
        have HM := Lib.hid hm
        have HM' := Lib.hid hm'
        have hsz := hB.size
        clear hm hm'
        by_cases hs : (x, y) = (p, q)
        · obtain ⟨rfl, rfl⟩ := Prod.mk.inj hs
          have HS := Lib.hid (take_same HM.out HM'.out HA.out)
          clear hs
          go_wp2_with fail
          go_quiet (fail)
          go_wp2
          go_roundw
          case rel => exact ⟨k + 1, by omega, by go_num, HS, K1.drewN _, K2.drewN _, below_drewN hB _⟩
          case measure => simp [intOf]; omega
        · have HV := Lib.hid (same_no HM.out HM'.out hs)
          by_cases hx : x = p
          · subst hx
            have g2 : (y == q) = false := by
              have : y ≠ q := fun h => hs (by rw [h])
              simpa using this
            clear hs
            go_wp2_with fail
            go_quiet (fail)
            go_wp2
            go_ret
            exact ⟨retB HV.out.symm, below_drewN hB _⟩
          · have g2 : (x == p) = false := by simpa using hx
            clear hs hx
            go_wp2_with fail
            go_quiet (fail)
            go_wp2
            go_ret
            exact ⟨retB HV.out.symm, below_drewN hB _⟩
      · obtain rfl : n = k := by omega
        have HV : Hid (sameB l m = true) := Lib.hid (by
          have := HA.out
          rw [show l.take n = l by rw [← HL.out]; exact List.take_length, show m.take n = m by rw [← HL'.out]; exact List.take_length] at this
          unfold sameB
          exact decide_eq_true this)
        clear K1 K2
        go_wp2
        go_ret
        exact ⟨retB HV.out.symm, hB⟩
  · have g : ((n : Int) == (n' : Int)) = false := by simp; omega
    have HV := Lib.hid (same_long (l := l) (m := m) (by omega))
    clear hl hl' hR hR' hnn
    go_enter Try.func15, Try.ntmps15
    go_wp2
    go_ret
    exact ⟨retB HV.out.symm, HB.out.2.2⟩

end Go.Proofs.Ytfalkiinlkfanaa
