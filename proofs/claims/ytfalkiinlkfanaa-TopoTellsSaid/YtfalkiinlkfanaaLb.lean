/-
  The contracts of the landed topo: isCpu, refused, Equal, Same. No statement is proved here.
-/
import Derived.Test.YtfalkiinlkfanaaLa
namespace Go.Proofs.Ytfalkiinlkfanaa
open Go.RowKit

set_option maxRecDepth 100000 in
set_option maxHeartbeats 1000000 in
theorem cput_any (A : Option Addr) (n c : Nat) (k : Int) (w : World) : Calls Try.prog 45 #[.agg #[.slice A n c], .int .i64 k] w (Said (.bool (cpuT n k)) w) := by
  by_cases h0 : 0 ≤ k
  · by_cases h1 : k < (n : Int)
    · have HV := Lib.hid (cpuT_yes h0 h1)
      go_enter Try.func45, Try.ntmps45
      go_wp2
      go_ret
      exact ⟨retB HV.out.symm, (Below.refl _ _).alloc (Nat.le_refl _) _⟩
    · have HV : Hid (cpuT n k = false) := Lib.hid (by unfold cpuT; simp [h0, h1])
      go_enter Try.func45, Try.ntmps45
      go_wp2
      go_ret
      exact ⟨retB HV.out.symm, (Below.refl _ _).alloc (Nat.le_refl _) _⟩
  · have HV : Hid (cpuT n k = false) := Lib.hid (by unfold cpuT; simp [h0])
    go_enter Try.func45, Try.ntmps45
    go_wp2
    go_ret
    exact ⟨retB HV.out.symm, (Below.refl _ _).alloc (Nat.le_refl _) _⟩

/-- why a topology can't be asked of these numbers -/
def refT (l : List (Int × Int)) (cs : List Int) : Int := if rightT l = true then (if cs.all (cpuT l.length) = true then 0 else 2) else 160
theorem all_cpu_no {n : Nat} {cs : List Int} {k : Nat} {x : Int} (hk : cs[k]? = some x) (h : cpuT n x = false) : cs.all (cpuT n) = false := by
  cases ha : cs.all (cpuT n) with
  | false => rfl
  | true =>
    rw [List.all_eq_true] at ha
    rw [ha _ (List.mem_of_getElem? hk)] at h
    cases h
theorem all_cpu_step {n : Nat} {cs : List Int} {k : Nat} {x : Int} (hk : cs[k]? = some x) (h : cpuT n x = true) (ht : (cs.take k).all (cpuT n) = true) : (cs.take (k + 1)).all (cpuT n) = true := by
  rw [List.take_add_one, hk, List.all_append, ht]
  simp [h]

set_option maxRecDepth 100000 in
set_option maxHeartbeats 4000000 in
theorem refused_any (A : Option Addr) (n c : Nat) (l : List (Int × Int)) (C : Option Addr) (m d : Nat) (cs : List Int) (w : World) (hAt : At w A n c l) (hC : Reads w w.heap.size 1 C m (vs cs)) (hm : m ≤ 100) :
    Calls Try.prog 47 #[.agg #[.slice A n c], .slice C m d] w (Said (.int .i64 (refT l cs)) w) := by
  have HL := Lib.hid hAt.len
  have HM : Hid (cs.length = m) := Lib.hid (by have := hC.1; rw [length_vs] at this; omega)
  have HR := Lib.hid hC
  obtain ⟨K, B⟩ : Blk (w.alloc (.cells #[.slice A n c] 27)) w.heap.size 27 #[.slice A n c] ∧ Below w.heap.size w (w.alloc (.cells #[.slice A n c] 27)) := ⟨Blk.new _ _ _, (Below.refl _ _).alloc (Nat.le_refl _) _⟩
  have HK := Lib.hid (tcheck_ok A n c l _ (hAt.below B))
  have HB := Lib.hid (And.intro K B)
  have HI := Lib.hid (fun x u => cput_any A n c x u)
  clear hAt hC K B
  cases hr : rightT l with
  | false =>
    have HV : Hid (refT l cs = 160) := Lib.hid (by unfold refT; rw [hr]; rfl)
    rw [HV.out]
    rw [hr] at HK
    clear hr
    go_enter Try.func47, Try.ntmps47
    go_wp2_with fail
    refine HK.out.mono ?_
    rintro e w1 ⟨rfl, h1⟩
    have B1 := Lib.hid (HB.out.2.trans (h1.mono HB.out.2.size))
    clear h1
    go_wp2
    go_ret
    exact ⟨rfl, B1.out⟩
  | true =>
    have hv : refT l cs = if cs.all (cpuT n) = true then 0 else 2 := by unfold refT; rw [hr, HL.out]; rfl
    generalize refT l cs = O at hv ⊢
    have HV := Lib.hid hv
    clear hv
    rw [hr] at HK
    clear hr
    go_enter Try.func47, Try.ntmps47
    go_wp2_with fail
    refine HK.out.mono ?_
    rintro e w1 ⟨rfl, h1⟩
    have B1 := HB.out.2.trans (h1.mono HB.out.2.size)
    have K1 := HB.out.1.below h1 HB.out.1.lt
    clear h1
    go_wp2_with fail
    go_loopw [15] (fun i wr => ∃ k : Nat, k ≤ m ∧ i = .int .i64 (k : Int) ∧ Hid ((cs.take k).all (cpuT n) = true) ∧ Blk wr w.heap.size 27 #[.slice A n c] ∧ Below w.heap.size w wr) (fun i _ => m - (intOf i).toNat)
    case atStart => exact ⟨0, by omega, rfl, Lib.hid (by rw [List.take_zero]; rfl), K1, B1⟩
    case round =>
      clear K1 B1
      obtain ⟨k, hk, rfl, HA, K, hB⟩ := hrel
      by_cases hlt : k < m
      · obtain ⟨x, hx⟩ := elem_at (l := cs) (k := k) (by rw [HM.out]; exact hlt)
        obtain ⟨ad, u, rfl, hb, hu, hc⟩ := (HR.out.below hB).at_ hlt
        obtain ⟨x', hx', rfl⟩ := vs_at hu
        obtain rfl : x = x' := by rw [hx] at hx'; exact Option.some.inj hx'
        have HX := Lib.hid hx
        have HI2 := Lib.hid (fun u => HI.out x u)
        have hsz := hB.size
        have c0 : wr.cell? ⟨w.heap.size, 0, none⟩ = some (.slice A n c) := K.cell 0
        clear hx hx' hu
        cases hs : cpuT n x with
        | true =>
          have HS := Lib.hid (all_cpu_step HX.out hs HA.out)
          rw [hs] at HI2
          clear hs
          go_wp2_with fail
          refine (HI2.out _).mono ?_
          rintro e w2 ⟨rfl, h2⟩
          have K2 := K.below h2 K.lt
          have B2 := hB.trans (h2.mono hsz)
          clear hc c0 h2 hB K
          go_wp2
          go_roundw
          case rel => exact ⟨k + 1, by omega, by go_num, HS, K2, B2⟩
          case measure => simp [intOf]; omega
        | false =>
          have HV2 := Lib.hid (all_cpu_no HX.out hs)
          rw [hs] at HI2
          clear hs
          go_wp2_with fail
          refine (HI2.out _).mono ?_
          rintro e w2 ⟨rfl, h2⟩
          have B2 := hB.trans (h2.mono hsz)
          clear hc c0 h2 hB K
          go_wp2
          go_ret
          exact ⟨retI (by rw [HV.out, HV2.out]; rfl), B2⟩
      · obtain rfl : m = k := by omega
        have hall : Hid (cs.all (cpuT n) = true) := Lib.hid (by
          have := HA.out
          rwa [show cs.take m = cs by rw [← HM.out]; exact List.take_length] at this)
        go_wp2
        go_ret
        exact ⟨retI (by rw [HV.out, hall.out]; rfl), hB⟩

set_option maxRecDepth 100000 in
set_option maxHeartbeats 4000000 in
theorem equal_any (A A' : Option Addr) (n c n' c' : Nat) (l m : List (Int × Int)) (w : World) (hR : Reads w w.heap.size 2 A n (svs l)) (hR' : Reads w w.heap.size 2 A' n' (svs m)) (hn : n ≤ maxLen) :
    Calls Try.prog 40 #[.slice A n c, .slice A' n' c'] w (Said (.bool (sameB l m)) w) := by
  unfold maxLen at hn
  have hl := reads_len hR
  have hl' := reads_len hR'
  by_cases hnn : n = n'
  · have g : ((n : Int) == (n' : Int)) = true := by simp; omega
    have HL := Lib.hid hl
    have HL' : Hid (m.length = n) := Lib.hid (by omega)
    have HR := Lib.hid hR
    have HR' := Lib.hid hR'
    have HN : Hid (n = n') := Lib.hid hnn
    clear hl hl' hR hR' hnn
    go_enter Try.func40, Try.ntmps40
    go_wp2_with fail
    go_loopw [13] (fun i wr => ∃ k : Nat, k ≤ n ∧ i = .int .i64 (k : Int) ∧ Hid (l.take k = m.take k) ∧ Below w.heap.size w wr) (fun i _ => n - (intOf i).toNat)
    case atStart => exact ⟨0, by omega, rfl, Lib.hid (by rw [List.take_zero, List.take_zero]), Below.refl _ _⟩
    case round =>
      obtain ⟨k, hk, rfl, HA, hB⟩ := hrel
      by_cases hlt : k < n
      · obtain ⟨⟨x, y⟩, hm⟩ := elem_at (l := l) (k := k) (by rw [HL.out]; exact hlt)
        obtain ⟨⟨p, q⟩, hm'⟩ := elem_at (l := m) (k := k) (by rw [HL'.out]; exact hlt)
        obtain ⟨ad, rfl, hb1, c0, c1⟩ := seat_at (HR.out.below hB) hm
        obtain ⟨ad', rfl, hb2, d0, d1⟩ := seat_at (HR'.out.below hB) hm'
        have i1 : (0 : Int) ≤ (k : Int) := by omega
        have i2 : (k : Int) < (n : Int) := by omega
        have i3 : (k : Int) < (n' : Int) := by have := HN.out; omega
        have HM := Lib.hid hm
        have HM' := Lib.hid hm'
        have hsz := hB.size
        clear hm hm'
        by_cases hs : (x, y) = (p, q)
        · obtain ⟨rfl, rfl⟩ := Prod.mk.inj hs
          have HS := Lib.hid (take_same HM.out HM'.out HA.out)
          clear hs
          go_wp2_with fail
          go_quiet (fail)
          go_wp2
          go_roundw
          case rel => exact ⟨k + 1, by omega, by go_num, HS, below_drewN hB _⟩
          case measure => simp [intOf]; omega
        · have HV := Lib.hid (same_no HM.out HM'.out hs)
          by_cases hx : x = p
          · subst hx
            have g2 : (y == q) = false := by
              have : y ≠ q := fun h => hs (by rw [h])
              simpa using this
            clear hs
            go_wp2_with fail
            go_quiet (fail)
            go_wp2
            go_ret
            exact ⟨retB HV.out.symm, below_drewN hB _⟩
          · have g2 : (x == p) = false := by simpa using hx
            clear hs hx
            go_wp2_with fail
            go_quiet (fail)
            go_wp2
            go_ret
            exact ⟨retB HV.out.symm, below_drewN hB _⟩
      · obtain rfl : n = k := by omega
        have HV : Hid (sameB l m = true) := Lib.hid (by
          have := HA.out
          rw [show l.take n = l by rw [← HL.out]; exact List.take_length, show m.take n = m by rw [← HL'.out]; exact List.take_length] at this
          unfold sameB
          exact decide_eq_true this)
        go_wp2
        go_ret
        exact ⟨retB HV.out.symm, hB⟩
  · have g : ((n : Int) == (n' : Int)) = false := by simp; omega
    have HV := Lib.hid (same_long (l := l) (m := m) (by omega))
    clear hl hl' hR hR' hnn
    go_enter Try.func40, Try.ntmps40
    go_wp2
    go_ret
    exact ⟨retB HV.out.symm, Below.refl _ _⟩

set_option maxRecDepth 100000 in
set_option maxHeartbeats 1000000 in
theorem tsame_ok : TSameOk := by
  intro A A' n c n' c' l m u hA hA'
  obtain ⟨K1, K2, B⟩ := blks2 u 27 27 #[.slice A n c] #[.slice A' n' c']
  have HE := Lib.hid (equal_any A A' n c n' c' l m _ ((hA.1.below B).more B.size) ((hA'.1.below B).more B.size) (by have := hA.2.2; unfold maxLen; omega))
  have HB := Lib.hid B
  clear hA hA' K1 K2 B
  go_enter Try.func14, Try.ntmps14
  go_wp2_with fail
  refine HE.out.mono ?_
  rintro e w1 ⟨rfl, h1⟩
  have B1 := Lib.hid (HB.out.trans (h1.mono HB.out.size))
  clear h1
  go_wp2
  go_ret
  exact ⟨rfl, B1.out⟩

end Go.Proofs.Ytfalkiinlkfanaa
