/-
  The contracts of the document's Pool, Copy and Same, of the statements' short. No statement is proved here.
-/
import Derived.Test.YtnckfgnhlnichaaVc
namespace Go.Proofs.Ytnckfgnhlnichaa
open Go.RowKit

set_option maxRecDepth 100000 in
set_option maxHeartbeats 1000000 in
theorem rpool_any (A : Option Addr) (n c : Nat) (l : List Nat) (k : Int) (w : World) (hl : l.length = n) : Calls Try.prog 21 #[.agg #[.slice A n c], .int .i64 k] w (Said (.bool (poolB l k)) w) := by
  have B := (Below.refl _ w).alloc (Nat.le_refl _) (.cells #[.slice A n c] 24)
  have HB := Lib.hid B
  clear B
  by_cases h0 : 0 ≤ k
  · have q0 : decide ((0 : Int) ≤ k) = true := decide_eq_true h0
    by_cases h1 : k < (n : Int)
    · have q1 : decide (k < (n : Int)) = true := decide_eq_true h1
      have HV : Hid (poolB l k = true) := Lib.hid (by unfold poolB; rw [hl, q0, q1]; rfl)
      clear hl h1
      go_enter Try.func21, Try.ntmps21
      go_wp2
      go_ret
      exact ⟨retB HV.out.symm, HB.out⟩
    · have q1 : decide (k < (n : Int)) = false := decide_eq_false h1
      have HV : Hid (poolB l k = false) := Lib.hid (by unfold poolB; rw [hl, q0, q1]; rfl)
      clear hl h1
      go_enter Try.func21, Try.ntmps21
      go_wp2
      go_ret
      exact ⟨retB HV.out.symm, HB.out⟩
  · have q0 : decide ((0 : Int) ≤ k) = false := decide_eq_false h0
    have HV : Hid (poolB l k = false) := Lib.hid (by unfold poolB; rw [q0]; rfl)
    clear hl h0
    go_enter Try.func21, Try.ntmps21
    go_wp2
    go_ret
    exact ⟨retB HV.out.symm, HB.out⟩

/-! ### rows of cells beside one another -/
theorem put1 {w w1 : World} {g b : Nat} {t : TypeId} {p x : Value} (K : Blk w1 g t #[p]) (B : Below b w w1) (hg : b ≤ g) : Blk (w1.setCell ⟨g, 0, none⟩ x) g t #[x] ∧ Below b w (w1.setCell ⟨g, 0, none⟩ x) := by
  refine ⟨?_, B.setCell (p := ⟨g, 0, none⟩) hg x⟩
  have := K.set_ 0 x
  simpa using this
theorem own_set {w : World} {base n size : Nat} {e : TypeId} {v : Value} {xs : List Value} (h : w.ownsRow base e size v n xs) {g : Nat} (hg : g < base) (i : Nat) (u : Value) : (w.setCell ⟨g, i, none⟩ u).ownsRow base e size v n xs := by
  refine h.kept (row := some g) ⟨rfl, rfl, rfl, by simp [World.setCell], fun k _ hne => Below.heap_setCell w _ u k (fun he => hne (by rw [he]))⟩ ?_
  cases ho : v.ownBlock with
  | none => exact .inl rfl
  | some k =>
    refine .inr (fun he => ?_)
    have := (h.lt k ho).1
    injection he with he
    omega
theorem own_down {w : World} {base base' n size : Nat} {e : TypeId} {v : Value} {xs : List Value} (h : w.ownsRow base e size v n xs) (hb : base' ≤ base) : w.ownsRow base' e size v n xs := by
  rcases h with ⟨h1, h2 | ⟨g, cap, cur, a, b, c⟩⟩
  · exact ⟨h1, .inl h2⟩
  · exact ⟨h1, .inr ⟨g, cap, cur, a, Nat.le_trans hb b, c⟩⟩
theorem info_parts8 {P : Program} {e : TypeId} {z : Value} {size bytes : Nat} (h : (P.info? e).map (fun i => (i.zero, i.size, i.bytes)) = some (some z, size, bytes)) :
    ∃ i, P.info? e = some i ∧ i.zero = some z ∧ i.size = size ∧ i.bytes = bytes := by
  cases hi : P.info? e with
  | none => rw [hi] at h; cases h
  | some i =>
    rw [hi] at h
    simp only [Option.map_some, Option.some.injEq, Prod.mk.injEq] at h
    exact ⟨i, rfl, h.1, h.2.1, h.2.2⟩

/-- a call answers pools in memory of their own -/
def GivesP (l : List Nat) (w : World) (e : Ending) (w' : World) : Prop :=
  ∃ A c, e = .returned (.agg #[.slice A l.length c]) ∧ w'.ownsRow w.heap.size 29 1 (.slice A l.length c) l.length (us l) ∧ Below w.heap.size w w'

set_option maxRecDepth 100000 in
set_option maxHeartbeats 2000000 in
theorem rcopyP_any (A : Option Addr) (n c : Nat) (l : List Nat) (w : World) (hR : Reads w w.heap.size 1 A n (us l)) (hn : n ≤ 1000) :
    Calls Try.prog 14 #[.agg #[.slice A n c]] w (GivesP l w) := by
  obtain ⟨i0, hi0, hz0, hz1, hz2⟩ := info_parts8 cpus_info
  have HL := Lib.hid (usets_len hR)
  obtain ⟨K1, K2, B⟩ := blks2 w 24 24 #[.slice A n c] #[.slice none 0 0]
  have HB := Lib.hid (And.intro K2 B)
  have HR := Lib.hid (((hR.alloc (Nat.le_refl _) (.cells #[.slice A n c] 24)).alloc (by simp) (.cells #[.slice none 0 0] 24)).alloc (by simp <;> omega) (.cells #[] 29))
  clear hR K1 K2 B
  go_enter Try.func14, Try.ntmps14
  go_wp2_with (
    at_builtin
    refine wpList_append_any _ rfl (.tmp 3) (.tmp 5) 22 rfl (w.heap.size + 1 + 1) 29 i0 (.int .u32 0) 1 4 Try.underlying22 hi0 hz0 hz1 hz2 rfl (by decide) (.slice (some ⟨w.heap.size + 1 + 1, 0, none⟩) 0 0) 0 [] rfl (by simpa using World.ownsRow_made ((w.alloc (.cells #[.slice A n c] 24)).alloc (.cells #[.slice none 0 0] 24)) #[] 0 (by simp <;> omega) (by simp [maxLen]) (by simp)) w.heap.size A n c (us l) rfl HR.out (us_ones l) (by simp only [maxLen]; omega) (by omega) (by simp <;> omega) ?_
    intro v2 w2 hown2 hg2 _
    rw [List.nil_append, Nat.zero_add] at hown2
    have K2 := (HB.out.1.alloc (.cells #[] 29)).grown hg2 (by simp [Value.ownBlock])
    have B3 := HB.out.2.alloc HB.out.2.size (.cells #[] 29)
    have B2 : Below w.heap.size w w2 := B3.grown hg2 B3.size (fun g hg => by simp [Value.ownBlock] at hg; omega)
    clear B3
    obtain ⟨A2, c2, rfl, hc2, hr2⟩ := own_reads hown2
    have HO := Lib.hid (own_set hown2 (show w.heap.size + 1 < w.heap.size + 1 + 1 by omega) 0 (.slice A2 n c2))
    clear hown2 hg2
    have d0 := K2.cell 0
    have f0 := K2.frozen 0
    have HKF := Lib.hid (put1 (x := .slice A2 n c2) K2 B2 (by omega))
    clear K2 B2 hr2)
  refine bodyPost_ret (v := .agg #[.slice A2 n c2]) (results_cell_row Try.results14 _ _ _ _ _ _ _ rfl HKF.out.1 Try.underlying24 rfl (by kernel_rfl)) rfl ⟨A2, c2, by rw [HL.out], by rw [HL.out]; exact own_down HO.out (by omega), HKF.out.2⟩

set_option maxRecDepth 100000 in
set_option maxHeartbeats 2000000 in
theorem shortP_any (A : Option Addr) (n c : Nat) (l : List Nat) (w : World) (hR : Reads w w.heap.size 1 A n (us l)) (hnc : n ≤ c) :
    Calls Try.prog 10 #[.agg #[.slice A n c]] w (GivesP (l.take 12) w) := by
  have hl := usets_len hR
  obtain ⟨K1, K2, B⟩ := blks2 w 24 24 #[.slice A n c] #[.slice none 0 0]
  obtain ⟨m, hm⟩ : ∃ m, m = min n 12 := ⟨_, rfl⟩
  have hR2 : Reads w w.heap.size 1 A m (us (l.take 12)) := by
    have := usets_take hR (N := m) (by omega)
    rwa [show l.take m = l.take 12 by rw [hm, ← hl]; simp; omega] at this
  have hmi : min (n : Int) 12 = (m : Int) := by omega
  have m0 : (m : Int) ≤ (c : Int) := by omega
  have m9 : m ≤ 12 := by omega
  have hlm : (l.take 12).length = m := by rw [List.length_take]; omega
  have HR := Lib.hid hR2
  clear hR
  by_cases h9 : (12 : Int) < (n : Int)
  · obtain rfl : m = 12 := by omega
    clear hmi hl hm
    have HG := Lib.hid (fun u (hb : Below w.heap.size w u) => rcopyP_any A 12 c (l.take 12) u ((HR.out.below hb).more hb.size) (by omega))
    have HK := Lib.hid (And.intro K2 B)
    have HLM := Lib.hid hlm
    clear hR2 K1 K2 B hlm
    go_enter Try.func10, Try.ntmps10
    go_wp2_with fail
    refine (HG.out _ HK.out.2).mono ?_
    rintro e w1 ⟨A2, c2, rfl, own2, h1⟩
    rw [HLM.out] at own2 ⊢
    have K := HK.out.1.below h1 HK.out.1.lt
    have GB := HK.out.2.trans (h1.mono HK.out.2.size)
    have d0 := K.cell 0
    have f0 := K.frozen 0
    have HKF := Lib.hid (put1 (x := .slice A2 12 c2) K GB (by omega))
    have HRR := Lib.hid (own_set own2 (g := w.heap.size + 1) (by simp) 0 (.slice A2 12 c2))
    clear K GB own2 h1
    go_wp2_with fail
    exact bodyPost_ret (v := .agg #[.slice A2 12 c2]) (results_cell_row Try.results10 _ _ _ _ _ _ _ rfl HKF.out.1 Try.underlying24 rfl (by kernel_rfl)) rfl ⟨A2, c2, by rw [HLM.out], by rw [HLM.out]; exact own_down HRR.out (by simp <;> omega), HKF.out.2⟩
  · obtain rfl : m = n := by omega
    clear hmi hl hm
    have HG := Lib.hid (fun u (hb : Below w.heap.size w u) => rcopyP_any A m c (l.take 12) u ((HR.out.below hb).more hb.size) (by omega))
    have HK := Lib.hid (And.intro K2 B)
    have HLM := Lib.hid hlm
    clear hR2 K1 K2 B hlm
    go_enter Try.func10, Try.ntmps10
    go_wp2_with fail
    refine (HG.out _ HK.out.2).mono ?_
    rintro e w1 ⟨A2, c2, rfl, own2, h1⟩
    rw [HLM.out] at own2 ⊢
    have K := HK.out.1.below h1 HK.out.1.lt
    have GB := HK.out.2.trans (h1.mono HK.out.2.size)
    have d0 := K.cell 0
    have f0 := K.frozen 0
    have HKF := Lib.hid (put1 (x := .slice A2 m c2) K GB (by omega))
    have HRR := Lib.hid (own_set own2 (g := w.heap.size + 1) (by simp) 0 (.slice A2 m c2))
    clear K GB own2 h1
    go_wp2_with fail
    exact bodyPost_ret (v := .agg #[.slice A2 m c2]) (results_cell_row Try.results10 _ _ _ _ _ _ _ rfl HKF.out.1 Try.underlying24 rfl (by kernel_rfl)) rfl ⟨A2, c2, by rw [HLM.out], by rw [HLM.out]; exact own_down HRR.out (by simp <;> omega), HKF.out.2⟩

/-- are two rows one -/
def sameP (l m : List Nat) : Bool := decide (l = m)
theorem take_sameP {l m : List Nat} {k s : Nat} (h1 : l[k]? = some s) (h2 : m[k]? = some s) (h : l.take k = m.take k) : l.take (k + 1) = m.take (k + 1) := by
  rw [List.take_add_one, List.take_add_one, h1, h2, h]
theorem sameP_no {l m : List Nat} {k s t : Nat} (h1 : l[k]? = some s) (h2 : m[k]? = some t) (h : s ≠ t) : sameP l m = false := by
  unfold sameP
  rw [decide_eq_false]
  rintro rfl
  rw [h1] at h2
  exact h (Option.some.inj h2)
theorem sameP_long {l m : List Nat} (h : l.length ≠ m.length) : sameP l m = false := by
  unfold sameP
  rw [decide_eq_false]
  rintro rfl
  exact h rfl
theorem sameP_self (l : List Nat) : sameP l l = true := decide_eq_true rfl

set_option maxRecDepth 100000 in
set_option maxHeartbeats 4000000 in
theorem rsameP_any (A A' : Option Addr) (n c n' c' : Nat) (l m : List Nat) (w : World) (hR : Reads w w.heap.size 1 A n (us l)) (hR' : Reads w w.heap.size 1 A' n' (us m)) (hn : n ≤ 1000) :
    Calls Try.prog 13 #[.agg #[.slice A n c], .agg #[.slice A' n' c']] w (Said (.bool (sameP l m)) w) := by
  have hl := usets_len hR
  have hl' := usets_len hR'
  obtain ⟨K1, K2, B⟩ := blks2 w 24 24 #[.slice A n c] #[.slice A' n' c']
  have HB := Lib.hid (And.intro K1 (And.intro K2 B))
  clear K1 K2 B
  by_cases hnn : n = n'
  · have g : ((n : Int) == (n' : Int)) = true := by simp; omega
    have HL := Lib.hid hl
    have HL' : Hid (m.length = n) := Lib.hid (by omega)
    have HR := Lib.hid hR
    have HR' := Lib.hid hR'
    have HN : Hid (n = n') := Lib.hid hnn
    clear hl hl' hR hR' hnn
    go_enter Try.func13, Try.ntmps13
    go_wp2_with fail
    go_loopw [16] (fun i wr => ∃ k : Nat, k ≤ n ∧ i = .int .i64 (k : Int) ∧ Hid (l.take k = m.take k) ∧ Blk wr w.heap.size 24 #[.slice A n c] ∧ Blk wr (w.heap.size + 1) 24 #[.slice A' n' c'] ∧ Below w.heap.size w wr) (fun i _ => n - (intOf i).toNat)
    case atStart => exact ⟨0, by omega, rfl, Lib.hid (by rw [List.take_zero, List.take_zero]), HB.out.1, HB.out.2.1, HB.out.2.2⟩
    case round =>
      obtain ⟨k, hk, rfl, HA, K1, K2, hB⟩ := hrel
      by_cases hlt : k < n
      · obtain ⟨ad, x, rfl, hb1, hm, c0⟩ := uset_at (HR.out.below hB) hlt
        obtain ⟨ad', y, rfl, hb2, hm', d0⟩ := uset_at (HR'.out.below hB) (k := k) (by have := HN.out; omega)
        have k1 : wr.cell? ⟨w.heap.size, 0, none⟩ = some (.slice (some ad) n c) := K1.cell 0
        have k2 : wr.cell? ⟨w.heap.size + 1, 0, none⟩ = some (.slice (some ad') n' c') := K2.cell 0
        have i1 : (0 : Int) ≤ (k : Int) := by omega
        have i2 : (k : Int) < (n : Int) := by omega
        have i3 : (k : Int) < (n' : Int) := by have := HN.out; omega
        have HM := Lib.hid hm
        have HM' := Lib.hid hm'
        clear hm hm'
        by_cases hs : x = y
        · subst hs
          have HS := Lib.hid (take_sameP HM.out HM'.out HA.out)
          go_wp2_with fail
          go_quiet (fail)
          go_wp2
          go_roundw
          case rel => exact ⟨k + 1, by omega, by go_num, HS, K1.drewN _, K2.drewN _, below_drewN hB _⟩
          case measure => simp [intOf]; omega
        · have HV := Lib.hid (sameP_no HM.out HM'.out hs)
          have g2 : ((x : Int) == (y : Int)) = false := by simp; omega
          clear hs
          go_wp2_with fail
          go_quiet (fail)
          go_wp2
          go_ret
          exact ⟨retB HV.out.symm, below_drewN hB _⟩
      · obtain rfl : n = k := by omega
        have HV : Hid (sameP l m = true) := Lib.hid (by
          have h1 := HA.out
          rw [show l.take n = l by rw [← HL.out]; exact List.take_length, show m.take n = m by rw [← HL'.out]; exact List.take_length] at h1
          exact decide_eq_true h1)
        go_wp2
        go_ret
        exact ⟨retB HV.out.symm, hB⟩
  · have g : ((n : Int) == (n' : Int)) = false := by simp; omega
    have HV := Lib.hid (sameP_long (l := l) (m := m) (by omega))
    clear hl hl' hR hR' hnn
    go_enter Try.func13, Try.ntmps13
    go_wp2
    go_ret
    exact ⟨retB HV.out.symm, HB.out.2.2⟩

end Go.Proofs.Ytnckfgnhlnichaa
