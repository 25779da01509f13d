/-
  Same of equal rows; to run twice is to run at once; the statements' own ids, named; what running answers. No statement is proved here.
-/
import Derived.Test.YtfgabmelmopgdaaVn
namespace Go.Proofs.Ytfgabmelmopgdaa
open Go.RowKit

set_option maxRecDepth 100000 in
set_option maxHeartbeats 4000000 in
theorem requal_self (A : Option Addr) (n c : Nat) (A' : Option Addr) (c' : Nat) (l : List Rn) (w : World) (hG : Reads w w.heap.size 5 A n (flat rv l)) (hG' : Reads w w.heap.size 5 A' n (flat rv l)) (hn : n ≤ 1000) :
    Calls Try.prog 34 #[.slice A n c, .slice A' n c'] w (Said (.bool true) w) := by
  have HL := Lib.hid (rns_len hG)
  have HR := Lib.hid hG
  have HR' := Lib.hid hG'
  clear hG hG'
  go_enter Try.func34, Try.ntmps34
  go_wp2_with fail
  go_loopw [13] (fun iv wr => ∃ k : Nat, k ≤ n ∧ iv = .int .i64 (k : Int) ∧ Below w.heap.size w wr) (fun iv _ => n - (intOf iv).toNat)
  case atStart => exact ⟨0, by omega, rfl, Below.refl _ _⟩
  case round =>
    obtain ⟨k, hk, rfl, hB⟩ := hrel
    by_cases hlt : k < n
    · obtain ⟨⟨a, b, h, l, x⟩, hm⟩ := elem_at (l := l) (k := k) (by rw [HL.out]; exact hlt)
      obtain ⟨ad, rfl, hb1, c0, c1, c2, c3, c4⟩ := rn_at (HR.out.below hB) hm
      obtain ⟨ad', rfl, hb2, d0, d1, d2, d3, d4⟩ := rn_at (HR'.out.below hB) hm
      have i1 : (0 : Int) ≤ (k : Int) := by omega
      have i2 : (k : Int) < (n : Int) := by omega
      clear hm hb1 hb2
      go_wp2_with fail
      go_quiet (fail)
      go_wp2
      go_roundw
      case rel => exact ⟨k + 1, by omega, by go_num, below_drewN hB _⟩
      case measure => simp [intOf]; omega
    · obtain rfl : k = n := by omega
      go_wp2
      go_ret
      exact ⟨rfl, hB⟩

set_option maxRecDepth 100000 in
set_option maxHeartbeats 2000000 in
theorem same_self (A : Option Addr) (n c : Nat) (A' : Option Addr) (c' : Nat) (l : List Rn) (w : World) (hG : QR w A n c l) (hG' : QR w A' n c' l) : Calls Try.prog 13 #[.agg #[.slice A n c], .agg #[.slice A' n c']] w (Said (.bool true) w) := by
  obtain ⟨K0, K1, GB⟩ := blks2 w 26 26 #[.slice A n c] #[.slice A' n c']
  have HE := Lib.hid (fun (u : World) (h : Below w.heap.size w u) => requal_self A n c A' c' l u (hG.below h).row (hG'.below h).row hG.small)
  have z0 := K0.cell 0
  have z1 := K1.cell 0
  clear K0 K1 hG hG'
  go_enter Try.func13, Try.ntmps13
  go_wp2_with fail
  refine (HE.out _ GB).mono ?_
  rintro e w1 ⟨rfl, h9⟩
  replace GB := GB.trans (h9.mono GB.size)
  clear h9 z0 z1
  go_wp2
  go_ret
  exact ⟨rfl, GB⟩

/-- done to those of these numbers -/
def upd (f : Rn → Option Rn) (is : List Int) (r : Rn) : Rn := if r.1 ∈ is then (f r).getD r else r
theorem upd_out {f : Rn → Option Rn} {is : List Int} {r : Rn} (h : r.1 ∉ is) : upd f is r = r := if_neg h
theorem kf_same {l : List Rn} {s r : Rn} (hR : Rise l) (hk : kf l s.1 = some r) {j : Int} (hj : j ≠ s.1) : kf (setK l s) j = kf l j := by rw [kf_set hR hk, if_neg hj]
/-- done to each, one after another: done to all of them at once -/
theorem each_map {f : Rn → Option Rn} (hid : ∀ r s, f r = some s → s.1 = r.1) : ∀ (is : List Int) (l : List Rn), Rise l → is.Nodup → (∀ i ∈ is, (kf l i).isSome = true) →
    eachF f l is = if (∀ i ∈ is, ∀ r, kf l i = some r → (f r).isSome = true) then some (l.map (upd f is)) else none
  | [], l, _, _, _ => by
    rw [if_pos (fun i hi => by cases hi)]
    show some l = _
    congr 1
    have : l.map (upd f []) = l.map id := List.map_congr_left fun r _ => upd_out (by simp)
    rw [this, List.map_id]
  | i :: is, l, hR, hN, hall => by
    obtain ⟨r, hk⟩ : ∃ r, kf l i = some r := Option.isSome_iff_exists.1 (hall i (by simp))
    have hri := kf_id hk
    rw [eachF_cons hk]
    have hni : i ∉ is := (List.nodup_cons.1 hN).1
    cases hs : f r with
    | none =>
      rw [if_neg]
      intro h
      have := h i (by simp) r hk
      rw [hs] at this
      cases this
    | some s =>
      have hsi : s.1 = i := (hid r s hs).trans hri
      have hks : kf l s.1 = some r := by rw [hsi]; exact hk
      have hsame : ∀ j ∈ is, kf (setK l s) j = kf l j := fun j hj => kf_same hR hks (fun e => hni (by rw [← hsi, ← e]; exact hj))
      show eachF f (setK l s) is = _
      rw [each_map hid is (setK l s) (rise_set hR hks) (List.nodup_cons.1 hN).2 (fun j hj => by rw [hsame j hj]; exact hall j (by simp [hj]))]
      have hiff : (∀ j ∈ is, ∀ t, kf (setK l s) j = some t → (f t).isSome = true) ↔ (∀ j ∈ i :: is, ∀ t, kf l j = some t → (f t).isSome = true) := by
        constructor
        · intro h j hj t ht
          rcases List.mem_cons.1 hj with rfl | hj
          · rw [hk] at ht
            injection ht with ht
            subst ht
            rw [hs]
            rfl
          · exact h j hj t (by rw [hsame j hj]; exact ht)
        · intro h j hj t ht
          exact h j (by simp [hj]) t (by rw [← hsame j hj]; exact ht)
      by_cases hc : ∀ j ∈ i :: is, ∀ t, kf l j = some t → (f t).isSome = true
      · rw [if_pos hc, if_pos (hiff.2 hc)]
        congr 1
        rw [setK_eq hR hks, List.map_map]
        refine List.map_congr_left fun z hz => ?_
        show upd f is (if z.1 = s.1 then s else z) = _
        by_cases hzi : z.1 = s.1
        · rw [if_pos hzi]
          have hzr : z = r := by
            have q := kf_mem hR hz
            rw [hzi, hks] at q
            injection q with q
            exact q.symm
          subst hzr
          rw [upd_out (by rw [hsi]; exact hni)]
          unfold upd
          rw [if_pos (by rw [hri]; simp), hs]
          rfl
        · rw [if_neg hzi]
          have hne : z.1 ≠ i := fun e => hzi (by rw [hsi]; exact e)
          unfold upd
          by_cases hm : z.1 ∈ is
          · rw [if_pos hm, if_pos (by simp [hm])]
          · rw [if_neg hm, if_neg (by simp [hm, hne])]
      · rw [if_neg hc, if_neg (fun h => hc (hiff.1 h))]
theorem rise_gt : ∀ (is : List Int) (last : Int), riseI last is = true → ∀ j ∈ is, last < j
  | [], _, _, j, hj => by cases hj
  | i :: is, last, h, j, hj => by
    unfold riseI at h
    simp only [Bool.and_eq_true, decide_eq_true_eq] at h
    rcases List.mem_cons.1 hj with rfl | hj
    · exact h.1.1
    · have := rise_gt is i h.2 j hj
      omega
theorem rise_nodup : ∀ (is : List Int) (last : Int), riseI last is = true → is.Nodup
  | [], _, _ => List.Pairwise.nil
  | i :: is, last, h => by
    unfold riseI at h
    simp only [Bool.and_eq_true, decide_eq_true_eq] at h
    refine List.nodup_cons.2 ⟨fun hm => ?_, rise_nodup is i h.2⟩
    have := rise_gt is i h.2 i hm
    omega
theorem mkR_id (i e : Int) (n x : Nat) : (mkR i e n x).1 = i := by unfold mkR; exact Eq.refl i
theorem mkR_each (i e : Int) (n x : Nat) : (mkR i e n x).2.1 = e := by unfold mkR; exact Eq.refl e
theorem runF_yes {d : Nat} {r : Rn} (h : rN r + r.2.1.toNat * d < 2 ^ 100) : runF d r = some (mkR r.1 r.2.1 (rN r + r.2.1.toNat * d) (rW r)) := by unfold runF; exact if_pos h
theorem runF_no {d : Nat} {r : Rn} (h : ¬ rN r + r.2.1.toNat * d < 2 ^ 100) : runF d r = none := by unfold runF; exact if_neg h
theorem runF_id {d : Nat} (r s : Rn) (h : runF d r = some s) : s.1 = r.1 := by
  by_cases hc : rN r + r.2.1.toNat * d < 2 ^ 100
  · rw [runF_yes hc] at h
    rw [← Option.some.inj h, mkR_id]
  · rw [runF_no hc] at h
    exact absurd h (by simp)
/-- one runner, twice -/
theorem runF_twice {a b : Nat} {r s : Rn} (h : runF a r = some s) : runF b s = runF (a + b) r := by
  by_cases hc : rN r + r.2.1.toNat * a < 2 ^ 100
  · rw [runF_yes hc] at h
    have h := Option.some.inj h
    have e1 : rN s = rN r + r.2.1.toNat * a := by rw [← h]; exact rN_mk _ _ _ _
    have e2 : s.1 = r.1 := by rw [← h]; exact mkR_id _ _ _ _
    have e3 : s.2.1 = r.2.1 := by rw [← h]; exact mkR_each _ _ _ _
    have e4 : rW s = rW r := by rw [← h]; exact rW_mk _ _ _ _
    have e5 : rN r + r.2.1.toNat * a + r.2.1.toNat * b = rN r + r.2.1.toNat * (a + b) := by rw [Nat.mul_add, Nat.add_assoc]
    unfold runF
    rw [e1, e2, e3, e4, e5]
  · rw [runF_no hc] at h
    exact absurd h (by simp)
/-- all of them, twice -/
theorem runs_twice {a b : Nat} {is : List Int} {l m : List Rn} (hR : RQ l) (hN : is.Nodup) (hall : ∀ i ∈ is, (kf l i).isSome = true) (h : eachF (runF a) l is = some m) (hRm : Rise m) :
    eachF (runF b) m is = eachF (runF (a + b)) l is := by
  rw [each_map (f := runF a) runF_id is l hR.rise hN hall] at h
  by_cases hc : ∀ i ∈ is, ∀ r, kf l i = some r → (runF a r).isSome = true
  · rw [if_pos hc] at h
    injection h with h
    have hkm : ∀ i ∈ is, ∀ r, kf l i = some r → ∃ s, runF a r = some s ∧ kf m i = some s := fun i hi r hk => by
      obtain ⟨s, hs⟩ := Option.isSome_iff_exists.1 (hc i hi r hk)
      have hri := kf_id hk
      refine ⟨s, hs, ?_⟩
      have hm : s ∈ m := by
        rw [← h]
        refine List.mem_map.2 ⟨r, (kf_some hk).1, ?_⟩
        unfold upd
        rw [if_pos (by rw [hri]; exact hi), hs]
        rfl
      have q := kf_mem hRm hm
      rw [runF_id r s hs, hri] at q
      exact q
    have hallm : ∀ i ∈ is, (kf m i).isSome = true := fun i hi => by
      obtain ⟨r, hk⟩ := Option.isSome_iff_exists.1 (hall i hi)
      obtain ⟨s, _, hs⟩ := hkm i hi r hk
      rw [hs]
      rfl
    rw [each_map (f := runF b) runF_id is m hRm hN hallm, each_map (f := runF (a + b)) runF_id is l hR.rise hN hall]
    have hiff : (∀ i ∈ is, ∀ s, kf m i = some s → (runF b s).isSome = true) ↔ (∀ i ∈ is, ∀ r, kf l i = some r → (runF (a + b) r).isSome = true) := by
      constructor
      · intro hh i hi r hk
        obtain ⟨s, h1, h2⟩ := hkm i hi r hk
        rw [← runF_twice h1]
        exact hh i hi s h2
      · intro hh i hi s hk
        obtain ⟨r, hk2⟩ := Option.isSome_iff_exists.1 (hall i hi)
        obtain ⟨s', h1, h2⟩ := hkm i hi r hk2
        rw [h2] at hk
        injection hk with hk
        subst hk
        rw [runF_twice h1]
        exact hh i hi r hk2
    by_cases hd : ∀ i ∈ is, ∀ r, kf l i = some r → (runF (a + b) r).isSome = true
    · rw [if_pos hd, if_pos (hiff.2 hd), ← h, List.map_map]
      congr 1
      refine List.map_congr_left fun r hr => ?_
      show upd (runF b) is (upd (runF a) is r) = upd (runF (a + b)) is r
      by_cases hm : r.1 ∈ is
      · have hk := kf_mem hR.rise hr
        obtain ⟨s, h1, _⟩ := hkm r.1 hm r hk
        have e1 : upd (runF a) is r = s := by unfold upd; rw [if_pos hm, h1]; rfl
        have e2 : s.1 ∈ is := by rw [runF_id r s h1]; exact hm
        rw [e1]
        unfold upd
        rw [if_pos e2, if_pos hm, runF_twice h1]
        obtain ⟨t, ht⟩ := Option.isSome_iff_exists.1 (hd r.1 hm r hk)
        rw [ht]
        rfl
      · rw [upd_out hm, upd_out hm, upd_out hm]
    · rw [if_neg hd, if_neg (fun hh => hd (hiff.1 hh))]
  · rw [if_neg hc] at h
    cases h

/-- a call answers a row of numbers in memory of its own -/
def Lists (w : World) (l : List Int) (e : Ending) (w' : World) : Prop :=
  ∃ A c, e = .returned (.slice A l.length c) ∧ w'.ownsRow w.heap.size 3 1 (.slice A l.length c) l.length (vs l) ∧ Below w.heap.size w w'
theorem lists_of {w w' : World} {v : Value} {l : List Int} {m : Nat} (hm : m = l.length) (h : w'.ownsRow w.heap.size 3 1 v m (vs l)) (hb : Below w.heap.size w w') : Lists w l (.returned v) w' := by
  subst hm
  obtain ⟨A, c, rfl⟩ : ∃ A c, v = .slice A l.length c := by
    rcases h.2 with ⟨rfl, h0⟩ | ⟨g, cap, cur, rfl, _⟩
    · exact ⟨none, 0, by rw [h0]⟩
    · exact ⟨_, _, rfl⟩
  exact ⟨A, c, rfl, h, hb⟩
/-- numbers that lie somewhere, however many -/
theorem take_ints {w : World} {B n : Nat} {A : Option Addr} {l : List Int} (h : Reads w B 1 A n (vs l)) : Reads w B 1 A (min n 17) (vs (l.take 17)) ∧ min n 17 = (l.take 17).length := by
  have hl : l.length = n := by have := h.1; simpa [length_vs] using this
  refine ⟨⟨by rw [length_vs, List.length_take]; omega, fun h0 => ?_⟩, by rw [List.length_take]; omega⟩
  obtain ⟨ad, e, hb, hc⟩ := h.2 (by omega)
  refine ⟨ad, e, hb, fun j u hu => hc j u ?_⟩
  obtain ⟨x, hx, rfl⟩ := vs_at hu
  rw [List.getElem?_take] at hx
  split at hx
  · unfold vs; rw [List.getElem?_map, hx]; rfl
  · cases hx
/-- a queue's numbers that are in l -/
def namedL (qs : List Rn) (l : List Int) : List Int := (qs.filter fun r => decide (r.1 ∈ l)).map fun r => r.1
theorem named_step {qs : List Rn} {l : List Int} {k : Nat} {r : Rn} (h : qs[k]? = some r) : namedL (qs.take (k + 1)) l = namedL (qs.take k) l ++ (if r.1 ∈ l then [r.1] else []) := by
  unfold namedL
  rw [List.take_add_one, h, List.filter_append, List.map_append]
  congr 1
  by_cases hm : r.1 ∈ l
  · rw [if_pos hm]; simp [hm]
  · rw [if_neg hm]; simp [hm]
theorem named_len (qs : List Rn) (l : List Int) (k : Nat) : (namedL (qs.take k) l).length ≤ k := by
  unfold namedL
  rw [List.length_map]
  refine Nat.le_trans (List.length_filter_le _ _) ?_
  rw [List.length_take]
  omega
theorem not_mem_step {l : List Int} {a y : Int} {j : Nat} (h : a ∉ l.take j) (hy : l[j]? = some y) (hne : y ≠ a) : a ∉ l.take (j + 1) := by
  rw [List.take_add_one, hy]
  intro hm
  rcases List.mem_append.1 hm with hm | hm
  · exact h hm
  · have : a = y := by simpa using hm
    exact hne this.symm

set_option maxRecDepth 100000 in
set_option maxHeartbeats 4000000 in
theorem ids_any (A : Option Addr) (n c : Nat) (l : List Int) (w : World) (hR : Reads w w.heap.size 1 A n (vs l)) (hnc : n ≤ c) :
    Calls Try.prog 58 #[.slice A n c] w (Lists w (l.take 17)) := by
  obtain ⟨i0, hi0, hz0, hz1, hz2⟩ := info_parts9 int_info
  obtain ⟨hR2, hlen⟩ := take_ints hR
  obtain ⟨m, hm⟩ : ∃ m, min n 17 = m := ⟨_, rfl⟩
  rw [hm] at hR2 hlen
  have hmi : min (n : Int) 17 = (m : Int) := by omega
  have m0 : (0 : Int) ≤ (m : Int) := by omega
  have m1 : (m : Int) ≤ (c : Int) := by omega
  have m30 : m ≤ 17 := by omega
  have HR := Lib.hid hR2
  have HL := Lib.hid hlen
  generalize l.take 17 = L at HR HL ⊢
  clear hR hR2 hlen hm
  go_enter Try.func58, Try.ntmps58
  go_wp2_with (
    at_builtin
    refine wpList_append_any _ rfl (.tmp 3) (.tmp 8) 54 rfl w.heap.size 3 i0 (.int .i64 0) 1 8 Try.underlying54 hi0 hz0 hz1 hz2 rfl (by decide) (.slice (some ⟨w.heap.size, 0, none⟩) 0 0) 0 [] rfl (World.ownsRow_made _ _ _ (by omega) (by simp [maxLen]) (by simp)) w.heap.size A m c (vs L) rfl (HR.out.alloc (by omega) _) (vs_ones L) (by simp only [maxLen]; omega) (by omega) (by simp) ?_
    intro v2 w2 hown2 hg2 _)
  go_ret
  refine lists_of HL.out ?_ ?_
  · simpa using hown2
  · exact ((Below.refl _ _).alloc (Nat.le_refl _) _).grown hg2 (by simp) (fun g hg => by simp [Value.ownBlock] at hg; omega)

set_option maxRecDepth 100000 in
set_option maxHeartbeats 8000000 in
theorem named_any (A : Option Addr) (n c : Nat) (is : List Int) (A2 : Option Addr) (n2 c2 : Nat) (qs : List Rn) (w : World) (hR : Reads w w.heap.size 1 A n (vs is)) (hnc : n ≤ c) (hG : QR w A2 n2 c2 qs) :
    Calls Try.prog 27 #[.agg #[.int .i64 0, .int .i64 0, .int .i64 0, .int .u64 0, .int .u64 0, .int .u64 0, .int .u64 0, .slice A n c, .bool true, .int .i64 0, .int .u64 0, .int .i64 0], .agg #[.slice A2 n2 c2]] w (Lists w (namedL qs (is.take 17))) := by
  obtain ⟨i0, hi0, hz0, hz1, hz2⟩ := info_parts9 int_info
  obtain ⟨K0, K1, GB⟩ := blks2 w 61 26 #[.int .i64 0, .int .i64 0, .int .i64 0, .int .u64 0, .int .u64 0, .int .u64 0, .int .u64 0, .slice A n c, .bool true, .int .i64 0, .int .u64 0, .int .i64 0] #[.slice A2 n2 c2]
  have HId := Lib.hid (fun (u : World) (h : Below w.heap.size w u) => ids_any A n c is u ((hR.below h).more h.size) hnc)
  have HG := Lib.hid hG
  have HL := Lib.hid hG.len
  have n9 : n2 ≤ 1000 := hG.small
  have hm17 : (is.take 17).length ≤ 17 := by rw [List.length_take]; omega
  generalize is.take 17 = L at HId hm17 ⊢
  have z0 := K0.cell 7
  clear hR hnc hG
  go_enter Try.func27, Try.ntmps27
  go_wp2_with fail
  refine (HId.out _ GB).mono ?_
  rintro e w1 ⟨A5, c5, rfl, own5, h9⟩
  replace K0 := K0.below h9 K0.lt
  replace K1 := K1.below h9 K1.lt
  replace GB := GB.trans (h9.mono GB.size)
  obtain ⟨_, _, e5, _, R5⟩ := own_reads own5
  injection e5 with e5 e6 e7
  subst e5
  obtain ⟨m, hm⟩ : ∃ m, L.length = m := ⟨_, rfl⟩
  rw [hm] at R5 hm17 ⊢
  have HI5 : Hid (IR w1 A5 m L) := Lib.hid ⟨R5, by omega⟩
  have HM := Lib.hid hm
  clear own5 h9 z0 R5 hm e7 HId
  have z0 := K0.cell 8
  have z1 := K1.cell 0
  have HGB := Lib.hid GB
  go_wp2_with fail
  go_loopw [6, 21] (fun s iv wr => ∃ (k m2 : Nat) (v : Value), k ≤ n2 ∧ m2 ≤ k ∧ v = s ∧ iv = .int .i64 (k : Int) ∧ Hid (m2 = (namedL (qs.take k) L).length ∧ wr.ownsRow w1.heap.size 3 1 v m2 (vs (namedL (qs.take k) L))) ∧ Below w1.heap.size w1 wr) (fun _ iv _ => n2 - (intOf iv).toNat)
  case atStart => exact ⟨0, 0, _, Nat.zero_le _, Nat.le_refl _, rfl, rfl, Lib.hid ⟨rfl, World.ownsRow_nil _ _ _ _⟩, Below.refl _ _⟩
  case round =>
    clear GB K0 K1 z0 z1
    obtain ⟨k, m2, v, hk, hm2, rfl, rfl, HO, hB⟩ := hrel
    by_cases hlt : k < n2
    · obtain ⟨⟨a, b, h, l, x⟩, hx⟩ := elem_at (l := qs) (k := k) (by rw [HL.out]; exact hlt)
      obtain ⟨ad, rfl, hb1, d0, d1, d2, d3, d4⟩ := rn_at ((HG.out.below HGB.out).below hB).row hx
      have HX := Lib.hid (named_step (l := L) hx)
      have i1 : (0 : Int) ≤ (k : Int) := by omega
      have i2 : (k : Int) < (n2 : Int) := by omega
      have K8 := Blk.new wr 40 #[.int .i64 a, .int .i64 b, .int .u64 (h : Int), .int .u64 (l : Int), .int .u64 (x : Int)]
      have HB2 := Lib.hid (hB.alloc hB.size (.cells #[.int .i64 a, .int .i64 b, .int .u64 (h : Int), .int .u64 (l : Int), .int .u64 (x : Int)] 40))
      have HO2 := Lib.hid (HO.out.2.alloc (.cells #[.int .i64 a, .int .i64 b, .int .u64 (h : Int), .int .u64 (l : Int), .int .u64 (x : Int)] 40))
      have Hk1 : Hid (k + 1 ≤ n2 ∧ m2 + 1 ≤ k + 1) := Lib.hid ⟨hlt, by omega⟩
      clear hx hb1
      go_upto_region 8 with fail
      obtain ⟨Y, hY⟩ : ∃ Y, wr.alloc (.cells #[.int .i64 a, .int .i64 b, .int .u64 (h : Int), .int .u64 (l : Int), .int .u64 (x : Int)] 40) = Y := ⟨_, rfl⟩
      obtain ⟨g8, hg8⟩ : ∃ g, wr.heap.size = g := ⟨_, rfl⟩
      rw [hY] at K8 HB2 HO2 ⊢
      rw [hg8] at K8 ⊢
      have e0 := K8.cell 0
      have HBy := Lib.hid hB
      clear hY hg8 d0 d1 d2 d3 d4 hB
      go_wp2_with fail
      go_loop [6, 27] (fun s iv => ∃ j : Nat, j ≤ m ∧ v = s ∧ iv = .int .i64 (j : Int) ∧ Hid (a ∉ L.take j)) (fun _ iv => m - (intOf iv).toNat)
      case atStart => exact ⟨0, Nat.zero_le _, rfl, rfl, Lib.hid (by simp)⟩
      case round =>
        obtain ⟨j, hj, rfl, rfl, HN⟩ := hrel
        by_cases hjt : j < m
        · obtain ⟨y, hy⟩ := elem_at (l := L) (k := j) (by rw [HM.out]; exact hjt)
          obtain ⟨ad5, rfl, _, c0⟩ := (HI5.out.below HB2.out).at_ hy
          have i3 : (0 : Int) ≤ (j : Int) := by omega
          have i4 : (j : Int) < (m : Int) := by omega
          by_cases hya : y = a
          · have HV : Hid (namedL (qs.take (k + 1)) L = namedL (qs.take k) L ++ [a]) := Lib.hid (by
              rw [HX.out, if_pos (show a ∈ L from hya ▸ List.mem_of_getElem? hy)])
            subst hya
            have Hs := Lib.hid HB2.out.size
            clear hy
            go_wp2_with (
              at_builtin
              go_loud (refine wpList_append_own _ rfl (.tmp 35) (.tmp 37) 54 rfl w1.heap.size 3 i0 (.int .i64 0) 1 8 Try.underlying54 hi0 hz0 hz1 hz2 rfl (by decide) _ m2 _ rfl (HO2.out.alloc _) ⟨_, 0, none⟩ 1 1 [.int .i64 y] rfl rfl (cell_one_new _ _ _) (by simp [Value.oneCell']) (by simp only [maxLen]; omega) (by omega) (by have := Hs.out; simp; omega) ?_)
              intro v2 w2 hown2 hg2 _)
            have HO3 : Hid (m2 + 1 = (namedL (qs.take (k + 1)) L).length ∧ w2.ownsRow w1.heap.size 3 1 v2 (m2 + 1) (vs (namedL (qs.take (k + 1)) L))) := Lib.hid (by
              rw [HV.out]
              refine ⟨by rw [List.length_append, ← HO.out.1]; rfl, ?_⟩
              rw [vs_append, vs_one]
              exact hown2)
            have hB2 : Below w1.heap.size w1 w2 := (HB2.out.alloc Hs.out _).grown hg2 (by have := Hs.out; simp; omega) (fun g hg => (HO2.out.lt g hg).1)
            go_roundw
            case rel => exact ⟨k + 1, m2 + 1, _, Hk1.out.1, Hk1.out.2, rfl, by go_num, HO3, hB2⟩
            case measure => simp [intOf]; omega
          · have c9 : (y == a) = false := by simpa using hya
            have HN2 := Lib.hid (not_mem_step HN.out hy hya)
            clear hy hya
            go_wp2
            go_round
            case rel => exact ⟨j + 1, hjt, rfl, by go_num, HN2⟩
            case measure => simp [intOf] <;> omega
        · obtain rfl : j = m := by omega
          have HV : Hid (namedL (qs.take (k + 1)) L = namedL (qs.take k) L) := Lib.hid (by
            have hn : a ∉ L := by
              have := HN.out
              rwa [List.take_of_length_le (by rw [HM.out]; exact Nat.le_refl _)] at this
            rw [HX.out, if_neg hn, List.append_nil])
          have HO3 : Hid (m2 = (namedL (qs.take (k + 1)) L).length ∧ Y.ownsRow w1.heap.size 3 1 v m2 (vs (namedL (qs.take (k + 1)) L))) := Lib.hid (by
            rw [HV.out]
            exact ⟨HO.out.1, HO2.out⟩)
          go_wp2
          go_roundw
          case rel => exact ⟨k + 1, m2, _, Hk1.out.1, by omega, rfl, by go_num, HO3, HB2.out⟩
          case measure => simp [intOf]; omega
    · obtain rfl : k = n2 := by omega
      have HE : Hid (m2 = (namedL qs L).length ∧ wr.ownsRow w.heap.size 3 1 v m2 (vs (namedL qs L))) := Lib.hid (by
        have q := HO.out
        rw [List.take_of_length_le (by rw [HL.out]; exact Nat.le_refl _)] at q
        exact ⟨q.1, own_down q.2 HGB.out.size⟩)
      go_wp2
      go_ret
      exact lists_of HE.out.1 HE.out.2 (HGB.out.trans (hB.mono HGB.out.size))

theorem upd_id {f : Rn → Option Rn} (hid : ∀ r s, f r = some s → s.1 = r.1) (is : List Int) (r : Rn) : (upd f is r).1 = r.1 := by
  unfold upd
  by_cases hm : r.1 ∈ is
  · rw [if_pos hm]
    cases h : f r with
    | none => rfl
    | some s => exact hid r s h
  · rw [if_neg hm]
theorem rise_upd {f : Rn → Option Rn} (hid : ∀ r s, f r = some s → s.1 = r.1) (is : List Int) {l : List Rn} (h : Rise l) : Rise (l.map (upd f is)) := by
  unfold Rise at h ⊢
  rw [List.pairwise_map]
  refine List.Pairwise.imp (fun {a b} hab => ?_) h
  rw [upd_id hid, upd_id hid]
  exact hab
/-- one that ran -/
def ran (a : Nat) (r : Rn) : Rn := mkR r.1 r.2.1 (rN r + r.2.1.toNat * a) (rW r)
theorem ran_right {a : Nat} {r : Rn} (hr : rightR r = true) (h : rN r + r.2.1.toNat * a < 2 ^ 100) : rightR (ran a r) = true ∧ UR (ran a r) := by
  have q := rightR_iff.1 hr
  exact mk_right q.1 q.2.1 q.2.2.1 h
theorem runF_lt {a : Nat} {r : Rn} (h : (runF a r).isSome = true) : rN r + r.2.1.toNat * a < 2 ^ 100 := by
  by_cases hc : rN r + r.2.1.toNat * a < 2 ^ 100
  · exact hc
  · rw [runF_no hc] at h
    exact absurd h (by simp)
theorem upd_run {a : Nat} {is : List Int} {r : Rn} (hm : r.1 ∈ is) (h : rN r + r.2.1.toNat * a < 2 ^ 100) : upd (runF a) is r = ran a r := by
  unfold upd
  rw [if_pos hm, runF_yes h]
  exact Eq.refl _
/-- running refused answers none -/
theorem run_none {q : List Rn} {is : List Int} {a : Int} (h : (runQS q is a).2 ≠ 0) : (runQS q is a).1 = [] := by
  unfold runQS eachS at h ⊢
  by_cases hu : unfoundQ q (inB a 0 10000000) is = 0
  · rw [if_pos hu] at h ⊢
    cases he : eachF (optS (runS a.toNat)) q is with
    | none => rfl
    | some m =>
      rw [he] at h
      exact absurd rfl h
  · rw [if_neg hu]
theorem run_is {q : List Rn} {is : List Int} {a : Nat} (hq : RQ q) (hU : UQ q) (hI : riseI 0 is = true) (hall : ∀ i ∈ is, (kf q i).isSome = true) (ha : a ≤ 10000000) :
    runQS q is (a : Int) = (match eachF (runF a) q is with | some m => (m, 0) | none => ([], 131)) := by
  unfold runQS eachS
  have h1 : inB (a : Int) 0 10000000 = true := by unfold inB; simp only [Bool.and_eq_true, decide_eq_true_eq]; omega
  have h2 : unfoundQ q true is = 0 := by
    unfold unfoundQ
    rw [if_neg (by rw [rightQ_iff.2 hq]; decide), if_neg (by rw [hI]; decide), if_pos (by rw [List.all_eq_true]; exact hall)]
  rw [h1, if_pos h2, Int.toNat_natCast]
  rw [each_eq (f := optS (runS a)) (g := runF a) (fun r hr => run_opt hr) (fun r s hu hr he => good_opt run_good r s hu hr he) is q hq hU]
  cases eachF (runF a) q is <;> rfl
/-- what comes of running: the queue by which it came, and running on -/
structure Ran (q : List Rn) (is : List Int) (a b : Nat) (m : List Rn) : Prop where
  uq : UQ m
  len : m.length = q.length
  right : rightQ q = true
  on : runQS m is (b : Int) = runQS q is ((a + b : Nat) : Int)
  uq2 : UQ (runQS q is ((a + b : Nat) : Int)).1
  len2 : (runQS q is ((a + b : Nat) : Int)).1.length ≤ q.length
  each : ∀ r ∈ m, ∃ r0, kf q r.1 = some r0 ∧ rightR r0 = true ∧ UR r0 ∧ (r.1 ∈ is → rN r0 + r0.2.1.toNat * a < 2 ^ 100 ∧ r = ran a r0) ∧ (r.1 ∉ is → r = r0)
theorem uq_upd {q : List Rn} {is : List Int} {a : Nat} (hq : RQ q) (hU : UQ q) (hc : ∀ i ∈ is, ∀ r, kf q i = some r → (runF a r).isSome = true) : UQ (q.map (upd (runF a) is)) ∧ RQ (q.map (upd (runF a) is)) := by
  have key : ∀ y ∈ q.map (upd (runF a) is), rightR y = true ∧ UR y := fun y hy => by
    obtain ⟨r, hr, rfl⟩ := List.mem_map.1 hy
    by_cases hm : r.1 ∈ is
    · have h1 := runF_lt (hc r.1 hm r (kf_mem hq.rise hr))
      rw [upd_run hm h1]
      exact ran_right (hq.each r hr) h1
    · rw [upd_out hm]
      exact ⟨hq.each r hr, hU r hr⟩
  exact ⟨fun y hy => (key y hy).2, ⟨rise_upd runF_id is hq.rise, fun y hy => (key y hy).1⟩⟩
theorem ran_of {q : List Rn} {is : List Int} {a b : Nat} (hU : UQ q) (ha : a + b ≤ 10000000) (h0 : (runQS q is (a : Int)).2 = 0) : Ran q is a b (runQS q is (a : Int)).1 := by
  have hz : unfoundQ q (inB (a : Int) 0 10000000) is = 0 := by
    unfold runQS eachS at h0
    by_cases hu : unfoundQ q (inB (a : Int) 0 10000000) is = 0
    · exact hu
    · rw [if_neg hu] at h0
      exact absurd h0 hu
  obtain ⟨hq, _, hI, hall⟩ := unfound_zero hz
  have hN := rise_nodup is 0 hI
  have e1 := run_is hq hU hI hall (a := a) (by omega)
  have m1 := each_map (f := runF a) runF_id is q hq.rise hN hall
  have hc : ∀ i ∈ is, ∀ r, kf q i = some r → (runF a r).isSome = true := by
    by_cases hc : ∀ i ∈ is, ∀ r, kf q i = some r → (runF a r).isSome = true
    · exact hc
    · rw [if_neg hc] at m1
      rw [e1, m1] at h0
      exact absurd h0 (by decide)
  rw [if_pos hc] at m1
  rw [m1] at e1
  obtain ⟨m, hm⟩ : ∃ m, q.map (upd (runF a) is) = m := ⟨_, rfl⟩
  have hU2 := uq_upd hq hU hc
  rw [hm] at e1 m1 hU2
  rw [e1]
  have hallm : ∀ i ∈ is, (kf m i).isSome = true := fun i hi => by
    obtain ⟨r, hk⟩ := Option.isSome_iff_exists.1 (hall i hi)
    have hri := kf_id hk
    have hmem : upd (runF a) is r ∈ m := by rw [← hm]; exact List.mem_map.2 ⟨r, (kf_some hk).1, rfl⟩
    have h3 := kf_mem hU2.2.rise hmem
    rw [upd_id runF_id, hri] at h3
    rw [h3]
    rfl
  have e2 := run_is hU2.2 hU2.1 hI hallm (a := b) (by omega)
  have e3 := run_is hq hU hI hall (a := a + b) ha
  have e4 := runs_twice (b := b) hq hN hall m1 hU2.2.rise
  have m3 := each_map (f := runF (a + b)) runF_id is q hq.rise hN hall
  refine ⟨hU2.1, by rw [← hm, List.length_map], rightQ_iff.2 hq, by rw [e2, e3, e4], ?_, ?_, ?_⟩
  · rw [e3, m3]
    by_cases hd : ∀ i ∈ is, ∀ r, kf q i = some r → (runF (a + b) r).isSome = true
    · rw [if_pos hd]
      exact (uq_upd hq hU hd).1
    · rw [if_neg hd]
      exact fun r hr => by cases hr
  · rw [e3, m3]
    by_cases hd : ∀ i ∈ is, ∀ r, kf q i = some r → (runF (a + b) r).isSome = true
    · rw [if_pos hd]
      show (q.map _).length ≤ _
      rw [List.length_map]
      exact Nat.le_refl _
    · rw [if_neg hd]
      exact Nat.zero_le _
  · intro y hy
    have hy : y ∈ m := hy
    rw [← hm] at hy
    obtain ⟨r, hr, rfl⟩ := List.mem_map.1 hy
    have hid := upd_id runF_id is r (f := runF a)
    refine ⟨r, by rw [hid]; exact kf_mem hq.rise hr, hq.each r hr, hU r hr, fun hm2 => ?_, fun hm2 => ?_⟩
    · rw [hid] at hm2
      have h1 := runF_lt (hc r.1 hm2 r (kf_mem hq.rise hr))
      exact ⟨h1, upd_run hm2 h1⟩
    · rw [hid] at hm2
      exact upd_out hm2
/-- a remainder that is none below nought -/
theorem rem_in (x : Int) : ∃ a : Nat, a < 10000000 ∧ (x.tmod 10000000 + 10000000).tmod 10000000 = (a : Int) := by
  have h1 := Int.tmod_lt_of_pos x (show (0 : Int) < 10000000 by omega)
  have h2 : -10000000 < x.tmod 10000000 := by
    have := Int.lt_tmod_of_pos x (show (0 : Int) < 10000000 by omega)
    omega
  have h3 := Int.tmod_nonneg 10000000 (show (0 : Int) ≤ x.tmod 10000000 + 10000000 by omega)
  have h4 := Int.tmod_lt_of_pos (x.tmod 10000000 + 10000000) (show (0 : Int) < 10000000 by omega)
  exact ⟨((x.tmod 10000000 + 10000000).tmod 10000000).toNat, by omega, by omega⟩

end Go.Proofs.Ytfgabmelmopgdaa
