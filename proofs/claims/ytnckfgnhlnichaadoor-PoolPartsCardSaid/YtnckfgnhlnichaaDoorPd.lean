/-
  The landed pool: New, Cpus, Of, refused, Set, Same; the library's Equal. No statement is proved here.
-/
import Derived.Test.YtnckfgnhlnichaaDoorPc
namespace Go.Proofs.YtnckfgnhlnichaaDoor
open Go.RowKit

theorem check_yes {G : World → Prop} {A : Option Addr} {n c : Nat} {l : List Nat} {u : World} (h : PAt G u A n c l) (hr : rightP l = true) : Calls Tryd.prog 12 #[.agg #[.slice A n c]] u (Said (.int .i64 0) u) := by
  have := lcheck_any A n c l u h
  rwa [chk_yes hr] at this
theorem check_no {G : World → Prop} {A : Option Addr} {n c : Nat} {l : List Nat} {u : World} (h : PAt G u A n c l) (hr : rightP l = false) : Calls Tryd.prog 12 #[.agg #[.slice A n c]] u (Said (.int .i64 180) u) := by
  have := lcheck_any A n c l u h
  rwa [chk_no hr] at this
theorem in_none0 {l : List Nat} {c : Int} (h : inK l c l.length = 0) : ofR l c = (0, false) := by
  unfold ofR ofV
  rw [h]
  split <;> rfl
theorem of_first {l : List Nat} (hr : rightP l = true) {k x : Nat} {c : Int} (hx : l[k]? = some x) (hh : hasB (x : Int) c = true) : ofR l c = ((k : Int), true) := by
  obtain ⟨m, rfl, hm, hb, _⟩ := has_pow hh
  exact of_at hr hx hm hb
/-- why not -/
def refE (l : List Nat) (ks : List Int) : Int := if rightP l = true then (if ks.all (poolB l) = true then 0 else 4) else 180
theorem ref_no {l : List Nat} {ks : List Int} (h : rightP l = false) : refE l ks = 180 := by unfold refE; rw [h]; rfl
theorem ref_bad {l : List Nat} {ks : List Int} {k : Nat} {x : Int} (h : rightP l = true) (hx : ks[k]? = some x) (hp : poolB l x = false) : refE l ks = 4 := by
  unfold refE
  rw [if_pos h, if_neg]
  intro ha
  rw [List.all_eq_true] at ha
  have := ha x (List.mem_of_getElem? hx)
  rw [hp] at this
  cases this
theorem ref_yes {l : List Nat} {ks : List Int} (h : rightP l = true) (ha : ks.all (poolB l) = true) : refE l ks = 0 := by unfold refE; rw [if_pos h, if_pos ha]
theorem all_step {f : Int → Bool} {ks : List Int} {k : Nat} {x : Int} (hx : ks[k]? = some x) (h : f x = true) (ht : (ks.take k).all f = true) : (ks.take (k + 1)).all f = true := by
  rw [List.take_add_one, hx, List.all_append, ht]
  simp [h]
theorem reads_i1 (w : World) (t : TypeId) (x : Int) {g : Nat} (hg : g = w.heap.size) : Reads (w.alloc (.cells #[.int .i64 x] t)) (w.alloc (.cells #[.int .i64 x] t)).heap.size 1 (some ⟨g, 0, none⟩) 1 (vs [x]) := by
  subst hg
  refine ⟨rfl, fun _ => ⟨_, rfl, by simp, fun j u hu => ?_⟩⟩
  have hb := Blk.new w t #[.int .i64 x]
  match j, hu with
  | 0, hu => simp [vs] at hu; subst hu; exact hb.cell 0
  | j + 1, hu => simp [vs] at hu
theorem reads_i2 (w : World) (t : TypeId) (x y : Int) {g : Nat} (hg : g = w.heap.size) : Reads (w.alloc (.cells #[.int .i64 x, .int .i64 y] t)) (w.alloc (.cells #[.int .i64 x, .int .i64 y] t)).heap.size 1 (some ⟨g, 0, none⟩) 2 (vs [x, y]) := by
  subst hg
  refine ⟨rfl, fun _ => ⟨_, rfl, by simp, fun j u hu => ?_⟩⟩
  have hb := Blk.new w t #[.int .i64 x, .int .i64 y]
  match j, hu with
  | 0, hu => simp [vs] at hu; subst hu; exact hb.cell 0
  | 1, hu => simp [vs] at hu; subst hu; exact hb.cell 1
  | j + 2, hu => simp [vs] at hu
theorem box1 (w : World) (t : TypeId) (cs : Array Value) : Blk (w.alloc (.cells cs t)) w.heap.size t cs ∧ Below w.heap.size w (w.alloc (.cells cs t)) := ⟨Blk.new _ _ _, (Below.refl _ _).alloc (Nat.le_refl _) _⟩

set_option maxRecDepth 100000 in
set_option maxHeartbeats 2000000 in
theorem lcpus_any {G : World → Prop} (hG : Steady G) : PCpusOk G := by
  intro A n c l w hAt
  have HL := Lib.hid hAt.len
  have HAt := Lib.hid (fun (u : World) (h : Below w.heap.size w u) => hAt.below hG h)
  have HUn := Lib.hid (fun (u : World) (h : Below w.heap.size w u) => lunion_any A n c l u (hAt.below hG h).1 hAt.2.2.2.1 hAt.2.2.1)
  have HK := Lib.hid (box1 w 26 #[.slice A n c])
  have k1 : (w.alloc (.cells #[.slice A n c] 26)).cell? ⟨w.heap.size, 0, none⟩ = some (.slice A n c) := HK.out.1.cell 0
  clear hAt hG
  cases hr : rightP l with
  | false =>
    have HV : Hid (cpusR l = 0) := Lib.hid (by unfold cpusR; rw [hr]; rfl)
    have HC := Lib.hid (fun (u : World) (h : Below w.heap.size w u) => check_no (HAt.out u h) hr)
    clear hr
    go_enter Tryd.func6, Tryd.ntmps6
    go_wp2_with fail
    refine (HC.out _ HK.out.2).mono ?_
    rintro e w2 ⟨rfl, h2⟩
    have B2 := HK.out.2.trans (h2.mono HK.out.2.size)
    go_wp2
    go_ret
    exact ⟨retI (by rw [HV.out]; rfl), B2⟩
  | true =>
    have HV : Hid (cpusR l = orK l n) := Lib.hid (by unfold cpusR; rw [if_pos hr, HL.out])
    have HC := Lib.hid (fun (u : World) (h : Below w.heap.size w u) => check_yes (HAt.out u h) hr)
    clear hr
    go_enter Tryd.func6, Tryd.ntmps6
    go_wp2_with fail
    refine (HC.out _ HK.out.2).mono ?_
    rintro e w2 ⟨rfl, h2⟩
    have B2 := HK.out.2.trans (h2.mono HK.out.2.size)
    have k2 : w2.cell? ⟨w.heap.size, 0, none⟩ = some (.slice A n c) := (HK.out.1.below h2 HK.out.1.lt).cell 0
    clear h2
    go_wp2_with fail
    refine (HUn.out _ B2).mono ?_
    rintro e w3 ⟨rfl, rfl⟩
    go_wp2
    go_ret
    exact ⟨retI (by rw [HV.out]), B2⟩

set_option maxRecDepth 100000 in
set_option maxHeartbeats 2000000 in
theorem lof_any {G : World → Prop} (hG : Steady G) : POfOk G := by
  intro A n c l x w hAt
  have HL := Lib.hid hAt.len
  have HAt := Lib.hid (fun (u : World) (h : Below w.heap.size w u) => hAt.below hG h)
  have HH := Lib.hid (fun (s : Nat) (h : s < 4294967296) (u : World) => has_any (s : Int) x u (by omega) (by omega))
  have HU := Lib.hid hAt.2.2.2.1
  have n9 : n ≤ 1000 := hAt.2.2.1
  have HK := Lib.hid (box1 w 26 #[.slice A n c])
  have k1 : (w.alloc (.cells #[.slice A n c] 26)).cell? ⟨w.heap.size, 0, none⟩ = some (.slice A n c) := HK.out.1.cell 0
  clear hAt hG
  cases hr : rightP l with
  | false =>
    have HV : Hid (ofR l x = (0, false)) := Lib.hid (by unfold ofR; rw [hr]; rfl)
    rw [HV.out]
    have HC := Lib.hid (fun (u : World) (h : Below w.heap.size w u) => check_no (HAt.out u h) hr)
    clear hr
    go_enter Tryd.func17, Tryd.ntmps17
    go_wp2_with fail
    refine (HC.out _ HK.out.2).mono ?_
    rintro e w2 ⟨rfl, h2⟩
    have B2 := HK.out.2.trans (h2.mono HK.out.2.size)
    go_wp2
    go_ret2
    exact ⟨rfl, B2⟩
  | true =>
    have HRt := Lib.hid hr
    have HC := Lib.hid (fun (u : World) (h : Below w.heap.size w u) => check_yes (HAt.out u h) hr)
    clear hr
    go_enter Tryd.func17, Tryd.ntmps17
    go_wp2_with fail
    refine (HC.out _ HK.out.2).mono ?_
    rintro e w2 ⟨rfl, h2⟩
    have B2 := HK.out.2.trans (h2.mono HK.out.2.size)
    have k2 : w2.cell? ⟨w.heap.size, 0, none⟩ = some (.slice A n c) := (HK.out.1.below h2 HK.out.1.lt).cell 0
    clear h2
    have HR := Lib.hid (HAt.out _ B2).1
    go_wp2_with fail
    clear k1 k2
    go_loop [14] (fun i => ∃ k : Nat, k ≤ n ∧ i = .int .i64 (k : Int) ∧ Hid (inK l x k = 0)) (fun i => n - (intOf i).toNat)
    case atStart => exact ⟨0, by omega, rfl, Lib.hid rfl⟩
    case round =>
      obtain ⟨k, hk, rfl, HA⟩ := hrel
      by_cases hlt : k < n
      · obtain ⟨ad, s, rfl, hb, hx, hc⟩ := uset_at HR.out hlt
        have HX := Lib.hid (fun u => HH.out s (HU.out.at_ hx) u)
        have j0 : (0 : Int) ≤ (k : Int) := by omega
        have j1 : (k : Int) < (n : Int) := by omega
        cases hh : hasB (s : Int) x with
        | true =>
          have HV := Lib.hid (of_first HRt.out hx hh)
          rw [hh] at HX
          clear hh hx
          go_wp2_with fail
          refine (HX.out _).mono ?_
          rintro e w3 ⟨rfl, rfl⟩
          go_wp2
          go_ret2
          rw [HV.out]
          exact ⟨rfl, B2⟩
        | false =>
          have HS : Hid (inK l x (k + 1) = 0) := Lib.hid (by rw [(inK_no hx hh).1]; exact HA.out)
          rw [hh] at HX
          clear hh hx
          go_wp2_with fail
          refine (HX.out _).mono ?_
          rintro e w3 ⟨rfl, rfl⟩
          go_wp2
          go_round
          case rel => exact ⟨k + 1, by omega, by go_num, HS⟩
          case measure => simp [intOf] <;> omega
      · obtain rfl : n = k := by omega
        have HV : Hid (ofR l x = (0, false)) := Lib.hid (in_none0 (by rw [HL.out]; exact HA.out))
        go_wp2
        go_ret2
        rw [HV.out]
        exact ⟨rfl, B2⟩

set_option maxRecDepth 100000 in
set_option maxHeartbeats 2000000 in
theorem lrefused_any {G : World → Prop} (hG : Steady G) (A : Option Addr) (n c : Nat) (l : List Nat) (Ap : Option Addr) (m cp : Nat) (ks : List Int) (w : World) (hAt : PAt G w A n c l) (hKs : Reads w w.heap.size 1 Ap m (vs ks)) (hm : m ≤ 1000) :
    Calls Tryd.prog 29 #[.agg #[.slice A n c], .slice Ap m cp] w (Said (.int .i64 (refE l ks)) w) := by
  have HL := Lib.hid hAt.len
  have hlk : ks.length = m := by have := hKs.1; rw [length_vs] at this; omega
  have HLk := Lib.hid hlk
  have HAt := Lib.hid (fun (u : World) (h : Below w.heap.size w u) => hAt.below hG h)
  have HKs := Lib.hid hKs
  have n9 : n ≤ 1000 := hAt.2.2.1
  have HK := Lib.hid (box1 w 26 #[.slice A n c])
  have k1 : (w.alloc (.cells #[.slice A n c] 26)).cell? ⟨w.heap.size, 0, none⟩ = some (.slice A n c) := HK.out.1.cell 0
  clear hAt hG hKs hlk
  cases hr : rightP l with
  | false =>
    have HV : Hid (refE l ks = 180) := Lib.hid (ref_no hr)
    have HC := Lib.hid (fun (u : World) (h : Below w.heap.size w u) => check_no (HAt.out u h) hr)
    clear hr
    go_enter Tryd.func29, Tryd.ntmps29
    go_wp2_with fail
    refine (HC.out _ HK.out.2).mono ?_
    rintro e w2 ⟨rfl, h2⟩
    have B2 := HK.out.2.trans (h2.mono HK.out.2.size)
    go_wp2
    go_ret
    exact ⟨retI HV.out.symm, B2⟩
  | true =>
    have HRt := Lib.hid hr
    have HC := Lib.hid (fun (u : World) (h : Below w.heap.size w u) => check_yes (HAt.out u h) hr)
    clear hr
    go_enter Tryd.func29, Tryd.ntmps29
    go_wp2_with fail
    refine (HC.out _ HK.out.2).mono ?_
    rintro e w2 ⟨rfl, h2⟩
    have B2 := HK.out.2.trans (h2.mono HK.out.2.size)
    have k2 : w2.cell? ⟨w.heap.size, 0, none⟩ = some (.slice A n c) := (HK.out.1.below h2 HK.out.1.lt).cell 0
    clear h2 k1
    have HR := Lib.hid (HKs.out.below B2)
    go_wp2_with fail
    go_loop [15] (fun i => ∃ k : Nat, k ≤ m ∧ i = .int .i64 (k : Int) ∧ Hid ((ks.take k).all (poolB l) = true)) (fun i => m - (intOf i).toNat)
    case atStart => exact ⟨0, by omega, rfl, Lib.hid rfl⟩
    case round =>
      obtain ⟨k, hk, rfl, HA⟩ := hrel
      by_cases hlt : k < m
      · obtain ⟨ad, v, rfl, hb, hx, hc⟩ := HR.out.at_ hlt
        obtain ⟨x, hx2, rfl⟩ := vs_at hx
        have j0 : (0 : Int) ≤ (k : Int) := by omega
        have j1 : (k : Int) < (m : Int) := by omega
        clear hx
        cases hp : poolB l x with
        | true =>
          have HS := Lib.hid (all_step hx2 hp HA.out)
          obtain ⟨q, rfl, hq⟩ := poolB_true hp
          rw [HL.out] at hq
          have e1 : decide ((q : Int) < 0) = false := decide_eq_false (by omega)
          have e2 : decide (n ≤ q) = false := decide_eq_false (by omega)
          have e3 : ¬ n ≤ q := by omega
          clear hp hx2 hq
          go_wp2
          go_round
          case rel => exact ⟨k + 1, by omega, by go_num, HS⟩
          case measure => simp [intOf] <;> omega
        | false =>
          have HV := Lib.hid (ref_bad HRt.out hx2 hp)
          have hh := poolB_no hp
          rw [HL.out] at hh
          clear hp hx2
          rcases hh with hh | ⟨h0, hh⟩
          · have e1 : decide (x < 0) = true := decide_eq_true hh
            clear hh
            go_wp2
            go_ret
            exact ⟨retI HV.out.symm, B2⟩
          · have e1 : decide (x < 0) = false := decide_eq_false (by omega)
            have e2 : decide ((n : Int) ≤ x) = true := decide_eq_true hh
            clear hh h0
            go_wp2
            go_ret
            exact ⟨retI HV.out.symm, B2⟩
      · obtain rfl : m = k := by omega
        have HV : Hid (refE l ks = 0) := Lib.hid (ref_yes HRt.out (by have := HA.out; rwa [← HLk.out, List.take_length] at this))
        go_wp2
        go_ret
        exact ⟨retI HV.out.symm, B2⟩

set_option maxRecDepth 100000 in
set_option maxHeartbeats 2000000 in
theorem lset_any {G : World → Prop} (hG : Steady G) : PSetOk G := by
  intro A n c l x w hAt
  have hl := hAt.len
  have HL := Lib.hid hl
  have HRf := Lib.hid (fun (Ap : Option Addr) (m cp : Nat) (ks : List Int) (u : World) (h : Below w.heap.size w u) (hm : m ≤ 1000) (hk : Reads u u.heap.size 1 Ap m (vs ks)) => lrefused_any hG A n c l Ap m cp ks u (hAt.below hG h) hk hm)
  have HK := Lib.hid (box1 w 26 #[.slice A n c])
  have HK2 := Lib.hid (And.intro (HK.out.1.alloc (.cells #[.int .i64 x] 3)) (HK.out.2.alloc HK.out.2.size (.cells #[.int .i64 x] 3)))
  have k1 : (w.alloc (.cells #[.slice A n c] 26)).cell? ⟨w.heap.size, 0, none⟩ = some (.slice A n c) := HK.out.1.cell 0
  have HR := Lib.hid (fun (u : World) (h : Below w.heap.size w u) => (hAt.below hG h).1)
  clear hAt hG
  by_cases hr : rightP l = true ∧ poolB l x = true
  · obtain ⟨hr, hp⟩ := hr
    have he : refE l [x] = 0 := ref_yes hr (by simp [hp])
    obtain ⟨k, rfl, hkl⟩ := poolB_true hp
    have HV : Hid (setR l (k : Int) = l.getD k 0) := Lib.hid (by unfold setR; rw [if_pos ⟨hr, hp⟩, Int.toNat_natCast])
    have HE := Lib.hid he
    have j0 : (0 : Int) ≤ (k : Int) := by omega
    have j1 : (k : Int) < (n : Int) := by omega
    have HKn : Hid (k < n) := Lib.hid (by omega)
    clear hr hp he hkl hl
    go_enter Tryd.func15, Tryd.ntmps15
    go_wp2_with fail
    refine (HRf.out _ 1 _ [(k : Int)] _ HK2.out.2 (by omega) (reads_i1 _ _ _ (by simp))).mono ?_
    rw [HE.out]
    rintro e w2 ⟨rfl, h2⟩
    have B2 := HK2.out.2.trans (h2.mono HK2.out.2.size)
    have k2 : w2.cell? ⟨w.heap.size, 0, none⟩ = some (.slice A n c) := (HK2.out.1.below h2 HK2.out.1.lt).cell 0
    obtain ⟨ad, s, rfl, hb, hx, hc⟩ := uset_at (HR.out _ B2) HKn.out
    have HX := Lib.hid (getD_at hx)
    clear hx h2 k1 hb
    go_wp2
    go_ret
    exact ⟨retI (by rw [HV.out, HX.out]), B2⟩
  · have HV : Hid (setR l x = 0) := Lib.hid (by unfold setR; rw [if_neg hr])
    have he : ∃ E : Int, refE l [x] = E ∧ (E == 0) = false := by
      cases h1 : rightP l with
      | false => exact ⟨180, ref_no h1, rfl⟩
      | true =>
        cases h2 : poolB l x with
        | true => exact absurd ⟨h1, h2⟩ hr
        | false => exact ⟨4, ref_bad (k := 0) h1 rfl h2, rfl⟩
    obtain ⟨E, he, e0⟩ := he
    have HE := Lib.hid he
    clear hr he hl
    go_enter Tryd.func15, Tryd.ntmps15
    go_wp2_with fail
    refine (HRf.out _ 1 _ [x] _ HK2.out.2 (by omega) (reads_i1 _ _ _ (by simp))).mono ?_
    rw [HE.out]
    rintro e w2 ⟨rfl, h2⟩
    have B2 := HK2.out.2.trans (h2.mono HK2.out.2.size)
    clear h2 k1
    go_wp2
    go_ret
    exact ⟨retI (by rw [HV.out]; rfl), B2⟩



set_option maxRecDepth 100000 in
set_option maxHeartbeats 2000000 in
theorem lnew_any {G : World → Prop} : PNewOk G := by
  intro k w hg
  have HF := Lib.hid (fun u => (first_any k u).mono fun e w' h => (⟨h.1, h.2 ▸ Below.refl _ _⟩ : Said (.tuple #[.int .u32 (firstV k).1, .int .i64 (firstV k).2]) u e w'))
  obtain ⟨K, B⟩ := box1 w 26 #[.slice none 0 0]
  clear hg
  by_cases h1 : k < 0 ∨ 8 < k
  · have hf : firstV k = (0, 2) := if_pos h1
    rw [hf] at HF
    have HV : Hid (newR k = ([], 2)) := Lib.hid (if_neg (by omega))
    have HK := Lib.hid (And.intro K B)
    clear hf h1 K B
    go_enter Tryd.func5, Tryd.ntmps5
    go_wp2_with fail
    refine (HF.out _).mono ?_
    rintro e w2 ⟨rfl, h2⟩
    have K := HK.out.1.below h2 HK.out.1.lt
    have B := HK.out.2.trans (h2.mono HK.out.2.size)
    have k2 := K.cell 0
    have f2 := K.frozen 0
    have HKF := Lib.hid (put1 (x := .slice none 0 0) K B (by omega))
    clear K B h2
    go_wp2_with fail
    rw [HV.out]
    exact bodyPost_ret (v := .tuple #[.agg #[.slice none 0 0], .int .i64 2]) (results_pools2 Tryd.results5 _ _ _ _ _ _ rfl HKF.out.1 Tryd.underlying26 rfl (by kernel_rfl)) rfl (GivesP2.none_ HKF.out.2)
  · have hf : firstV k = (((2 ^ k.toNat - 1 : Nat) : Int), 0) := by unfold firstV; rw [if_neg h1, first_cast]
    rw [hf] at HF
    by_cases h0 : k = 0
    · have HV : Hid (newR k = ([], 2)) := Lib.hid (if_neg (by omega))
      have e0 : (((2 ^ k.toNat - 1 : Nat) : Int) == 0) = true := by rw [h0]; decide
      have HK := Lib.hid (And.intro K B)
      generalize 2 ^ k.toNat - 1 = F at *
      clear hf h1 K B h0
      go_enter Tryd.func5, Tryd.ntmps5
      go_wp2_with fail
      refine (HF.out _).mono ?_
      rintro e w2 ⟨rfl, h2⟩
      have K := HK.out.1.below h2 HK.out.1.lt
      have B := HK.out.2.trans (h2.mono HK.out.2.size)
      have k2 := K.cell 0
      have f2 := K.frozen 0
      have HKF := Lib.hid (put1 (x := .slice none 0 0) K B (by omega))
      clear K B h2
      go_wp2_with fail
      rw [HV.out]
      exact bodyPost_ret (v := .tuple #[.agg #[.slice none 0 0], .int .i64 2]) (results_pools2 Tryd.results5 _ _ _ _ _ _ rfl HKF.out.1 Tryd.underlying26 rfl (by kernel_rfl)) rfl (GivesP2.none_ HKF.out.2)
    · have HV : Hid (newR k = ([2 ^ k.toNat - 1], 0)) := Lib.hid (if_pos (by omega))
      have e0 : (((2 ^ k.toNat - 1 : Nat) : Int) == 0) = false := by
        have : 2 ^ 1 ≤ 2 ^ k.toNat := Nat.pow_le_pow_right (by omega) (by omega)
        simp
        omega
      generalize 2 ^ k.toNat - 1 = F at *
      have HK := Lib.hid (And.intro K B)
      clear hf h1 K B h0
      go_enter Tryd.func5, Tryd.ntmps5
      go_wp2_with fail
      refine (HF.out _).mono ?_
      rintro e w2 ⟨rfl, h2⟩
      have K := HK.out.1.below h2 HK.out.1.lt
      have B := HK.out.2.trans (h2.mono HK.out.2.size)
      have K2 := K.alloc (.cells #[.int .u32 (F : Int)] 32)
      have B2 := B.alloc B.size (.cells #[.int .u32 (F : Int)] 32)
      have own := own_built (w := w2) (base := w.heap.size + 1) (e := 32) #[.int .u32 (F : Int)] 1 (by have := h2.size; simpa using this) rfl (by simp [maxLen])
      have k2 := K2.cell 0
      have f3 := K2.frozen 0
      have HO := Lib.hid (own_set own (show w.heap.size < w.heap.size + 1 by omega) 0 (.slice (some ⟨w2.heap.size, 0, none⟩) 1 1))
      have HKF := Lib.hid (put1 (x := .slice (some ⟨w2.heap.size, 0, none⟩) 1 1) K2 B2 (by omega))
      clear K B K2 B2 own h2
      go_wp2_with fail
      rw [HV.out]
      exact bodyPost_ret (v := .tuple #[.agg #[.slice (some ⟨w2.heap.size, 0, none⟩) 1 1], .int .i64 0]) (results_pools2 Tryd.results5 _ _ _ _ _ _ rfl HKF.out.1 Tryd.underlying26 rfl (by kernel_rfl)) rfl ⟨_, _, rfl, own_down HO.out (by omega), HKF.out.2⟩

end Go.Proofs.YtnckfgnhlnichaaDoor
