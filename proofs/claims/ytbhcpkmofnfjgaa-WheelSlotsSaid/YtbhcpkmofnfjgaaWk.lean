/-
  The landed wheel: Place, Slot, Moves. No statement is proved here.
-/
import Derived.Test.YtbhcpkmofnfjgaaWf
import Derived.Test.YtbhcpkmofnfjgaaWh
namespace Go.Proofs.Ytbhcpkmofnfjgaa
open Go.RowKit

/-- where the timer of a number stands -/
def placeV (now : Int) (ts : List Tm) (id : Int) : (Int × Int) × Bool := match theTm now ts id with | some t => (spotT now t.2, true) | none => ((0, 0), false)

/-- the cells of the timer at a place -/
def At2 (ad : Addr) (k : Nat) (a b : Int) (w : World) : Prop := w.cell? (ad.add (k * 2)) = some (.int .i64 a) ∧ w.cell? ⟨(ad.add (k * 2)).block, (ad.add (k * 2)).off + 1, none⟩ = some (.int .i64 b)
theorem At2.below {ad : Addr} {k : Nat} {a b : Int} {w w' : World} (h : At2 ad k a b w) (hl : ad.block < w.heap.size) (hb : Below w.heap.size w w') : At2 ad k a b w' :=
  ⟨(hb.cell (by rw [block_of_add]; exact hl)).trans h.1, (hb.cell (by dsimp only; rw [block_of_add]; exact hl)).trans h.2⟩
theorem At2.other {ad : Addr} {k g s : Nat} {a b : Int} {w : World} (h : At2 ad k a b w) (hl : ad.block < s) (hs : s < g) (x y : Value) : At2 ad k a b ((w.setCell ⟨g, 0, none⟩ x).setCell ⟨g, 1, none⟩ y) := by
  have e : ∀ (v : World) (j : Nat) (u : Value) (p : Addr), p.block = ad.block → (v.setCell ⟨g, j, none⟩ u).cell? p = v.cell? p := fun v j u p hp => World.cell?_setCell_other _ _ _ _ (fun e => by subst e; dsimp only at hp; omega)
  exact ⟨by rw [e _ _ _ _ (block_of_add _ _), e _ _ _ _ (block_of_add _ _)]; exact h.1, by rw [e _ _ _ _ (by dsimp only; exact block_of_add _ _), e _ _ _ _ (by dsimp only; exact block_of_add _ _)]; exact h.2⟩

set_option maxRecDepth 100000 in
set_option maxHeartbeats 8000000 in
theorem place_any (now : Int) (A : Option Addr) (n c : Nat) (ts : List Tm) (id : Int) (w : World) (hG : WR w A n ts) :
    Calls Try.prog 25 #[.agg #[.int .i64 now, .slice A n c], .int .i64 id] w (Said (.tuple #[.int .i64 (placeV now ts id).1.1, .int .i64 (placeV now ts id).1.2, .bool (placeV now ts id).2]) w) := by
  obtain ⟨K0, GB⟩ := box1 w 24 #[.int .i64 now, .slice A n c]
  have HA := Lib.hid (fun (u : World) (h : Below w.heap.size w u) => among_any now A n c ts id u (hG.below h))
  have HG := Lib.hid hG
  have z0 := K0.cell 0
  have z1 := K0.cell 1
  rcases among_cases now ts id with ⟨E, h1, h2, h3, h8⟩ | ⟨k, b, h1, h2, h3, h5, h6, h7⟩
  · have HV : Hid (placeV now ts id = ((0, 0), false)) := Lib.hid (by unfold placeV; rw [h3])
    have e0 : (E != 0) = true := by simpa using h2
    rw [h1] at HA
    clear h1 h2 h3 h8 HG hG
    go_enter Try.func25, Try.ntmps25
    go_wp2_with fail
    refine (HA.out _ GB).mono ?_
    rintro e w1 ⟨rfl, h9⟩
    replace GB := GB.trans (h9.mono GB.size)
    clear h9 z0 z1 K0
    go_wp2
    go_ret3
    exact ⟨by rw [HV.out]; rfl, GB⟩
  · have hc := chkW_iff.1 h5
    obtain ⟨p, q, hpq⟩ : ∃ p q, spotT now b = (p, q) := ⟨_, _, rfl⟩
    have HV : Hid (placeV now ts id = ((p, q), true)) := Lib.hid (by unfold placeV; rw [h3, ← hpq])
    have HSp := Lib.hid (fun (u : World) => spot_any now id b u hc.1 ((hc.2.2.times hc.1) _ (List.mem_of_getElem? h2)).1)
    rw [hpq] at HSp
    have hk : k < n := by have := (List.getElem?_eq_some_iff.1 h2).1; rw [hG.len] at this; exact this
    have j0 : (0 : Int) ≤ (k : Int) := by omega
    have j1 : (k : Int) < (n : Int) := by omega
    obtain ⟨ad, rfl, hl, c0, c1⟩ := tm_at hG.row h2
    have R00 : At2 ad k id b w := ⟨c0, c1⟩
    rw [h1] at HA
    clear h1 h2 h3 h5 h6 h7 hG hc hpq c0 c1 HG
    go_enter Try.func25, Try.ntmps25
    go_wp2_with fail
    refine (HA.out _ GB).mono ?_
    rintro e w1 ⟨rfl, h9⟩
    replace K0 := K0.below h9 K0.lt
    replace GB := GB.trans (h9.mono GB.size)
    clear h9 z0 z1
    have R0 := R00.below hl GB
    clear R00
    go_upto_region 4 with fail
    replace K0 : Blk w1.drew _ _ _ := K0
    replace R0 : At2 ad k id b w1.drew := R0
    replace GB := GB.drew
    refine wp_region_held_drew (S := fun u => Below w.heap.size w u ∧ Blk u w.heap.size 24 #[.int .i64 now, .slice (some ad) n c] ∧ At2 ad k id b u) (by kernel_rfl) ⟨GB, K0, R0⟩ (fun hS => ?_)
    generalize w1.drew = V at GB K0 R0 hS ⊢
    refine wpAnyH_take (i := 0) (v := .pointer (some ⟨w.heap.size, 0, none⟩)) rfl (by kernel_rfl) (by kernel_rfl) (by kernel_rfl) (fun _ _ _ h => h) (Or.inl ⟨by kernel_rfl, fun u hSw => (by go_simp)⟩) hS ?_
    change wpAnyH _ _ _ _ _ _ _ (Act.put _ (some 18) _) _
    simp only [Act.put]
    try simp only [List.setIfInBounds_toArray, List.set_cons_zero, List.set_cons_succ]
    refine wpAnyH_take (i := 1) (v := .int .i64 now) rfl (by kernel_rfl) (by kernel_rfl) (by kernel_rfl) (fun _ _ _ h => h) (Or.inl ⟨by kernel_rfl, fun u hSw => (by have q0 := hSw.2.1.cell 0; go_simp)⟩) hS ?_
    change wpAnyH _ _ _ _ _ _ _ (Act.put _ (some 19) _) _
    simp only [Act.put]
    try simp only [List.setIfInBounds_toArray, List.set_cons_zero, List.set_cons_succ]
    refine wpAnyH_take (i := 2) (v := .pointer (some ⟨w.heap.size, 1, none⟩)) rfl (by kernel_rfl) (by kernel_rfl) (by kernel_rfl) (fun _ _ _ h => h) (Or.inl ⟨by kernel_rfl, fun u hSw => (by go_simp)⟩) hS ?_
    change wpAnyH _ _ _ _ _ _ _ (Act.put _ (some 20) _) _
    simp only [Act.put]
    try simp only [List.setIfInBounds_toArray, List.set_cons_zero, List.set_cons_succ]
    refine wpAnyH_take (i := 3) (v := .slice (some ad) n c) rfl (by kernel_rfl) (by kernel_rfl) (by kernel_rfl) (fun _ _ _ h => h) (Or.inl ⟨by kernel_rfl, fun u hSw => (by have q0 := hSw.2.1.cell 1; go_simp)⟩) hS ?_
    change wpAnyH _ _ _ _ _ _ _ (Act.put _ (some 21) _) _
    simp only [Act.put]
    try simp only [List.setIfInBounds_toArray, List.set_cons_zero, List.set_cons_succ]
    refine wpAnyH_take (i := 4) (v := .int .i64 (k : Int)) rfl (by kernel_rfl) (by kernel_rfl) (by kernel_rfl) (fun _ _ _ h => h) (Or.inl ⟨by kernel_rfl, fun u hSw => (by go_simp)⟩) hS ?_
    change wpAnyH _ _ _ _ _ _ _ (Act.put _ (some 22) _) _
    simp only [Act.put]
    try simp only [List.setIfInBounds_toArray, List.set_cons_zero, List.set_cons_succ]
    refine wpAnyH_take (i := 5) (v := .pointer (some (ad.add (k * 2)))) rfl (by kernel_rfl) (by kernel_rfl) (by kernel_rfl) (fun _ _ _ h => h) (Or.inl ⟨by kernel_rfl, fun u hSw => (by go_simp)⟩) hS ?_
    change wpAnyH _ _ _ _ _ _ _ (Act.put _ (some 23) _) _
    simp only [Act.put]
    try simp only [List.setIfInBounds_toArray, List.set_cons_zero, List.set_cons_succ]
    refine wpAnyH_take (i := 6) (v := .agg #[.int .i64 id, .int .i64 b]) rfl (by kernel_rfl) (by kernel_rfl) (by kernel_rfl) (fun _ _ _ h => h) (Or.inl ⟨by kernel_rfl, fun u hSw => (by have r0 := (hSw.2.2).1; have r1 := (hSw.2.2).2; go_simp)⟩) hS ?_
    change wpAnyH _ _ _ _ _ _ _ (Act.put _ (some 24) _) _
    simp only [Act.put]
    try simp only [List.setIfInBounds_toArray, List.set_cons_zero, List.set_cons_succ]
    refine wpAnyH_ready (rs := [7, 8]) (by kernel_rfl) (by simp) ?_
    refine AllReadyH.cons rfl (fun K hK => ?_) (AllReadyH.cons rfl (fun K hK => ?_) (AllReadyH.nil))
    · skip
      go_simp
      refine (HSp.out _).mono ?_
      rintro e1 w1 ⟨rfl, h9⟩
      replace K0 := K0.below h9 K0.lt
      skip
      replace R0 := R0.below (Nat.lt_of_lt_of_le hl GB.size) h9
      replace GB := GB.trans (h9.mono GB.size)
      clear h9
      refine hK.out _ _ ⟨GB, K0, R0⟩ (fun hS => ?_)
      clear hK K
      refine wpAnyH_ready (rs := [8]) (by kernel_rfl) (by simp) ?_
      refine AllReadyH.cons rfl (fun K hK => ?_) AllReadyH.nil
      go_simp
      have K9 := Blk.new w1 72 #[.int .i64 0, .int .i64 0]
      have hs9 := K0.lt
      replace K0 := K0.alloc (.cells #[.int .i64 0, .int .i64 0] 72)
      replace R0 := R0.below (Nat.lt_of_lt_of_le hl GB.size) ((Below.refl _ _).alloc (Nat.le_refl _) (.cells #[.int .i64 0, .int .i64 0] 72))
      replace GB := GB.alloc GB.size (.cells #[.int .i64 0, .int .i64 0] 72)
      obtain ⟨g9, hg9⟩ : ∃ g9, w1.heap.size = g9 := ⟨_, rfl⟩
      rw [hg9] at K9 hs9 ⊢
      clear hg9
      generalize w1.alloc (.cells #[.int .i64 0, .int .i64 0] 72) = X2 at K9 K0 R0 GB ⊢
      refine hK.out _ _ ⟨GB, K0, R0⟩ (fun hS => ?_)
      clear hK K
      refine wpAnyH_ready (rs := [9]) (by kernel_rfl) (by simp) ?_
      refine AllReadyH.cons rfl (fun K hK => ?_) AllReadyH.nil
      have d0 := K9.cell 0
      have d1 := K9.cell 1
      have f0 := K9.frozen 0
      have f1 := K9.frozen 1
      have HP := Lib.hid (put2 (x := .int .i64 p) (y := .int .i64 q) K9 GB (Nat.le_of_lt hs9))
      have K0f := (K0.far (p := ⟨g9, 0, none⟩) (by dsimp only; omega) (.int .i64 p)).far (p := ⟨g9, 1, none⟩) (by dsimp only; omega) (.int .i64 q)
      have R0f := R0.other hl hs9 (.int .i64 p) (.int .i64 q)
      go_simp
      refine hK.out _ _ ⟨HP.out.2, K0f, R0f⟩ (fun hS => ?_)
      clear hK K d0 d1 f0 f1 K9
      refine wpAnyH_done (by kernel_rfl) ?_ _
      clear hS
      have KP := HP.out.1
      have HGB := HP.out.2
      clear HP K0f R0f GB K0 R0
      go_upto_region 5 with fail
      have z0 := KP.cell 0
      have z1 := KP.cell 1
      go_quiet (fail)
      go_wp2
      go_ret3
      exact ⟨by rw [HV.out]; rfl, below_drewN HGB _⟩
    · skip
      go_simp
      have K9 := Blk.new V 72 #[.int .i64 0, .int .i64 0]
      have hs9 := K0.lt
      replace K0 := K0.alloc (.cells #[.int .i64 0, .int .i64 0] 72)
      replace R0 := R0.below (Nat.lt_of_lt_of_le hl GB.size) ((Below.refl _ _).alloc (Nat.le_refl _) (.cells #[.int .i64 0, .int .i64 0] 72))
      replace GB := GB.alloc GB.size (.cells #[.int .i64 0, .int .i64 0] 72)
      obtain ⟨g9, hg9⟩ : ∃ g9, V.heap.size = g9 := ⟨_, rfl⟩
      rw [hg9] at K9 hs9 ⊢
      clear hg9
      generalize V.alloc (.cells #[.int .i64 0, .int .i64 0] 72) = X4 at K9 K0 R0 GB ⊢
      refine hK.out _ _ ⟨GB, K0, R0⟩ (fun hS => ?_)
      clear hK K
      refine wpAnyH_ready (rs := [7]) (by kernel_rfl) (by simp) ?_
      refine AllReadyH.cons rfl (fun K hK => ?_) AllReadyH.nil
      go_simp
      refine (HSp.out _).mono ?_
      rintro e5 w5 ⟨rfl, h9⟩
      replace K0 := K0.below h9 K0.lt
      replace K9 := K9.below h9 K9.lt
      replace R0 := R0.below (Nat.lt_of_lt_of_le hl GB.size) h9
      replace GB := GB.trans (h9.mono GB.size)
      clear h9
      refine hK.out _ _ ⟨GB, K0, R0⟩ (fun hS => ?_)
      clear hK K
      refine wpAnyH_ready (rs := [9]) (by kernel_rfl) (by simp) ?_
      refine AllReadyH.cons rfl (fun K hK => ?_) AllReadyH.nil
      have d0 := K9.cell 0
      have d1 := K9.cell 1
      have f0 := K9.frozen 0
      have f1 := K9.frozen 1
      have HP := Lib.hid (put2 (x := .int .i64 p) (y := .int .i64 q) K9 GB (Nat.le_of_lt hs9))
      have K0f := (K0.far (p := ⟨g9, 0, none⟩) (by dsimp only; omega) (.int .i64 p)).far (p := ⟨g9, 1, none⟩) (by dsimp only; omega) (.int .i64 q)
      have R0f := R0.other hl hs9 (.int .i64 p) (.int .i64 q)
      go_simp
      refine hK.out _ _ ⟨HP.out.2, K0f, R0f⟩ (fun hS => ?_)
      clear hK K d0 d1 f0 f1 K9
      refine wpAnyH_done (by kernel_rfl) ?_ _
      clear hS
      have KP := HP.out.1
      have HGB := HP.out.2
      clear HP K0f R0f GB K0 R0
      go_upto_region 5 with fail
      have z0 := KP.cell 0
      have z1 := KP.cell 1
      go_quiet (fail)
      go_wp2
      go_ret3
      exact ⟨by rw [HV.out]; rfl, below_drewN HGB _⟩

/-- who stands there -/
def slotV (now : Int) (ts : List Tm) (lv sl : Int) : List Int := if chkW now ts = true then (ts.filter fun t => decide (spotT now t.2 = (lv, sl))).map (·.1) else []
/-- numbers in memory of their own -/
def IRow (is : List Int) (w : World) (e : Ending) (w' : World) : Prop := ∃ A n c, e = .returned (.slice A n c) ∧ is.length = n ∧ w'.ownsRow w.heap.size 3 1 (.slice A n c) n (vs is) ∧ Below w.heap.size w w'
theorem map_step {l : List Tm} {k : Nat} {a b : Int} (h : l[k]? = some (a, b)) : ((l.take k).map (·.1)) ++ [a] = (l.take (k + 1)).map (·.1) := by
  rw [List.take_add_one, h, List.map_append]
  rfl
set_option maxRecDepth 100000 in
set_option maxHeartbeats 8000000 in
theorem slot_any (now : Int) (A : Option Addr) (n c : Nat) (ts : List Tm) (lv sl : Int) (w : World) (hG : WR w A n ts) :
    Calls Try.prog 26 #[.agg #[.int .i64 now, .slice A n c], .int .i64 lv, .int .i64 sl] w (IRow (slotV now ts lv sl) w) := by
  obtain ⟨K0, K1, K2, GB⟩ := blks3 w 24 3 3 #[.int .i64 now, .slice A n c] #[.int .i64 lv] #[.int .i64 sl]
  have hz : w.heap.size + 1 + 1 + 1 ≤ (((w.alloc (.cells #[.int .i64 now, .slice A n c] 24)).alloc (.cells #[.int .i64 lv] 3)).alloc (.cells #[.int .i64 sl] 3)).heap.size := by simp
  have HC := Lib.hid (fun (u : World) (h : Below w.heap.size w u) => check_any now A n c ts u (hG.below h))
  have HG := Lib.hid hG
  have z0 := K0.cell 0
  have z1 := K0.cell 1
  cases hr : chkW now ts with
  | false =>
    have HV : Hid (slotV now ts lv sl = []) := Lib.hid (by unfold slotV; rw [hr]; rfl)
    rw [hr, show errW false = 250 from rfl] at HC
    clear hr HG hG
    rw [HV.out]
    go_enter Try.func26, Try.ntmps26
    go_wp2_with fail
    refine (HC.out _ GB).mono ?_
    rintro e w1 ⟨rfl, h9⟩
    replace GB := GB.trans (h9.mono GB.size)
    clear h9 z0 z1 K0 K1 K2
    go_wp2
    go_ret
    exact ⟨none, 0, 0, rfl, rfl, World.ownsRow_nil _ _ _ _, GB⟩
  | true =>
    rw [hr, show errW true = 0 from rfl] at HC
    have hc := chkW_iff.1 hr
    obtain ⟨i0, hi0, hz0, hz1, hz2⟩ := info_parts9 int_info
    have n9 := hG.small
    have HPa := Lib.hid (fun (u : World) (h : Below w.heap.size w u) (K : Blk u (w.heap.size) 24 #[.int .i64 now, .slice A n c]) (K1 : Blk u (w.heap.size + 1) 3 #[.int .i64 lv]) (K2 : Blk u (w.heap.size + 1 + 1) 3 #[.int .i64 sl]) => spart_any (w.heap.size) (w.heap.size + 1) (w.heap.size + 1 + 1) A n c ts (fun t => decide (spotT now t.2 = (lv, sl))) u (HG.out.below h)
      (fun a b v hm hb => slotcl_any now A n c a b lv sl (w.heap.size) (w.heap.size + 1) (w.heap.size + 1 + 1) v (K.below hb K.lt) (K1.below hb K1.lt) (K2.below hb K2.lt) hc.1 ((hc.2.2.times hc.1) _ hm).1))
    obtain ⟨L, hL⟩ : ∃ L, ts.filter (fun t => decide (spotT now t.2 = (lv, sl))) = L := ⟨_, rfl⟩
    have HV : Hid (slotV now ts lv sl = L.map (·.1)) := Lib.hid (by unfold slotV; rw [if_pos hr, hL])
    have HLn : Hid (L.length ≤ 1000) := Lib.hid (by have h2 := List.length_filter_le (fun t : Tm => decide (spotT now t.2 = (lv, sl))) ts; rw [hL, hG.len] at h2; omega)
    rw [hL] at HPa
    clear hr hc hG hL HG
    rw [HV.out]
    go_enter Try.func26, Try.ntmps26
    go_wp2_with fail
    refine (HC.out _ GB).mono ?_
    rintro e w1 ⟨rfl, h9⟩
    replace K0 := K0.below h9 K0.lt
    replace K1 := K1.below h9 K1.lt
    replace K2 := K2.below h9 K2.lt
    replace hz := Nat.le_trans hz h9.size
    replace GB := GB.trans (h9.mono GB.size)
    clear h9 z0 z1
    have z0 := K0.cell 0
    have z1 := K0.cell 1
    go_wp2_with fail
    refine (HPa.out _ GB K0 K1 K2).mono ?_
    rintro e w2 ⟨A1, n1, c1, A2, n2, c2, rfl, hl1, hl2, O1, -, h9⟩
    have HR := Lib.hid (Reads.of_own O1)
    have HL := Lib.hid hl1
    have m9 : n1 ≤ 1000 := by have := HLn.out; omega
    replace GB := GB.trans (h9.mono GB.size)
    clear h9 z0 z1 K0 K1 K2 O1 hl1 hl2 HPa HC hz
    go_wp2_with fail
    have HGB0 := Lib.hid GB
    go_loopw [9, 24] (fun sv iv wr => ∃ (k : Nat) (A3 : Option Addr) (c3 : Nat), k ≤ n1 ∧ sv = .slice A3 k c3 ∧ iv = .int .i64 (k : Int) ∧ Hid (wr.ownsRow w2.heap.size 3 1 (.slice A3 k c3) k (vs ((L.take k).map (·.1)))) ∧ Below w2.heap.size w2 wr) (fun _ iv _ => n1 - (intOf iv).toNat)
    case atStart => exact ⟨0, none, 0, Nat.zero_le _, rfl, rfl, Lib.hid (World.ownsRow_nil _ _ _ _), Below.refl _ _⟩
    case round =>
      obtain ⟨k, A3, c3, hk, rfl, rfl, HO, HB⟩ := hrel
      by_cases hlt : k < n1
      · obtain ⟨⟨a, b⟩, hx⟩ := elem_at (l := L) (k := k) (by rw [HL.out]; exact hlt)
        obtain ⟨ad, rfl, hb, q0, q1⟩ := tm_at (HR.out.below HB) hx
        have HS := Lib.hid (map_step hx)
        have j0 : (0 : Int) ≤ (k : Int) := by omega
        have j1 : (k : Int) < (n1 : Int) := by omega
        have l1 : decide ((k : Int) < (n1 : Int)) = true := decide_eq_true j1
        have KB := Blk.new wr 44 #[.int .i64 a, .int .i64 b]
        have HB1 := HB.alloc HB.size (.cells #[.int .i64 a, .int .i64 b] 44)
        have O1 := HO.out.alloc (.cells #[.int .i64 a, .int .i64 b] 44)
        have y0 := KB.cell 0
        have y1 := KB.cell 1
        obtain ⟨W1, hW1⟩ : ∃ W1, wr.alloc (.cells #[.int .i64 a, .int .i64 b] 44) = W1 := ⟨_, rfl⟩
        clear hx hb HO HB
        go_upto_region 8 with fail
        rw [hW1] at KB HB1 O1 y0 y1
        clear hW1
        go_wp2_with (
          at_builtin
          refine wpList_append_any _ rfl (.tmp 28) (.tmp 31) 53 rfl w2.heap.size 3 i0 (.int .i64 0) 1 8 Try.underlying53 hi0 hz0 hz1 hz2 rfl (by decide) (.slice A3 k c3) k (vs ((L.take k).map (·.1))) rfl (O1.alloc (.cells #[.int .i64 a] 3)) _ (some ⟨W1.heap.size, 0, none⟩) 1 1 (vs [a]) rfl (reads_int1 W1 3 a rfl) (vs_ones _) (by simp only [maxLen]; omega) (by omega) (Nat.le_trans HB1.size (by simp)) ?_
          intro v9 w9 own9 grow9 hw9
          rw [← vs_append, HS.out] at own9
          have HB9 := (HB1.alloc HB1.size (.cells #[.int .i64 a] 3)).grown grow9 (Nat.le_trans HB1.size (by simp)) (fun g hg => (O1.lt g hg).1)
          obtain ⟨A9, c9, rfl, _, _⟩ := own_reads own9
          have HT := Lib.hid (And.intro own9 HB9)
          clear own9 grow9 hw9 HB9)
        have HO9 := Lib.hid HT.out.1
        have HB9 := HT.out.2
        clear O1 HT KB y0 y1 q0 q1
        go_roundw
        case rel => exact ⟨k + 1, A9, c9, by omega, rfl, by go_num, HO9, HB9⟩
        case measure => simp [intOf] <;> omega
      · obtain rfl : k = n1 := by omega
        have l1 : decide ((k : Int) < (k : Int)) = false := decide_eq_false (by omega)
        have e1 : L.take k = L := by rw [← HL.out]; exact List.take_length
        rw [e1] at HO
        go_wp2
        go_ret
        exact ⟨A3, k, c3, rfl, by rw [List.length_map]; exact HL.out, own_down HO.out HGB0.out.size, HGB0.out.trans (HB.mono HGB0.out.size)⟩

theorem field_run (p q : Int) (u : World) : (Instr.field 72 (.agg #[.int .i64 p, .int .i64 q]) 0).run Try.prog u = .ok (.int .i64 p) u := by kernel_rfl
/-- how many levels these move down -/
def sumM (now tm : Int) (l : List Tm) : Int := (l.map fun t => (spotT now t.2).1 - (spotT tm t.2).1).sum
def movesV (now : Int) (ts : List Tm) (tm : Int) : Int × Int := if (passV now ts tm).2 = 0 then (sumM now tm (passV now ts tm).1.1.2, 0) else (0, (passV now ts tm).2)
theorem sum_step {now tm : Int} {l : List Tm} {k : Nat} {x : Tm} (h : l[k]? = some x) : sumM now tm (l.take (k + 1)) = sumM now tm (l.take k) + ((spotT now x.2).1 - (spotT tm x.2).1) := by
  unfold sumM
  rw [List.take_add_one, h, List.map_append, List.sum_append]
  simp
theorem spotF_level (now b : Int) : ∀ k : Nat, 0 ≤ (spotF now b k).1 ∧ (spotF now b k).1 ≤ (k : Int)
  | 0 => ⟨Int.le_refl _, Int.le_refl _⟩
  | k + 1 => by
    have ih := spotF_level now b k
    unfold spotF
    split
    · omega
    · dsimp only; omega
theorem spot_level (now b : Int) : 0 ≤ (spotT now b).1 ∧ (spotT now b).1 ≤ 9 := spotF_level now b 9
theorem sum_small (now tm : Int) (l : List Tm) : -(9 * (l.length : Int)) ≤ sumM now tm l ∧ sumM now tm l ≤ 9 * (l.length : Int) := by
  induction l with
  | nil => exact ⟨Int.le_refl _, Int.le_refl _⟩
  | cons x l ih =>
    have e : sumM now tm (x :: l) = ((spotT now x.2).1 - (spotT tm x.2).1) + sumM now tm l := by unfold sumM; simp
    have h1 := spot_level now x.2
    have h2 := spot_level tm x.2
    rw [e, List.length_cons]
    omega
theorem pass_cases (now : Int) (ts : List Tm) (tm : Int) : (∃ e, passV now ts tm = (((0, []), []), e) ∧ (e == 0) = false ∧ e = (if chkW now ts = true then 2 else 250) ∧ ¬ (chkW now ts = true ∧ now ≤ tm ∧ tm ≤ 1125899906842624)) ∨ (passV now ts tm = (((tm, ts.filter fun t => !decide (t.2 ≤ tm)), laidL (ts.filter fun t => decide (t.2 ≤ tm))), 0) ∧ chkW now ts = true ∧ now ≤ tm ∧ tm ≤ 1125899906842624) := by
  unfold passV
  cases hr : chkW now ts with
  | false => exact .inl ⟨250, by simp, rfl, by simp, by simp⟩
  | true =>
    by_cases hin : now ≤ tm ∧ tm ≤ 1125899906842624
    · exact .inr ⟨by simp [hin], rfl, hin⟩
    · exact .inl ⟨2, by rw [if_pos rfl, if_neg hin], rfl, by simp, fun h => hin h.2⟩
set_option maxRecDepth 100000 in
set_option maxHeartbeats 8000000 in
theorem moves_any (now : Int) (A : Option Addr) (n c : Nat) (ts : List Tm) (tm : Int) (w : World) (hG : WR w A n ts) :
    Calls Try.prog 18 #[.agg #[.int .i64 now, .slice A n c], .int .i64 tm] w (Said (.tuple #[.int .i64 (movesV now ts tm).1, .int .i64 (movesV now ts tm).2]) w) := by
  obtain ⟨K0, GB⟩ := box1 w 24 #[.int .i64 now, .slice A n c]
  have HP := Lib.hid (fun (u : World) (h : Below w.heap.size w u) => pass_any now A n c ts tm u (hG.below h))
  have z0 := K0.cell 0
  have z1 := K0.cell 1
  rcases pass_cases now ts tm with ⟨E, h1, h2, -, -⟩ | ⟨h1, h2, h3, h4⟩
  · have HV : Hid (movesV now ts tm = (0, E)) := Lib.hid (by unfold movesV; rw [h1, if_neg (by simpa using h2)])
    have e0 : (E != 0) = true := by simpa using h2
    rw [h1] at HP
    clear h1 h2 hG
    rw [HV.out]
    go_enter Try.func18, Try.ntmps18
    go_wp2_with fail
    refine (HP.out _ GB).mono ?_
    rintro e w1 ⟨A1, n1, c1, B1, m1, d1, rfl, -, -, -, -, h9⟩
    replace GB := GB.trans (h9.mono GB.size)
    replace GB := GB.alloc GB.size (.cells #[.int .i64 0, .slice A1 n1 c1] 24)
    clear h9 z0 z1 K0
    go_wp2
    go_ret2
    exact ⟨rfl, GB⟩
  · obtain ⟨L, hL⟩ : ∃ L, ts.filter (fun t => !decide (t.2 ≤ tm)) = L := ⟨_, rfl⟩
    rw [hL] at h1
    have hc := chkW_iff.1 h2
    have HV : Hid (movesV now ts tm = (sumM now tm L, 0)) := Lib.hid (by unfold movesV; rw [h1, if_pos rfl])
    have HT : Hid (∀ t ∈ L, 0 ≤ t.2) := Lib.hid (fun t ht => ((hc.2.2.times hc.1) t (by rw [← hL] at ht; exact (List.mem_filter.1 ht).1)).1)
    have HN := Lib.hid hc.1
    have HM : Hid (0 ≤ tm) := Lib.hid (by have := hc.1; omega)
    have HLn : Hid (L.length ≤ 1000) := Lib.hid (by have h2 := List.length_filter_le (fun t : Tm => !decide (t.2 ≤ tm)) ts; rw [hL, hG.len] at h2; have := hG.small; omega)
    rw [h1] at HP
    clear h1 h2 h3 h4 hG hc hL
    rw [HV.out]
    go_enter Try.func18, Try.ntmps18
    go_wp2_with fail
    refine (HP.out _ GB).mono ?_
    rintro e w1 ⟨A1, n1, c1, B1, m1, d1, rfl, hl1, -, O1, -, h9⟩
    replace K0 := K0.below h9 K0.lt
    replace GB := GB.trans (h9.mono GB.size)
    have m9 : n1 ≤ 1000 := by have := HLn.out; dsimp only at hl1; omega
    have HR := Lib.hid (Reads.of_own O1)
    have HL := Lib.hid hl1
    have KX := Blk.new w1 24 #[.int .i64 tm, .slice A1 n1 c1]
    have HGX := Lib.hid ((Below.refl w1.heap.size w1).alloc (Nat.le_refl _) (.cells #[.int .i64 tm, .slice A1 n1 c1] 24))
    replace K0 := K0.alloc (.cells #[.int .i64 tm, .slice A1 n1 c1] 24)
    replace GB := GB.alloc GB.size (.cells #[.int .i64 tm, .slice A1 n1 c1] 24)
    have y0 := KX.cell 0
    have y1 := KX.cell 1
    dsimp only at HR HL
    clear h9 z0 z1 O1 hl1
    go_wp2_with fail
    obtain ⟨W2, hW2⟩ : ∃ W2, w1.alloc (.cells #[.int .i64 tm, .slice A1 n1 c1] 24) = W2 := ⟨_, rfl⟩
    rw [hW2] at HGX K0 GB KX y0 y1 ⊢
    have HR2 := Lib.hid ((HR.out.below HGX.out).more HGX.out.size)
    clear hW2 HGX HR y0 y1 KX
    have HK0 := Lib.hid (And.intro K0 GB)
    go_loopw [9, 25] (fun sv iv wr => ∃ (k : Nat), k ≤ n1 ∧ sv = .int .i64 (sumM now tm (L.take k)) ∧ iv = .int .i64 (k : Int) ∧ Blk wr w.heap.size 24 #[.int .i64 now, .slice A n c] ∧ Below W2.heap.size W2 wr) (fun _ iv _ => n1 - (intOf iv).toNat)
    case atStart => exact ⟨0, Nat.zero_le _, rfl, rfl, K0, Below.refl _ _⟩
    case round =>
      clear K0 GB
      obtain ⟨k, hk, rfl, rfl, K0, GB⟩ := hrel
      by_cases hlt : k < n1
      · obtain ⟨⟨a, b⟩, hx⟩ := elem_at (l := L) (k := k) (by rw [HL.out]; exact hlt)
        obtain ⟨ad, rfl, hb, q0, q1⟩ := tm_at (HR2.out.below GB) hx
        have hb0 : 0 ≤ b := HT.out _ (List.mem_of_getElem? hx)
        have HS1 := Lib.hid (fun (u : World) => spot_any now a b u HN.out hb0)
        have HS2 := Lib.hid (fun (u : World) => spot_any tm a b u HM.out hb0)
        have hst := sum_step (now := now) (tm := tm) hx
        have hsm := sum_small now tm (L.take k)
        rw [List.length_take, HL.out] at hsm
        have l1' := spot_level now b
        have l2' := spot_level tm b
        obtain ⟨p1, q1', h1⟩ : ∃ p q, spotT now b = (p, q) := ⟨_, _, rfl⟩
        obtain ⟨p2, q2, h2⟩ : ∃ p q, spotT tm b = (p, q) := ⟨_, _, rfl⟩
        dsimp only at hst
        rw [h1] at HS1 hst l1'
        rw [h2] at HS2 hst l2'
        dsimp only at HS1 HS2 hst l1' l2'
        obtain ⟨S, hS'⟩ : ∃ S, sumM now tm (L.take k) = S := ⟨_, rfl⟩
        rw [hS'] at hst hsm ⊢
        have HD3 := Lib.hid hst
        obtain ⟨D, hD⟩ : ∃ D, p1 - p2 = D := ⟨_, rfl⟩
        obtain ⟨S2, hS2⟩ : ∃ S2, S + D = S2 := ⟨_, rfl⟩
        have HD1 : Hid (IntKind.i64.wrap (p1 - p2) = D) := Lib.hid (by rw [IntKind.wrap_i64]; omega)
        have HD2 : Hid (IntKind.i64.wrap (S + D) = S2) := Lib.hid (by rw [IntKind.wrap_i64]; omega)
        rw [hD, hS2] at HD3
        have j0 : (0 : Int) ≤ (k : Int) := by omega
        have j1 : (k : Int) < (n1 : Int) := by omega
        have l1 : decide ((k : Int) < (n1 : Int)) = true := decide_eq_true j1
        have KB := Blk.new wr 44 #[.int .i64 a, .int .i64 b]
        replace K0 := K0.alloc (.cells #[.int .i64 a, .int .i64 b] 44)
        replace GB := GB.alloc GB.size (.cells #[.int .i64 a, .int .i64 b] 44)
        clear hx hb hb0 hst hsm h1 h2 hD hS2 hS' l1' l2'
        go_upto_region 8 with fail
        clear q0 q1
        replace KB : Blk (wr.alloc (.cells #[.int .i64 a, .int .i64 b] 44)).drew _ _ _ := KB
        replace K0 : Blk (wr.alloc (.cells #[.int .i64 a, .int .i64 b] 44)).drew _ _ _ := K0
        replace GB := GB.drew
        refine wp_region_held_drew (S := fun u => Below W2.heap.size W2 u ∧ Blk u w.heap.size 24 #[.int .i64 now, .slice A n c] ∧ Blk u wr.heap.size 44 #[.int .i64 a, .int .i64 b]) (by kernel_rfl) ⟨GB, K0, KB⟩ (fun hS => ?_)
        obtain ⟨gb, hgb⟩ : ∃ gb, wr.heap.size = gb := ⟨_, rfl⟩
        generalize (wr.alloc (.cells #[.int .i64 a, .int .i64 b] 44)).drew = V at GB K0 KB hS ⊢
        rw [hgb] at KB hS ⊢
        clear hgb
        refine wpAnyH_take (i := 0) (v := .int .i64 S) rfl (by kernel_rfl) (by kernel_rfl) (by kernel_rfl) (fun _ _ _ h => h) (Or.inl ⟨by kernel_rfl, fun u hSw => (by go_simp)⟩) hS ?_
        change wpAnyH _ _ _ _ _ _ _ (Act.put _ (some 29) _) _
        simp only [Act.put]
        try simp only [List.setIfInBounds_toArray, List.set_cons_zero, List.set_cons_succ]
        refine wpAnyH_take (i := 1) (v := .pointer (some ⟨w.heap.size, 0, none⟩)) rfl (by kernel_rfl) (by kernel_rfl) (by kernel_rfl) (fun _ _ _ h => h) (Or.inl ⟨by kernel_rfl, fun u hSw => (by go_simp)⟩) hS ?_
        change wpAnyH _ _ _ _ _ _ _ (Act.put _ (some 30) _) _
        simp only [Act.put]
        try simp only [List.setIfInBounds_toArray, List.set_cons_zero, List.set_cons_succ]
        refine wpAnyH_take (i := 2) (v := .int .i64 now) rfl (by kernel_rfl) (by kernel_rfl) (by kernel_rfl) (fun _ _ _ h => h) (Or.inl ⟨by kernel_rfl, fun u hSw => (by have q0 := hSw.2.1.cell 0; go_simp)⟩) hS ?_
        change wpAnyH _ _ _ _ _ _ _ (Act.put _ (some 31) _) _
        simp only [Act.put]
        try simp only [List.setIfInBounds_toArray, List.set_cons_zero, List.set_cons_succ]
        refine wpAnyH_take (i := 3) (v := .agg #[.int .i64 a, .int .i64 b]) rfl (by kernel_rfl) (by kernel_rfl) (by kernel_rfl) (fun _ _ _ h => h) (Or.inl ⟨by kernel_rfl, fun u hSw => (by have q0 := hSw.2.2.cell 0; have q1 := hSw.2.2.cell 1; go_simp)⟩) hS ?_
        change wpAnyH _ _ _ _ _ _ _ (Act.put _ (some 32) _) _
        simp only [Act.put]
        try simp only [List.setIfInBounds_toArray, List.set_cons_zero, List.set_cons_succ]
        refine wpAnyH_take (i := 6) (v := .int .i64 tm) rfl (by kernel_rfl) (by kernel_rfl) (by kernel_rfl) (fun _ _ _ h => h) (Or.inl ⟨by kernel_rfl, fun u hSw => (by go_simp)⟩) hS ?_
        change wpAnyH _ _ _ _ _ _ _ (Act.put _ (some 35) _) _
        simp only [Act.put]
        try simp only [List.setIfInBounds_toArray, List.set_cons_zero, List.set_cons_succ]
        refine wpAnyH_take (i := 7) (v := .agg #[.int .i64 a, .int .i64 b]) rfl (by kernel_rfl) (by kernel_rfl) (by kernel_rfl) (fun _ _ _ h => h) (Or.inl ⟨by kernel_rfl, fun u hSw => (by have q0 := hSw.2.2.cell 0; have q1 := hSw.2.2.cell 1; go_simp)⟩) hS ?_
        change wpAnyH _ _ _ _ _ _ _ (Act.put _ (some 36) _) _
        simp only [Act.put]
        try simp only [List.setIfInBounds_toArray, List.set_cons_zero, List.set_cons_succ]
        refine wpAnyH_ready (rs := [4]) (by kernel_rfl) (by simp) ?_
        refine AllReadyH.cons rfl (fun K hK => ?_) AllReadyH.nil
        go_simp
        refine (HS1.out _).mono ?_
        rintro e1 w1 ⟨rfl, h9⟩
        replace K0 := K0.below h9 K0.lt
        replace KB := KB.below h9 KB.lt
        replace GB := GB.trans (h9.mono GB.size)
        clear h9
        refine hK.out _ _ ⟨GB, K0, KB⟩ (fun hS => ?_)
        clear hK K
        refine wpAnyH_take (i := 5) (v := .int .i64 p1) rfl (by kernel_rfl) (by kernel_rfl) (by kernel_rfl) (fun _ _ _ h => h) (Or.inl ⟨by kernel_rfl, fun u hSw => (by go_simp; rw [field_run]; rfl)⟩) hS ?_
        change wpAnyH _ _ _ _ _ _ _ (Act.put _ (some 34) _) _
        simp only [Act.put]
        try simp only [List.setIfInBounds_toArray, List.set_cons_zero, List.set_cons_succ]
        refine wpAnyH_ready (rs := [8]) (by kernel_rfl) (by simp) ?_
        refine AllReadyH.cons rfl (fun K hK => ?_) AllReadyH.nil
        go_simp
        refine (HS2.out _).mono ?_
        rintro e2 w2 ⟨rfl, h9⟩
        replace K0 := K0.below h9 K0.lt
        replace KB := KB.below h9 KB.lt
        replace GB := GB.trans (h9.mono GB.size)
        clear h9
        refine hK.out _ _ ⟨GB, K0, KB⟩ (fun hS => ?_)
        clear hK K
        refine wpAnyH_take (i := 9) (v := .int .i64 p2) rfl (by kernel_rfl) (by kernel_rfl) (by kernel_rfl) (fun _ _ _ h => h) (Or.inl ⟨by kernel_rfl, fun u hSw => (by go_simp; rw [field_run]; rfl)⟩) hS ?_
        change wpAnyH _ _ _ _ _ _ _ (Act.put _ (some 38) _) _
        simp only [Act.put]
        try simp only [List.setIfInBounds_toArray, List.set_cons_zero, List.set_cons_succ]
        refine wpAnyH_take (i := 10) (v := .int .i64 D) rfl (by kernel_rfl) (by kernel_rfl) (by kernel_rfl) (fun _ _ _ h => h) (Or.inl ⟨by kernel_rfl, fun u hSw => (by go_simp; exact HD1.out)⟩) hS ?_
        change wpAnyH _ _ _ _ _ _ _ (Act.put _ (some 39) _) _
        simp only [Act.put]
        try simp only [List.setIfInBounds_toArray, List.set_cons_zero, List.set_cons_succ]
        refine wpAnyH_take (i := 11) (v := .int .i64 S2) rfl (by kernel_rfl) (by kernel_rfl) (by kernel_rfl) (fun _ _ _ h => h) (Or.inl ⟨by kernel_rfl, fun u hSw => (by go_simp; exact HD2.out)⟩) hS ?_
        change wpAnyH _ _ _ _ _ _ _ (Act.put _ (some 40) _) _
        simp only [Act.put]
        try simp only [List.setIfInBounds_toArray, List.set_cons_zero, List.set_cons_succ]
        refine wpAnyH_take (i := 12) (v := .int .i64 S2) rfl (by kernel_rfl) (by kernel_rfl) (by kernel_rfl) (fun _ _ _ h => h) (Or.inl ⟨by kernel_rfl, fun u hSw => (by go_simp)⟩) hS ?_
        change wpAnyH _ _ _ _ _ _ _ (Act.put _ (some 9) _) _
        simp only [Act.put]
        try simp only [List.setIfInBounds_toArray, List.set_cons_zero, List.set_cons_succ]
        refine wpAnyH_done (by kernel_rfl) ?_ _
        clear hS
        go_wp2
        go_roundw
        case rel => exact ⟨k + 1, by omega, by rw [HD3.out], by go_num, K0, GB⟩
        case measure => simp [intOf] <;> omega
      · obtain rfl : k = n1 := by omega
        have l1 : decide ((k : Int) < (k : Int)) = false := decide_eq_false (by omega)
        have e1 : L.take k = L := by rw [← HL.out]; exact List.take_length
        rw [e1]
        go_wp2
        go_ret2
        exact ⟨rfl, HK0.out.2.trans (GB.mono HK0.out.2.size)⟩

end Go.Proofs.Ytbhcpkmofnfjgaa
