/-
  The landed vtime: Leave. No statement is proved here.
-/
import Derived.Test.YtfgabmelmopgdaaVn
namespace Go.Proofs.Ytfgabmelmopgdaa
open Go.RowKit

theorem results_two {P : Program} {fn : Func} {p q r : Tmp} {ty ty2 : TypeId} (h : fn.results = #[.cell p ty, .cell q ty2, .tmp r]) (tmps : Array Value) (w : World) (g : Nat) (t : TypeId) (cs : Array Value) (d : TypeDesc) (g2 : Nat) (t2 : TypeId) (cs2 : Array Value) (d2 : TypeDesc)
    (hp : tmps.getD p undef = .pointer (some ⟨g, 0, none⟩)) (hg : w.heap[g]? = some (.cells cs t (0, 0)))
    (hu : P.underlying ty = some d) (hd : (match d with | .struct _ | .array _ _ => true | _ => false) = true) (hi : (P.info? ty).map (·.size) = some cs.size)
    (hp2 : tmps.getD q undef = .pointer (some ⟨g2, 0, none⟩)) (hg2 : w.heap[g2]? = some (.cells cs2 t2 (0, 0)))
    (hu2 : P.underlying ty2 = some d2) (hd2 : (match d2 with | .struct _ | .array _ _ => true | _ => false) = true) (hi2 : (P.info? ty2).map (·.size) = some cs2.size) :
    (results fn tmps).run P w = .ok (.tuple #[.agg cs, .agg cs2, tmps.getD r undef]) w := by
  have hp' : tmps[p]?.getD undef = .pointer (some ⟨g, 0, none⟩) := by simpa using hp
  have hq' : tmps[q]?.getD undef = .pointer (some ⟨g2, 0, none⟩) := by simpa using hp2
  simp [results, h, hp', hq', asAddr, run_loadVar_row w g t ty cs (0, 0) d hg hu hd hi, run_loadVar_row w g2 t2 ty2 cs2 (0, 0) d2 hg2 hu2 hd2 hi2]
/-- a queue of its own, a runner, and an error -/
def GivesL (r : List Rn × Rn × Int) (w : World) (e : Ending) (w' : World) : Prop :=
  ∃ A n c, e = .returned (.tuple #[.agg #[.slice A n c], .agg (agR r.2.1), .int .i64 r.2.2]) ∧ r.1.length = n ∧ w'.ownsRow w.heap.size 40 5 (.slice A n c) n (flat rv r.1) ∧ Below w.heap.size w w'
def leaveQS (qs : List Rn) (i : Int) : List Rn × Rn × Int := if unfoundQ qs true [i] = 0 then (delK qs i, (getQ qs i).1, 0) else ([], zeroR, unfoundQ qs true [i])
def Keep9 (ls : List (Addr × Value)) (u : World) : Prop := ∀ p v, (p, v) ∈ ls → u.cell? p = some v
theorem Keep9.set {ls : List (Addr × Value)} {u : World} (h : Keep9 ls u) {q : Addr} (hq : ∀ p v, (p, v) ∈ ls → p.block ≠ q.block) (x : Value) : Keep9 ls (u.setCell q x) := fun p v hp => by
  rw [World.cell?_setCell_other u q p x (fun e => hq p v hp (by rw [e]))]
  exact h p v hp

set_option maxRecDepth 100000 in
set_option maxHeartbeats 16000000 in
theorem leave_any (A : Option Addr) (n c : Nat) (qs : List Rn) (i : Int) (w : World) (hG : QR w A n c qs) : Calls Try.prog 24 #[.agg #[.slice A n c], .int .i64 i] w (GivesL (leaveQS qs i) w) := by
  obtain ⟨K0, KZ, KR, GB⟩ := blks3 w 26 26 40 #[.slice A n c] #[.slice none 0 0] #[.int .i64 0, .int .i64 0, .int .u64 0, .int .u64 0, .int .u64 0]
  have HG := Lib.hid hG
  have HL := Lib.hid hG.len
  have HUn := Lib.hid (fun (u : World) (h : Below w.heap.size w u) (A2 : Option Addr) (c2 : Nat) (hI : IR u A2 1 [i]) => unfound_any A n c qs true A2 1 c2 [i] u (HG.out.below h) hI)
  have HIr : Hid (IR ((((w.alloc (.cells #[.slice A n c] 26)).alloc (.cells #[.slice none 0 0] 26)).alloc (.cells #[.int .i64 0, .int .i64 0, .int .u64 0, .int .u64 0, .int .u64 0] 40)).alloc (.cells #[.int .i64 i] 3)) (some ⟨w.heap.size + 1 + 1 + 1, 0, none⟩) 1 [i]) := Lib.hid ⟨reads_int1 _ 3 i (by simp), by decide⟩
  replace K0 := K0.alloc (.cells #[.int .i64 i] 3)
  replace KZ := KZ.alloc (.cells #[.int .i64 i] 3)
  replace KR := KR.alloc (.cells #[.int .i64 i] 3)
  replace GB := GB.alloc GB.size (.cells #[.int .i64 i] 3)
  unfold leaveQS
  by_cases hz : unfoundQ qs true [i] = 0
  · rw [if_pos hz]
    have hq := unfound_zero hz
    rw [hz] at HUn
    obtain ⟨⟨r1, r2, r3, r4, r5⟩, hk⟩ : ∃ r, kf qs i = some r := Option.isSome_iff_exists.1 (hq.2.2.2 i (by simp))
    have hgy := (get_yes (rightQ_iff.2 hq.1) hk).2
    rw [hgy]
    have HFi := Lib.hid (fun (u : World) (h : Below w.heap.size w u) => find_any A n c qs i u (HG.out.below h).row hq.1.rise HG.out.small)
    rw [hk] at HFi
    have hx := low_at hq.1.rise hk
    have hpn : low qs i < n := by have := (List.getElem?_eq_some_iff.1 hx).1; have := HL.out; omega
    have HCh := Lib.hid (fun (u : World) (h : Below w.heap.size w u) (bp : Nat) (KP : Blk u bp 3 #[.int .i64 ((low qs i : Nat) : Int)]) => changedLeave_any A n c qs (.pointer (some ⟨bp, 0, none⟩)) none (delK qs i, 0) (fun _ => True) u (HG.out.below h) (fun g hg => by cases hg) (fun h0 => (h0 rfl).elim) (fun _ _ _ _ _ _ _ => trivial)
      (leavedo_any bp qs i u hq.1.rise (by rw [hk]; rfl) KP.lt (KP.cell 0) (by have := hq.1.len; omega)))
    obtain ⟨p, hp⟩ : ∃ p, low qs i = p := ⟨_, rfl⟩
    rw [hp] at HFi HCh hx hpn
    have HX := Lib.hid hx
    have j0 : (0 : Int) ≤ (p : Int) := by omega
    have j1 : (p : Int) < (n : Int) := by omega
    obtain ⟨DL, hDL⟩ : ∃ DL, delK qs i = DL := ⟨_, rfl⟩
    rw [hDL] at HCh
    rw [hDL]
    clear hq hgy hk hx hp hpn hDL hz hG
    go_enter Try.func24, Try.ntmps24
    have zK00 := K0.cell 0
    go_wp2_with fail
    refine (HUn.out _ GB _ _ HIr.out).mono ?_
    rintro e w1 ⟨rfl, h9⟩
    replace K0 := K0.below h9 K0.lt
    replace KZ := KZ.below h9 KZ.lt
    replace KR := KR.below h9 KR.lt
    replace GB := GB.trans (h9.mono GB.size)
    clear h9 HIr HUn
    clear zK00
    have zK00 := K0.cell 0
    go_wp2_with fail
    refine (HFi.out _ GB).mono ?_
    rintro e w2 ⟨rfl, h9⟩
    replace K0 := K0.below h9 K0.lt
    replace KZ := KZ.below h9 KZ.lt
    replace KR := KR.below h9 KR.lt
    replace GB := GB.trans (h9.mono GB.size)
    clear h9 HFi
    clear zK00
    have hkl := KR.lt
    have K8 := Blk.new w2 3 #[.int .i64 (p : Int)]
    replace K0 := K0.alloc (.cells #[.int .i64 (p : Int)] 3)
    replace KZ := KZ.alloc (.cells #[.int .i64 (p : Int)] 3)
    replace KR := KR.alloc (.cells #[.int .i64 (p : Int)] 3)
    replace GB := GB.alloc GB.size (.cells #[.int .i64 (p : Int)] 3)
    have CX := Lib.hid (HCh.out _ GB _ K8)
    have zK00 := K0.cell 0
    go_wp2_with fail
    refine CX.out.mono ?_
    rintro e w3 hd
    obtain ⟨A3, n3, c3, rfl, hl3, own3⟩ := hd.out
    have h9 := hd.but.below (Nat.le_refl _) (fun g hg => by cases hg)
    clear hd CX
    replace own3 := own_down own3 (show w.heap.size + 1 + 1 + 1 ≤ (w2.alloc (.cells #[.int .i64 (p : Int)] 3)).heap.size from Nat.le_trans hkl (by simp))
    have hs3 : w.heap.size + 1 + 1 < w3.heap.size := Nat.lt_of_lt_of_le hkl (Nat.le_trans (show w2.heap.size ≤ (w2.alloc (.cells #[.int .i64 (p : Int)] 3)).heap.size by simp) h9.size)
    replace K0 := K0.below h9 K0.lt
    replace KZ := KZ.below h9 KZ.lt
    replace KR := KR.below h9 KR.lt
    replace K8 := K8.below h9 K8.lt
    replace GB := GB.trans (h9.mono GB.size)
    clear h9
    clear zK00
    have K10 := Blk.new w3 26 #[.slice A3 n3 c3]
    replace K0 := K0.alloc (.cells #[.slice A3 n3 c3] 26)
    replace KZ := KZ.alloc (.cells #[.slice A3 n3 c3] 26)
    replace KR := KR.alloc (.cells #[.slice A3 n3 c3] 26)
    replace K8 := K8.alloc (.cells #[.slice A3 n3 c3] 26)
    replace GB := GB.alloc GB.size (.cells #[.slice A3 n3 c3] 26)
    have own4 := own3.alloc (.cells #[.slice A3 n3 c3] 26)
    clear own3
    have hs2 : w.heap.size + 1 + 1 < w2.heap.size := hkl
    go_upto_region 6 with fail
    obtain ⟨Y, hY⟩ : ∃ Y, w3.alloc (.cells #[.slice A3 n3 c3] 26) = Y := ⟨_, rfl⟩
    obtain ⟨g8, hg8⟩ : ∃ g, w2.heap.size = g := ⟨_, rfl⟩
    obtain ⟨g10, hg10⟩ : ∃ g, w3.heap.size = g := ⟨_, rfl⟩
    rw [hY] at K0 KZ KR K8 K10 GB own4 ⊢
    rw [hg8] at K8 hs2 ⊢
    rw [hg10] at K10 hs3 ⊢
    obtain ⟨ad, rfl, hadb, _⟩ := rn_at HG.out.row HX.out
    obtain ⟨ad2, e2, hb, c0, c1, c2, c3', c4⟩ := rn_at (HG.out.below GB).row HX.out
    injection e2 with e2
    subst e2
    have HKp : Hid (Keep9 [(⟨w.heap.size, 0, none⟩, .slice (some ad) n c), (⟨g8, 0, none⟩, .int .i64 (p : Int)), (⟨g10, 0, none⟩, .slice A3 n3 c3), (ad.add (p * 5), .int .i64 r1), (⟨(ad.add (p * 5)).block, (ad.add (p * 5)).off + 1, none⟩, .int .i64 r2), (⟨(ad.add (p * 5)).block, (ad.add (p * 5)).off + 2, none⟩, .int .u64 (r3 : Int)), (⟨(ad.add (p * 5)).block, (ad.add (p * 5)).off + 3, none⟩, .int .u64 (r4 : Int)), (⟨(ad.add (p * 5)).block, (ad.add (p * 5)).off + 4, none⟩, .int .u64 (r5 : Int))] Y) := Lib.hid (by
      intro q u hq
      simp only [List.mem_cons, List.not_mem_nil, or_false, Prod.mk.injEq] at hq
      rcases hq with ⟨rfl, rfl⟩ | ⟨rfl, rfl⟩ | ⟨rfl, rfl⟩ | ⟨rfl, rfl⟩ | ⟨rfl, rfl⟩ | ⟨rfl, rfl⟩ | ⟨rfl, rfl⟩ | ⟨rfl, rfl⟩
      · exact K0.cell 0
      · exact K8.cell 0
      · exact K10.cell 0
      · exact c0
      · exact c1
      · exact c2
      · exact c3'
      · exact c4)
    obtain ⟨LS, hLS⟩ : ∃ LS : List (Addr × Value), [(⟨w.heap.size, 0, none⟩, .slice (some ad) n c), (⟨g8, 0, none⟩, .int .i64 (p : Int)), (⟨g10, 0, none⟩, .slice A3 n3 c3), (ad.add (p * 5), .int .i64 r1), (⟨(ad.add (p * 5)).block, (ad.add (p * 5)).off + 1, none⟩, .int .i64 r2), (⟨(ad.add (p * 5)).block, (ad.add (p * 5)).off + 2, none⟩, .int .u64 (r3 : Int)), (⟨(ad.add (p * 5)).block, (ad.add (p * 5)).off + 3, none⟩, .int .u64 (r4 : Int)), (⟨(ad.add (p * 5)).block, (ad.add (p * 5)).off + 4, none⟩, .int .u64 (r5 : Int))] = LS := ⟨_, rfl⟩
    rw [hLS] at HKp
    have HLS := Lib.hid hLS
    have hne : ∀ q u, (q, u) ∈ LS → q.block ≠ w.heap.size + 1 ∧ q.block ≠ w.heap.size + 1 + 1 := by
      intro q u hq
      rw [← hLS] at hq
      simp only [List.mem_cons, List.not_mem_nil, or_false, Prod.mk.injEq] at hq
      rcases hq with ⟨rfl, rfl⟩ | ⟨rfl, rfl⟩ | ⟨rfl, rfl⟩ | ⟨rfl, rfl⟩ | ⟨rfl, rfl⟩ | ⟨rfl, rfl⟩ | ⟨rfl, rfl⟩ | ⟨rfl, rfl⟩ <;> simp only [block_of_add] <;> omega
    have HNe := Lib.hid hne
    have KP := HKp.out
    clear K0 K8 K10 c0 c1 c2 c3' c4 hLS hne HKp hb

    replace KZ : Blk Y.drew _ _ _ := KZ
    replace KR : Blk Y.drew _ _ _ := KR
    replace GB := GB.drew
    replace own4 : Y.drew.ownsRow _ _ _ _ _ _ := own4
    replace KP : Keep9 LS Y.drew := KP
    refine wp_region_held_drew (S := fun u => Keep9 LS u) (by kernel_rfl) KP (fun hS => ?_)
    generalize Y.drew = V at KZ KR GB own4 KP hS ⊢
    refine wpAnyH_take (i := 0) (v := .agg #[.slice A3 n3 c3]) rfl (by kernel_rfl) (by kernel_rfl) (by kernel_rfl) (fun _ _ _ h => h) (Or.inl ⟨by kernel_rfl, fun u hSw => (by have q0 := hSw ⟨g10, 0, none⟩ (.slice A3 n3 c3) (by rw [← HLS.out]; simp); go_simp)⟩) hS ?_
    change wpAnyH _ _ _ _ _ _ _ (Act.put _ (some 34) _) _
    simp only [Act.put]
    refine wpAnyH_take (i := 1) (v := .pointer (some ⟨w.heap.size, 0, none⟩)) rfl (by kernel_rfl) (by kernel_rfl) (by kernel_rfl) (fun _ _ _ h => h) (Or.inl ⟨by kernel_rfl, fun u hSw => (by go_simp)⟩) hS ?_
    change wpAnyH _ _ _ _ _ _ _ (Act.put _ (some 35) _) _
    simp only [Act.put]
    refine wpAnyH_take (i := 2) (v := .slice (some ad) n c) rfl (by kernel_rfl) (by kernel_rfl) (by kernel_rfl) (fun _ _ _ h => h) (Or.inl ⟨by kernel_rfl, fun u hSw => (by have q0 := hSw ⟨w.heap.size, 0, none⟩ (.slice (some ad) n c) (by rw [← HLS.out]; simp); go_simp)⟩) hS ?_
    change wpAnyH _ _ _ _ _ _ _ (Act.put _ (some 36) _) _
    simp only [Act.put]
    refine wpAnyH_take (i := 3) (v := .int .i64 (p : Int)) rfl (by kernel_rfl) (by kernel_rfl) (by kernel_rfl) (fun _ _ _ h => h) (Or.inl ⟨by kernel_rfl, fun u hSw => (by have q0 := hSw ⟨g8, 0, none⟩ (.int .i64 (p : Int)) (by rw [← HLS.out]; simp); go_simp)⟩) hS ?_
    change wpAnyH _ _ _ _ _ _ _ (Act.put _ (some 37) _) _
    simp only [Act.put]
    refine wpAnyH_take (i := 4) (v := .pointer (some (ad.add (p * 5)))) rfl (by kernel_rfl) (by kernel_rfl) (by kernel_rfl) (fun _ _ _ h => h) (Or.inl ⟨by kernel_rfl, fun u hSw => (by go_simp)⟩) hS ?_
    change wpAnyH _ _ _ _ _ _ _ (Act.put _ (some 38) _) _
    simp only [Act.put]
    refine wpAnyH_take (i := 5) (v := .agg #[.int .i64 r1, .int .i64 r2, .int .u64 (r3 : Int), .int .u64 (r4 : Int), .int .u64 (r5 : Int)]) rfl (by kernel_rfl) (by kernel_rfl) (by kernel_rfl) (fun _ _ _ h => h) (Or.inl ⟨by kernel_rfl, fun u hSw => (by have q0 := hSw (ad.add (p * 5)) (.int .i64 r1) (by rw [← HLS.out]; simp); have q1 := hSw ⟨(ad.add (p * 5)).block, (ad.add (p * 5)).off + 1, none⟩ (.int .i64 r2) (by rw [← HLS.out]; simp); have q2 := hSw ⟨(ad.add (p * 5)).block, (ad.add (p * 5)).off + 2, none⟩ (.int .u64 (r3 : Int)) (by rw [← HLS.out]; simp); have q3 := hSw ⟨(ad.add (p * 5)).block, (ad.add (p * 5)).off + 3, none⟩ (.int .u64 (r4 : Int)) (by rw [← HLS.out]; simp); have q4 := hSw ⟨(ad.add (p * 5)).block, (ad.add (p * 5)).off + 4, none⟩ (.int .u64 (r5 : Int)) (by rw [← HLS.out]; simp); go_simp)⟩) hS ?_
    change wpAnyH _ _ _ _ _ _ _ (Act.put _ (some 39) _) _
    simp only [Act.put]
    refine wpAnyH_take (i := 6) (v := .int .i64 0) rfl (by kernel_rfl) (by kernel_rfl) (by kernel_rfl) (fun _ _ _ h => h) (Or.inl ⟨by kernel_rfl, fun u hSw => (by go_simp)⟩) hS ?_
    change wpAnyH _ _ _ _ _ _ _ (Act.put _ (some 40) _) _
    simp only [Act.put]
    refine wpAnyH_ready (rs := [7]) (by kernel_rfl) (by simp) ?_
    refine AllReadyH.cons rfl (fun K hK => ?_) AllReadyH.nil
    have d0 := KZ.cell 0
    have f0 := KZ.frozen 0
    have HQ1 := put1 (x := .slice A3 n3 c3) KZ GB (by omega)
    replace KZ := HQ1.1
    replace GB := HQ1.2
    clear HQ1
    replace KR := KR.far (p := ⟨w.heap.size + 1, 0, none⟩) (by simp) (.slice A3 n3 c3)
    replace KP := KP.set (q := ⟨w.heap.size + 1, 0, none⟩) (fun q u hq => (HNe.out q u hq).1) (.slice A3 n3 c3)
    replace own4 := own_set own4 (g := w.heap.size + 1) (by omega) 0 (.slice A3 n3 c3)
    go_simp
    refine hK.out _ _ KP (fun hS => ?_)
    clear hK d0 f0
    refine wpAnyH_ready (rs := [8]) (by kernel_rfl) (by simp) ?_
    refine AllReadyH.cons rfl (fun K hK => ?_) AllReadyH.nil
    have d0 := KR.cell 0
    have f0 := KR.frozen 0
    have d1 := KR.cell 1
    have f1 := KR.frozen 1
    have d2 := KR.cell 2
    have f2 := KR.frozen 2
    have d3 := KR.cell 3
    have f3 := KR.frozen 3
    have d4 := KR.cell 4
    have f4 := KR.frozen 4
    have HR1 := put5 (x := .int .i64 r1) (y := .int .i64 r2) (z := .int .u64 (r3 : Int)) (p := .int .u64 (r4 : Int)) (q := .int .u64 (r5 : Int)) KR GB (by omega)
    replace KR := HR1.1
    replace GB := HR1.2
    clear HR1
    replace KZ := KZ.far (p := ⟨w.heap.size + 1 + 1, 0, none⟩) (by simp) (.int .i64 r1)
    replace KP := KP.set (q := ⟨w.heap.size + 1 + 1, 0, none⟩) (fun q u hq => (HNe.out q u hq).2) (.int .i64 r1)
    replace own4 := own_set own4 (g := w.heap.size + 1 + 1) (by omega) 0 (.int .i64 r1)
    replace KZ := KZ.far (p := ⟨w.heap.size + 1 + 1, 1, none⟩) (by simp) (.int .i64 r2)
    replace KP := KP.set (q := ⟨w.heap.size + 1 + 1, 1, none⟩) (fun q u hq => (HNe.out q u hq).2) (.int .i64 r2)
    replace own4 := own_set own4 (g := w.heap.size + 1 + 1) (by omega) 1 (.int .i64 r2)
    replace KZ := KZ.far (p := ⟨w.heap.size + 1 + 1, 2, none⟩) (by simp) (.int .u64 (r3 : Int))
    replace KP := KP.set (q := ⟨w.heap.size + 1 + 1, 2, none⟩) (fun q u hq => (HNe.out q u hq).2) (.int .u64 (r3 : Int))
    replace own4 := own_set own4 (g := w.heap.size + 1 + 1) (by omega) 2 (.int .u64 (r3 : Int))
    replace KZ := KZ.far (p := ⟨w.heap.size + 1 + 1, 3, none⟩) (by simp) (.int .u64 (r4 : Int))
    replace KP := KP.set (q := ⟨w.heap.size + 1 + 1, 3, none⟩) (fun q u hq => (HNe.out q u hq).2) (.int .u64 (r4 : Int))
    replace own4 := own_set own4 (g := w.heap.size + 1 + 1) (by omega) 3 (.int .u64 (r4 : Int))
    replace KZ := KZ.far (p := ⟨w.heap.size + 1 + 1, 4, none⟩) (by simp) (.int .u64 (r5 : Int))
    replace KP := KP.set (q := ⟨w.heap.size + 1 + 1, 4, none⟩) (fun q u hq => (HNe.out q u hq).2) (.int .u64 (r5 : Int))
    replace own4 := own_set own4 (g := w.heap.size + 1 + 1) (by omega) 4 (.int .u64 (r5 : Int))
    go_simp
    refine hK.out _ _ KP (fun hS => ?_)
    clear hK d0 f0 d1 f1 d2 f2 d3 f3 d4 f4
    refine wpAnyH_take (i := 9) (v := .int .i64 0) rfl (by kernel_rfl) (by kernel_rfl) (by kernel_rfl) (fun _ _ _ h => h) (Or.inl ⟨by kernel_rfl, fun u hSw => (by go_simp)⟩) hS ?_
    change wpAnyH _ _ _ _ _ _ _ (Act.put _ (some 6) _) _
    simp only [Act.put]
    refine wpAnyH_done (by kernel_rfl) ?_ _
    clear hS
    go_simp
    have HP := Lib.hid (And.intro KZ (And.intro KR GB))
    have HO := Lib.hid (And.intro hl3 (own_down own4 (Nat.le_of_lt (show w.heap.size < _ by omega))))
    clear KZ KR GB own4 hl3 KP
    go_wp2_with fail
    exact bodyPost_ret (v := .tuple #[.agg #[.slice A3 n3 c3], .agg #[.int .i64 r1, .int .i64 r2, .int .u64 (r3 : Int), .int .u64 (r4 : Int), .int .u64 (r5 : Int)], .int .i64 0]) (results_two Try.results24 _ _ _ _ _ _ _ _ _ _ rfl HP.out.1 Try.underlying26 rfl (by kernel_rfl) rfl HP.out.2.1 Try.underlying40 rfl (by kernel_rfl)) rfl ⟨_, _, _, rfl, HO.out.1, HO.out.2, HP.out.2.2⟩
  · rw [if_neg hz]
    obtain ⟨E, hE⟩ : ∃ E, unfoundQ qs true [i] = E := ⟨_, rfl⟩
    rw [hE] at HUn hz ⊢
    have e0 : (E != 0) = true := by simpa using hz
    clear hE hz hG
    go_enter Try.func24, Try.ntmps24
    have zK00 := K0.cell 0
    go_wp2_with fail
    refine (HUn.out _ GB _ _ HIr.out).mono ?_
    rintro e w1 ⟨rfl, h9⟩
    replace K0 := K0.below h9 K0.lt
    replace KZ := KZ.below h9 KZ.lt
    replace KR := KR.below h9 KR.lt
    replace GB := GB.trans (h9.mono GB.size)
    clear h9 HIr HUn K0
    clear zK00
    have d0 := KZ.cell 0
    have f0 := KZ.frozen 0
    have e1 := KR.cell 0
    have g1 := KR.frozen 0
    have e2 := KR.cell 1
    have g2 := KR.frozen 1
    have e3 := KR.cell 2
    have g3 := KR.frozen 2
    have e4 := KR.cell 3
    have g4 := KR.frozen 3
    have e5 := KR.cell 4
    have g5 := KR.frozen 4
    have HQ1 := put1 (x := .slice none 0 0) KZ GB (by omega)
    have KR1 := KR.far (p := ⟨w.heap.size + 1, 0, none⟩) (by simp) (.slice none 0 0)
    have HR1 := put5 (x := .int .i64 0) (y := .int .i64 0) (z := .int .u64 0) (p := .int .u64 0) (q := .int .u64 0) KR1 HQ1.2 (by omega)
    have K1 := ((((HQ1.1.far (p := ⟨w.heap.size + 1 + 1, 0, none⟩) (by simp) (.int .i64 0)).far (p := ⟨w.heap.size + 1 + 1, 1, none⟩) (by simp) (.int .i64 0)).far (p := ⟨w.heap.size + 1 + 1, 2, none⟩) (by simp) (.int .u64 0)).far (p := ⟨w.heap.size + 1 + 1, 3, none⟩) (by simp) (.int .u64 0)).far (p := ⟨w.heap.size + 1 + 1, 4, none⟩) (by simp) (.int .u64 0)
    have HP := Lib.hid (And.intro K1 (And.intro HR1.1 HR1.2))
    have HO : Hid (([] : List Rn).length = 0 ∧ ∀ u : World, u.ownsRow w.heap.size 40 5 (.slice none 0 0) 0 (flat rv [])) := Lib.hid ⟨rfl, fun u => World.ownsRow_nil _ _ _ _⟩
    clear HQ1 KR1 HR1 K1 KZ KR GB
    go_wp2_with fail
    exact bodyPost_ret (v := .tuple #[.agg #[.slice none 0 0], .agg #[.int .i64 0, .int .i64 0, .int .u64 0, .int .u64 0, .int .u64 0], .int .i64 E]) (results_two Try.results24 _ _ _ _ _ _ _ _ _ _ rfl HP.out.1 Try.underlying26 rfl (by kernel_rfl) rfl HP.out.2.1 Try.underlying40 rfl (by kernel_rfl)) rfl ⟨_, _, _, rfl, HO.out.1, HO.out.2 _, HP.out.2.2⟩
end Go.Proofs.Ytfgabmelmopgdaa
