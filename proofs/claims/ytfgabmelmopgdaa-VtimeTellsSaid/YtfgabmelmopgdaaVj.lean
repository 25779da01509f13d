/-
  The landed vtime: changedEach, Run, Weigh. No statement is proved here.
-/
import Derived.Test.YtfgabmelmopgdaaVi
namespace Go.Proofs.Ytfgabmelmopgdaa
open Go.RowKit

/-- a queue of its own, and an error -/
def GivesQ (r : List Rn × Int) (w : World) (e : Ending) (w' : World) : Prop :=
  ∃ A n c, e = .returned (.tuple #[.agg #[.slice A n c], .int .i64 r.2]) ∧ r.1.length = n ∧ w'.ownsRow w.heap.size 40 5 (.slice A n c) n (flat rv r.1) ∧ Below w.heap.size w w'
def eachS (S : Rn → Rn × Int) (qs : List Rn) (fits : Bool) (is : List Int) : List Rn × Int :=
  if unfoundQ qs fits is = 0 then (match eachF (optS S) qs is with | some m => (m, 0) | none => ([], 131)) else ([], unfoundQ qs fits is)
theorem unfound_zero {qs : List Rn} {fits : Bool} {is : List Int} (h : unfoundQ qs fits is = 0) : RQ qs ∧ fits = true ∧ riseI 0 is = true ∧ ∀ i ∈ is, (kf qs i).isSome = true := by
  unfold unfoundQ at h
  split at h
  · cases h
  · rename_i h1
    split at h
    · cases h
    · rename_i h2
      split at h
      · rename_i h3
        have h1' : rightQ qs = true := by cases e : rightQ qs <;> simp [e] at h1 ⊢
        have h2' : (fits && riseI 0 is) = true := by cases e : (fits && riseI 0 is) <;> simp [e] at h2 ⊢
        rw [Bool.and_eq_true] at h2'
        exact ⟨rightQ_iff.1 h1', h2'.1, h2'.2, fun i hi => List.all_eq_true.1 h3 i hi⟩
      · cases h
theorem blkQ {w : World} {t t2 t3 t4 : TypeId} (a b c d : Array Value) : Blk ((((w.alloc (.cells a t)).alloc (.cells b t2)).alloc (.cells c t3)).alloc (.cells d t4)) w.heap.size t a := (((Blk.new w t a).alloc _).alloc _).alloc _

set_option maxRecDepth 100000 in
set_option maxHeartbeats 8000000 in
theorem changedeachRun_any (A : Option Addr) (n c : Nat) (qs : List Rn) (fits : Bool) (A2 : Option Addr) (n2 c2 : Nat) (is : List Int) (q1 : Value) (S : Rn → Rn × Int) (w : World) (hG : QR w A n c qs) (hI : IR w A2 n2 is) (hS : fits = true → Good S)
    (hdo : fits = true → ∀ u, Below w.heap.size w u → StepOk 61 [q1] S u) :
    Calls Try.prog 59 #[.agg #[.slice A n c], .bool fits, .slice A2 n2 c2, .func (.func 61) #[] #[q1]] w (GivesQ (eachS S qs fits is) w) := by
  have HUn := Lib.hid (fun (u : World) (h : Below w.heap.size w u) => unfound_any A n c qs fits A2 n2 c2 is u (hG.below h) (hI.below h))
  obtain ⟨K0, K1, K2, K, GB⟩ := blks4 w 26 54 100 26 #[.slice A n c] #[.slice A2 n2 c2] #[.func (.func 61) #[] #[q1]] #[.slice none 0 0]
  have HG := Lib.hid hG
  have HI := Lib.hid hI
  have HD := Lib.hid hdo
  unfold eachS
  by_cases he : unfoundQ qs fits is = 0
  · have hz := unfound_zero he
    have HZ := Lib.hid hz
    have HSg := Lib.hid (hS hz.2.1)
    rw [if_pos he]
    obtain ⟨E, hE⟩ : ∃ E, unfoundQ qs fits is = E := ⟨_, rfl⟩
    rw [hE] at HUn
    have e0 : (E != 0) = false := by rw [← hE, he]; rfl
    have HCh := Lib.hid (fun (w1 : World) (GB : Below w.heap.size w w1) (K1 : Blk w1 (w.heap.size + 1) 54 #[.slice A2 n2 c2]) (K2 : Blk w1 (w.heap.size + 1 + 1) 100 #[.func (.func 61) #[] #[q1]]) => changedEach_any A n c qs (.pointer (some ⟨w.heap.size + 1, 0, none⟩)) (.pointer (some ⟨w.heap.size + 1 + 1, 0, none⟩)) none (match eachF (optS S) qs is with | some m => (m, 0) | none => ([], 131)) (fun _ => True) w1 (HG.out.below GB) (fun g hg => by cases hg) (fun h => by
      cases hh : eachF (optS S) qs is with
      | some m => rw [hh] at h; exact (h rfl).elim
      | none => rfl) (fun _ _ _ _ _ _ _ => trivial)
      (eachRun_any (w.heap.size + 1) (w.heap.size + 1 + 1) q1 A2 n2 c2 is S qs w1 (HI.out.below GB) K1.lt K2.lt (K1.cell 0) (K2.cell 0) HSg.out HZ.out.1 HG.out.ur HZ.out.2.2.2 (HD.out HZ.out.2.1 w1 GB)))
    obtain ⟨RR, hRR⟩ : ∃ RR : List Rn × Int, (match eachF (optS S) qs is with | some m => (m, 0) | none => ([], 131)) = RR := ⟨_, rfl⟩
    rw [hRR] at HCh ⊢
    clear hRR he hE hz hG hI hS hdo
    go_enter Try.func59, Try.ntmps59
    have zK00 := K0.cell 0
    have zK10 := K1.cell 0
    go_wp2_with fail
    refine (HUn.out _ GB).mono ?_
    rintro e w1 ⟨rfl, h9⟩
    replace K0 := K0.below h9 K0.lt
    replace K1 := K1.below h9 K1.lt
    replace K2 := K2.below h9 K2.lt
    replace K := K.below h9 K.lt
    replace GB := GB.trans (h9.mono GB.size)
    clear h9
    clear zK00 zK10
    have HCx := Lib.hid (HCh.out _ GB K1 K2)
    have hw1 : w.heap.size + 1 + 1 + 1 < w1.heap.size := K.lt
    clear K1 K2
    have zK00 := K0.cell 0
    go_wp2_with fail
    refine HCx.out.mono ?_
    rintro r w2 hd
    obtain ⟨A3, n3, c3, rfl, hl3, own3⟩ := hd.out
    have h9 : Below w1.heap.size w1 w2 := hd.but.below (Nat.le_refl _) (fun g hg => by cases hg)
    replace K0 := K0.below h9 K0.lt
    replace K := K.below h9 K.lt
    replace GB := GB.trans (h9.mono GB.size)
    clear h9 hd K0
    clear zK00
    have d0 := K.cell 0
    have f0 := K.frozen 0
    have HP := Lib.hid (put1 (x := .slice A3 n3 c3) K GB (by omega))
    clear K GB
    have HO := Lib.hid (And.intro hl3 (own_down (own_set own3 (g := w.heap.size + 1 + 1 + 1) hw1 0 (.slice A3 n3 c3)) (show w.heap.size ≤ w1.heap.size by omega)))
    clear hl3 own3 hw1
    go_wp2_with fail
    exact bodyPost_ret (v := .tuple #[.agg #[.slice A3 n3 c3], .int .i64 RR.2]) (results_cell_row_tmp Try.results59 _ _ _ _ _ _ rfl HP.out.1 Try.underlying26 rfl (by kernel_rfl)) rfl ⟨_, _, _, rfl, HO.out.1, HO.out.2, HP.out.2⟩
  · rw [if_neg he]
    obtain ⟨E, hE⟩ : ∃ E, unfoundQ qs fits is = E := ⟨_, rfl⟩
    rw [hE] at HUn he ⊢
    have e0 : (E != 0) = true := by simpa using he
    clear he hE hG hI hS hdo HD HI HG
    go_enter Try.func59, Try.ntmps59
    have zK00 := K0.cell 0
    have zK10 := K1.cell 0
    go_wp2_with fail
    refine (HUn.out _ GB).mono ?_
    rintro e w1 ⟨rfl, h9⟩
    replace K0 := K0.below h9 K0.lt
    replace K1 := K1.below h9 K1.lt
    replace K2 := K2.below h9 K2.lt
    replace K := K.below h9 K.lt
    replace GB := GB.trans (h9.mono GB.size)
    clear h9
    clear zK00 zK10
    clear K0 K1 K2
    have d0 := K.cell 0
    have f0 := K.frozen 0
    have HP := Lib.hid (put1 (x := .slice none 0 0) K GB (by omega))
    clear K GB
    have HO : Hid (([] : List Rn).length = 0 ∧ (w1.setCell ⟨w.heap.size + 1 + 1 + 1, 0, none⟩ (.slice none 0 0)).ownsRow w.heap.size 40 5 (.slice none 0 0) 0 (flat rv [])) := Lib.hid ⟨rfl, World.ownsRow_nil _ _ _ _⟩
    go_wp2_with fail
    exact bodyPost_ret (v := .tuple #[.agg #[.slice none 0 0], .int .i64 E]) (results_cell_row_tmp Try.results59 _ _ _ _ _ _ rfl HP.out.1 Try.underlying26 rfl (by kernel_rfl)) rfl ⟨_, _, _, rfl, HO.out.1, HO.out.2, HP.out.2⟩

set_option maxRecDepth 100000 in
set_option maxHeartbeats 8000000 in
theorem changedeachWeigh_any (A : Option Addr) (n c : Nat) (qs : List Rn) (fits : Bool) (A2 : Option Addr) (n2 c2 : Nat) (is : List Int) (q1 q2 : Value) (S : Rn → Rn × Int) (w : World) (hG : QR w A n c qs) (hI : IR w A2 n2 is) (hS : fits = true → Good S)
    (hdo : fits = true → ∀ u, Below w.heap.size w u → StepOk 66 [q1, q2] S u) :
    Calls Try.prog 59 #[.agg #[.slice A n c], .bool fits, .slice A2 n2 c2, .func (.func 66) #[] #[q1, q2]] w (GivesQ (eachS S qs fits is) w) := by
  have HUn := Lib.hid (fun (u : World) (h : Below w.heap.size w u) => unfound_any A n c qs fits A2 n2 c2 is u (hG.below h) (hI.below h))
  obtain ⟨K0, K1, K2, K, GB⟩ := blks4 w 26 54 100 26 #[.slice A n c] #[.slice A2 n2 c2] #[.func (.func 66) #[] #[q1, q2]] #[.slice none 0 0]
  have HG := Lib.hid hG
  have HI := Lib.hid hI
  have HD := Lib.hid hdo
  unfold eachS
  by_cases he : unfoundQ qs fits is = 0
  · have hz := unfound_zero he
    have HZ := Lib.hid hz
    have HSg := Lib.hid (hS hz.2.1)
    rw [if_pos he]
    obtain ⟨E, hE⟩ : ∃ E, unfoundQ qs fits is = E := ⟨_, rfl⟩
    rw [hE] at HUn
    have e0 : (E != 0) = false := by rw [← hE, he]; rfl
    have HCh := Lib.hid (fun (w1 : World) (GB : Below w.heap.size w w1) (K1 : Blk w1 (w.heap.size + 1) 54 #[.slice A2 n2 c2]) (K2 : Blk w1 (w.heap.size + 1 + 1) 100 #[.func (.func 66) #[] #[q1, q2]]) => changedEach_any A n c qs (.pointer (some ⟨w.heap.size + 1, 0, none⟩)) (.pointer (some ⟨w.heap.size + 1 + 1, 0, none⟩)) none (match eachF (optS S) qs is with | some m => (m, 0) | none => ([], 131)) (fun _ => True) w1 (HG.out.below GB) (fun g hg => by cases hg) (fun h => by
      cases hh : eachF (optS S) qs is with
      | some m => rw [hh] at h; exact (h rfl).elim
      | none => rfl) (fun _ _ _ _ _ _ _ => trivial)
      (eachWeigh_any (w.heap.size + 1) (w.heap.size + 1 + 1) q1 q2 A2 n2 c2 is S qs w1 (HI.out.below GB) K1.lt K2.lt (K1.cell 0) (K2.cell 0) HSg.out HZ.out.1 HG.out.ur HZ.out.2.2.2 (HD.out HZ.out.2.1 w1 GB)))
    obtain ⟨RR, hRR⟩ : ∃ RR : List Rn × Int, (match eachF (optS S) qs is with | some m => (m, 0) | none => ([], 131)) = RR := ⟨_, rfl⟩
    rw [hRR] at HCh ⊢
    clear hRR he hE hz hG hI hS hdo
    go_enter Try.func59, Try.ntmps59
    have zK00 := K0.cell 0
    have zK10 := K1.cell 0
    go_wp2_with fail
    refine (HUn.out _ GB).mono ?_
    rintro e w1 ⟨rfl, h9⟩
    replace K0 := K0.below h9 K0.lt
    replace K1 := K1.below h9 K1.lt
    replace K2 := K2.below h9 K2.lt
    replace K := K.below h9 K.lt
    replace GB := GB.trans (h9.mono GB.size)
    clear h9
    clear zK00 zK10
    have HCx := Lib.hid (HCh.out _ GB K1 K2)
    have hw1 : w.heap.size + 1 + 1 + 1 < w1.heap.size := K.lt
    clear K1 K2
    have zK00 := K0.cell 0
    go_wp2_with fail
    refine HCx.out.mono ?_
    rintro r w2 hd
    obtain ⟨A3, n3, c3, rfl, hl3, own3⟩ := hd.out
    have h9 : Below w1.heap.size w1 w2 := hd.but.below (Nat.le_refl _) (fun g hg => by cases hg)
    replace K0 := K0.below h9 K0.lt
    replace K := K.below h9 K.lt
    replace GB := GB.trans (h9.mono GB.size)
    clear h9 hd K0
    clear zK00
    have d0 := K.cell 0
    have f0 := K.frozen 0
    have HP := Lib.hid (put1 (x := .slice A3 n3 c3) K GB (by omega))
    clear K GB
    have HO := Lib.hid (And.intro hl3 (own_down (own_set own3 (g := w.heap.size + 1 + 1 + 1) hw1 0 (.slice A3 n3 c3)) (show w.heap.size ≤ w1.heap.size by omega)))
    clear hl3 own3 hw1
    go_wp2_with fail
    exact bodyPost_ret (v := .tuple #[.agg #[.slice A3 n3 c3], .int .i64 RR.2]) (results_cell_row_tmp Try.results59 _ _ _ _ _ _ rfl HP.out.1 Try.underlying26 rfl (by kernel_rfl)) rfl ⟨_, _, _, rfl, HO.out.1, HO.out.2, HP.out.2⟩
  · rw [if_neg he]
    obtain ⟨E, hE⟩ : ∃ E, unfoundQ qs fits is = E := ⟨_, rfl⟩
    rw [hE] at HUn he ⊢
    have e0 : (E != 0) = true := by simpa using he
    clear he hE hG hI hS hdo HD HI HG
    go_enter Try.func59, Try.ntmps59
    have zK00 := K0.cell 0
    have zK10 := K1.cell 0
    go_wp2_with fail
    refine (HUn.out _ GB).mono ?_
    rintro e w1 ⟨rfl, h9⟩
    replace K0 := K0.below h9 K0.lt
    replace K1 := K1.below h9 K1.lt
    replace K2 := K2.below h9 K2.lt
    replace K := K.below h9 K.lt
    replace GB := GB.trans (h9.mono GB.size)
    clear h9
    clear zK00 zK10
    clear K0 K1 K2
    have d0 := K.cell 0
    have f0 := K.frozen 0
    have HP := Lib.hid (put1 (x := .slice none 0 0) K GB (by omega))
    clear K GB
    have HO : Hid (([] : List Rn).length = 0 ∧ (w1.setCell ⟨w.heap.size + 1 + 1 + 1, 0, none⟩ (.slice none 0 0)).ownsRow w.heap.size 40 5 (.slice none 0 0) 0 (flat rv [])) := Lib.hid ⟨rfl, World.ownsRow_nil _ _ _ _⟩
    go_wp2_with fail
    exact bodyPost_ret (v := .tuple #[.agg #[.slice none 0 0], .int .i64 E]) (results_cell_row_tmp Try.results59 _ _ _ _ _ _ rfl HP.out.1 Try.underlying26 rfl (by kernel_rfl)) rfl ⟨_, _, _, rfl, HO.out.1, HO.out.2, HP.out.2⟩

def runQS (qs : List Rn) (is : List Int) (dt : Int) : List Rn × Int := eachS (runS dt.toNat) qs (inB dt 0 10000000) is

set_option maxRecDepth 100000 in
set_option maxHeartbeats 8000000 in
theorem run_any (A : Option Addr) (n c : Nat) (qs : List Rn) (A2 : Option Addr) (n2 c2 : Nat) (is : List Int) (dt : Int) (w : World) (hG : QR w A n c qs) (hI : IR w A2 n2 is) :
    Calls Try.prog 28 #[.agg #[.slice A n c], .slice A2 n2 c2, .int .i64 dt] w (GivesQ (runQS qs is dt) w) := by
  have HIn := Lib.hid (fun (u : World) => inlong_any dt 0 10000000 u)
  have HCh : Hid (∀ (u : World), Below w.heap.size w u → Blk u (w.heap.size + 1) 2 #[.int .i64 dt] → Calls Try.prog 59 #[.agg #[.slice A n c], .bool (inB dt 0 10000000), .slice A2 n2 c2, .func (.func 61) #[] #[.pointer (some ⟨w.heap.size + 1, 0, none⟩)]] u (GivesQ (runQS qs is dt) u)) := Lib.hid (fun u h KD =>
    changedeachRun_any A n c qs (inB dt 0 10000000) A2 n2 c2 is _ (runS dt.toNat) u (hG.below h) (hI.below h) (fun _ => run_good) (fun hf v hv => by
      unfold inB at hf
      simp only [Bool.and_eq_true, decide_eq_true_eq] at hf
      have hd : dt = ((dt.toNat : Nat) : Int) := by omega
      have hc := (hv.cell (p := ⟨w.heap.size + 1, 0, none⟩) KD.lt).trans (KD.cell 0)
      exact run_step (w.heap.size + 1) dt.toNat v (by rw [← hd]; exact hc) (Nat.lt_of_lt_of_le KD.lt hv.size) (by omega)))
  obtain ⟨bb, hbb⟩ : ∃ b, inB dt 0 10000000 = b := ⟨_, rfl⟩
  rw [hbb] at HIn HCh
  obtain ⟨⟨L, E⟩, hR⟩ : ∃ R, runQS qs is dt = R := ⟨_, rfl⟩
  rw [hR] at HCh ⊢
  obtain ⟨KQ, KD, KX, GB⟩ := blks3 w 26 2 26 #[.slice A n c] #[.int .i64 dt] #[.slice none 0 0]
  have hz : w.heap.size + 1 + 1 + 1 ≤ (((w.alloc (.cells #[.slice A n c] 26)).alloc (.cells #[.int .i64 dt] 2)).alloc (.cells #[.slice none 0 0] 26)).heap.size := by simp
  clear hbb hR hG hI
  go_enter Try.func28, Try.ntmps28
  go_upto_region 1 with fail
  generalize ((w.alloc (.cells #[.slice A n c] 26)).alloc (.cells #[.int .i64 dt] 2)).alloc (.cells #[.slice none 0 0] 26) = W2 at KQ KD KX GB hz ⊢
  replace KQ : Blk W2.drew _ _ _ := KQ
  replace KD : Blk W2.drew _ _ _ := KD
  replace KX : Blk W2.drew _ _ _ := KX
  replace GB := GB.drew
  replace hz : w.heap.size + 1 + 1 + 1 ≤ W2.drew.heap.size := hz
  refine wp_region_held_drew (S := fun u => Below w.heap.size w u ∧ Blk u w.heap.size 26 #[.slice A n c] ∧ Blk u (w.heap.size + 1) 2 #[.int .i64 dt]) (by kernel_rfl) ⟨GB, KQ, KD⟩ (fun hS => ?_)
  generalize W2.drew = V at KQ KD KX GB hz hS ⊢
  refine wpAnyH_take (i := 0) (v := .agg #[.slice A n c]) rfl (by kernel_rfl) (by kernel_rfl) (by kernel_rfl) (fun _ _ _ h => h) (Or.inl ⟨by kernel_rfl, fun u hSw => (by have q0 := hSw.2.1.cell 0; go_simp)⟩) hS ?_
  change wpAnyH _ _ _ _ _ _ _ (Act.put _ (some 8) _) _
  simp only [Act.put]
  refine wpAnyH_take (i := 1) (v := .int .i64 dt) rfl (by kernel_rfl) (by kernel_rfl) (by kernel_rfl) (fun _ _ _ h => h) (Or.inl ⟨by kernel_rfl, fun u hSw => (by have q0 := hSw.2.2.cell 0; go_simp)⟩) hS ?_
  change wpAnyH _ _ _ _ _ _ _ (Act.put _ (some 9) _) _
  simp only [Act.put]
  refine wpAnyH_take (i := 3) (v := .slice A2 n2 c2) rfl (by kernel_rfl) (by kernel_rfl) (by kernel_rfl) (fun _ _ _ h => h) (Or.inl ⟨by kernel_rfl, fun u hSw => (by go_simp)⟩) hS ?_
  change wpAnyH _ _ _ _ _ _ _ (Act.put _ (some 11) _) _
  simp only [Act.put]
  refine wpAnyH_take (i := 4) (v := .func (.func 61) #[] #[.pointer (some ⟨w.heap.size + 1, 0, none⟩)]) rfl (by kernel_rfl) (by kernel_rfl) (by kernel_rfl) (fun _ _ _ h => h) (Or.inl ⟨by kernel_rfl, fun u hSw => (by go_simp)⟩) hS ?_
  change wpAnyH _ _ _ _ _ _ _ (Act.put _ (some 12) _) _
  simp only [Act.put]
  refine wpAnyH_ready (rs := [2]) (by kernel_rfl) (by simp) ?_
  refine AllReadyH.cons rfl (fun K hK => ?_) AllReadyH.nil
  go_simp
  refine (HIn.out _).mono ?_
  rintro e1 w1 ⟨rfl, rfl⟩
  refine hK.out _ _ ⟨GB, KQ, KD⟩ (fun hS => ?_)
  clear hK K
  refine wpAnyH_ready (rs := [5]) (by kernel_rfl) (by simp) ?_
  refine AllReadyH.cons rfl (fun K hK => ?_) AllReadyH.nil
  go_simp
  refine (HCh.out _ GB KD).mono ?_
  rintro e2 w2 ⟨A3, n3, c3, rfl, hl3, own3, h9⟩
  replace own3 := own_down own3 hz
  replace KQ := KQ.below h9 KQ.lt
  replace KD := KD.below h9 KD.lt
  replace KX := KX.below h9 KX.lt
  replace GB := GB.trans (h9.mono GB.size)
  clear h9
  refine hK.out _ _ ⟨GB, KQ, KD⟩ (fun hS => ?_)
  clear hK K
  refine wpAnyH_take (i := 6) (v := .agg #[.slice A3 n3 c3]) rfl (by kernel_rfl) (by kernel_rfl) (by kernel_rfl) (fun _ _ _ h => h) (Or.inl ⟨by kernel_rfl, fun u hSw => (by go_simp)⟩) hS ?_
  change wpAnyH _ _ _ _ _ _ _ (Act.put _ (some 14) _) _
  simp only [Act.put]
  refine wpAnyH_take (i := 7) (v := .int .i64 E) rfl (by kernel_rfl) (by kernel_rfl) (by kernel_rfl) (fun _ _ _ h => h) (Or.inl ⟨by kernel_rfl, fun u hSw => (by go_simp)⟩) hS ?_
  change wpAnyH _ _ _ _ _ _ _ (Act.put _ (some 15) _) _
  simp only [Act.put]
  refine wpAnyH_ready (rs := [8]) (by kernel_rfl) (by simp) ?_
  refine AllReadyH.cons rfl (fun K hK => ?_) AllReadyH.nil
  have d0 := KX.cell 0
  have f0 := KX.frozen 0
  have HP := put1 (x := .slice A3 n3 c3) KX GB (by omega)
  have KQ2 := KQ.far (p := ⟨w.heap.size + 1 + 1, 0, none⟩) (by simp <;> omega) (.slice A3 n3 c3)
  have KD2 := KD.far (p := ⟨w.heap.size + 1 + 1, 0, none⟩) (by simp) (.slice A3 n3 c3)
  have own4 := own_set own3 (g := w.heap.size + 1 + 1) (by omega) 0 (.slice A3 n3 c3)
  go_simp
  refine hK.out _ _ ⟨HP.2, KQ2, KD2⟩ (fun hS => ?_)
  clear hK K d0 f0 KX GB KD KQ own3
  refine wpAnyH_take (i := 9) (v := .int .i64 E) rfl (by kernel_rfl) (by kernel_rfl) (by kernel_rfl) (fun _ _ _ h => h) (Or.inl ⟨by kernel_rfl, fun u hSw => (by go_simp)⟩) hS ?_
  change wpAnyH _ _ _ _ _ _ _ (Act.put _ (some 7) _) _
  simp only [Act.put]
  refine wpAnyH_done (by kernel_rfl) ?_ _
  clear hS
  go_simp
  have HE := Lib.hid (And.intro HP (And.intro own4 hl3))
  clear HP own4 hl3 KD2 KQ2
  go_wp2_with fail
  exact bodyPost_ret (v := .tuple #[.agg #[.slice A3 n3 c3], .int .i64 E]) (results_cell_row_tmp Try.results28 _ _ _ _ _ _ rfl HE.out.1.1 Try.underlying26 rfl (by kernel_rfl)) rfl ⟨_, _, _, rfl, HE.out.2.2, own_down HE.out.2.1 (by omega), HE.out.1.2⟩

end Go.Proofs.Ytfgabmelmopgdaa
