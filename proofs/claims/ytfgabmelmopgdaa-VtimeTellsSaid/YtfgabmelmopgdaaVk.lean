/-
  The landed vtime: Weigh, added, Join. No statement is proved here.
-/
import Derived.Test.YtfgabmelmopgdaaVj
namespace Go.Proofs.Ytfgabmelmopgdaa
open Go.RowKit

def weighQS (qs : List Rn) (is : List Int) (x : Nat) (each : Int) : List Rn × Int := eachS (weighS x each) qs (inB (x : Int) 1 65535 && inB each 1 8) is

set_option maxRecDepth 100000 in
set_option maxHeartbeats 8000000 in
theorem weigh_any (A : Option Addr) (n c : Nat) (qs : List Rn) (A2 : Option Addr) (n2 c2 : Nat) (is : List Int) (x : Nat) (each : Int) (w : World) (hG : QR w A n c qs) (hI : IR w A2 n2 is) (hx : x < 2 ^ 64) :
    Calls Try.prog 30 #[.agg #[.slice A n c], .slice A2 n2 c2, .int .u64 (x : Int), .int .i64 each] w (GivesQ (weighQS qs is x each) w) := by
  have HIx := Lib.hid (fun (u : World) => inword_any (x : Int) 1 65535 u)
  have HIe := Lib.hid (fun (u : World) => inint_any each 1 8 u)
  have HCh : Hid (∀ (u : World), Below w.heap.size w u → Blk u (w.heap.size + 1) 32 #[.int .u64 (x : Int)] → Blk u (w.heap.size + 1 + 1) 3 #[.int .i64 each] → Calls Try.prog 59 #[.agg #[.slice A n c], .bool (inB (x : Int) 1 65535 && inB each 1 8), .slice A2 n2 c2, .func (.func 66) #[] #[.pointer (some ⟨w.heap.size + 1 + 1, 0, none⟩), .pointer (some ⟨w.heap.size + 1, 0, none⟩)]] u (GivesQ (weighQS qs is x each) u)) := Lib.hid (fun u h KX KE =>
    changedeachWeigh_any A n c qs (inB (x : Int) 1 65535 && inB each 1 8) A2 n2 c2 is _ _ (weighS x each) u (hG.below h) (hI.below h) (fun hf => by
      unfold inB at hf
      simp only [Bool.and_eq_true, decide_eq_true_eq] at hf
      exact weigh_good (by omega) (by omega)) (fun _ v hv =>
      weigh_step (w.heap.size + 1 + 1) (w.heap.size + 1) x each v ((hv.cell (p := ⟨w.heap.size + 1 + 1, 0, none⟩) KE.lt).trans (KE.cell 0)) ((hv.cell (p := ⟨w.heap.size + 1, 0, none⟩) KX.lt).trans (KX.cell 0)) (Nat.lt_of_lt_of_le KE.lt hv.size) (Nat.lt_of_lt_of_le KX.lt hv.size) hx))
  obtain ⟨b1, hb1⟩ : ∃ b, inB (x : Int) 1 65535 = b := ⟨_, rfl⟩
  obtain ⟨b2, hb2⟩ : ∃ b, inB each 1 8 = b := ⟨_, rfl⟩
  rw [hb1] at HIx HCh
  rw [hb2] at HIe HCh
  obtain ⟨⟨L, E⟩, hR⟩ : ∃ R, weighQS qs is x each = R := ⟨_, rfl⟩
  rw [hR] at HCh ⊢
  obtain ⟨K0, K1, K2, K, GB⟩ := blks4 w 26 32 3 26 #[.slice A n c] #[.int .u64 (x : Int)] #[.int .i64 each] #[.slice none 0 0]
  clear hb1 hb2 hR hG hI hx
  cases b1 with
  | false =>
    go_enter Try.func30, Try.ntmps30
    have zK00 := K0.cell 0
    have zK10 := K1.cell 0
    have zK20 := K2.cell 0
    go_wp2_with fail
    refine (HIx.out _).mono ?_
    rintro r w1 ⟨rfl, rfl⟩
    go_wp2_with fail
    refine (HCh.out _ GB K1 K2).mono ?_
    rintro r w2 ⟨A3, n3, c3, rfl, hl3, own3, h9⟩
    clear zK00 zK10 zK20
    have hw1 : w.heap.size + 1 + 1 + 1 < (((((w.alloc (.cells #[.slice A n c] 26)).alloc (.cells #[.int .u64 (x : Int)] 32)).alloc (.cells #[.int .i64 each] 3)).alloc (.cells #[.slice none 0 0] 26)).heap.size) := K.lt
    replace K0 := K0.below h9 K0.lt
    replace K1 := K1.below h9 K1.lt
    replace K2 := K2.below h9 K2.lt
    replace K := K.below h9 K.lt
    replace GB := GB.trans (h9.mono GB.size)
    clear h9 K0 K1 K2
    have d0 := K.cell 0
    have f0 := K.frozen 0
    have HP := Lib.hid (put1 (x := .slice A3 n3 c3) K GB (by omega))
    clear K GB
    have HO := Lib.hid (And.intro hl3 (own_down (own_set own3 (g := w.heap.size + 1 + 1 + 1) hw1 0 (.slice A3 n3 c3)) (show w.heap.size ≤ _ from Nat.le_of_lt (by omega))))
    clear hl3 own3 hw1
    go_wp2_with fail
    exact bodyPost_ret (v := .tuple #[.agg #[.slice A3 n3 c3], .int .i64 E]) (results_cell_row_tmp Try.results30 _ _ _ _ _ _ rfl HP.out.1 Try.underlying26 rfl (by kernel_rfl)) rfl ⟨_, _, _, rfl, HO.out.1, HO.out.2, HP.out.2⟩
  | true =>
    go_enter Try.func30, Try.ntmps30
    have zK00 := K0.cell 0
    have zK10 := K1.cell 0
    have zK20 := K2.cell 0
    go_wp2_with fail
    refine (HIx.out _).mono ?_
    rintro r w1 ⟨rfl, rfl⟩
    go_wp2_with fail
    refine (HIe.out _).mono ?_
    rintro r w1 ⟨rfl, rfl⟩
    go_wp2_with fail
    refine (HCh.out _ GB K1 K2).mono ?_
    rintro r w2 ⟨A3, n3, c3, rfl, hl3, own3, h9⟩
    clear zK00 zK10 zK20
    have hw1 : w.heap.size + 1 + 1 + 1 < (((((w.alloc (.cells #[.slice A n c] 26)).alloc (.cells #[.int .u64 (x : Int)] 32)).alloc (.cells #[.int .i64 each] 3)).alloc (.cells #[.slice none 0 0] 26)).heap.size) := K.lt
    replace K0 := K0.below h9 K0.lt
    replace K1 := K1.below h9 K1.lt
    replace K2 := K2.below h9 K2.lt
    replace K := K.below h9 K.lt
    replace GB := GB.trans (h9.mono GB.size)
    clear h9 K0 K1 K2
    have d0 := K.cell 0
    have f0 := K.frozen 0
    have HP := Lib.hid (put1 (x := .slice A3 n3 c3) K GB (by omega))
    clear K GB
    have HO := Lib.hid (And.intro hl3 (own_down (own_set own3 (g := w.heap.size + 1 + 1 + 1) hw1 0 (.slice A3 n3 c3)) (show w.heap.size ≤ _ from Nat.le_of_lt (by omega))))
    clear hl3 own3 hw1
    go_wp2_with fail
    exact bodyPost_ret (v := .tuple #[.agg #[.slice A3 n3 c3], .int .i64 E]) (results_cell_row_tmp Try.results30 _ _ _ _ _ _ rfl HP.out.1 Try.underlying26 rfl (by kernel_rfl)) rfl ⟨_, _, _, rfl, HO.out.1, HO.out.2, HP.out.2⟩

def addQ (qs : List Rn) (fits : Bool) (r : Rn) (boost : Nat) : List Rn × Int :=
  if unfitQ qs (fits && rightR r) = 0 then (if (kf qs r.1).isSome = true then ([], 5) else addedQ qs r boost) else ([], unfitQ qs (fits && rightR r))

set_option maxRecDepth 100000 in
set_option maxHeartbeats 8000000 in
theorem added_any (jq jr jb : Nat) (A : Option Addr) (n c : Nat) (qs : List Rn) (fits : Bool) (boost : Nat) (i e : Int) (h l x : Nat) (w : World) (hG : QR w A n c qs) (hu : UR (i, e, h, l, x)) (hb : fits = true → boost ≤ 10000000)
    (KJq : Blk w jq 26 #[.slice A n c]) (KJr : Blk w jr 40 #[.int .i64 i, .int .i64 e, .int .u64 (h : Int), .int .u64 (l : Int), .int .u64 (x : Int)]) (KJb : Blk w jb 32 #[.int .u64 (boost : Int)]) :
    Calls Try.prog 46 #[.agg #[.slice A n c], .bool fits, .agg #[.int .i64 i, .int .i64 e, .int .u64 (h : Int), .int .u64 (l : Int), .int .u64 (x : Int)], .func (.func 47) #[] #[.pointer (some ⟨jq, 0, none⟩), .pointer (some ⟨jr, 0, none⟩), .pointer (some ⟨jb, 0, none⟩)]] w (GivesQ (addQ qs fits (i, e, h, l, x) boost) w) := by
  obtain ⟨K0, K1, K2, KZ, GB⟩ := blks4 w 26 40 86 26 #[.slice A n c] #[.int .i64 i, .int .i64 e, .int .u64 (h : Int), .int .u64 (l : Int), .int .u64 (x : Int)] #[.func (.func 47) #[] #[.pointer (some ⟨jq, 0, none⟩), .pointer (some ⟨jr, 0, none⟩), .pointer (some ⟨jb, 0, none⟩)]] #[.slice none 0 0]
  have HCr := Lib.hid (fun (u : World) => checkr_any i e h l x u hu)
  have HG := Lib.hid hG
  obtain ⟨CR, hCR⟩ : ∃ k, chkR (i, e, h, l, x) = k := ⟨_, rfl⟩
  obtain ⟨rb, hrb⟩ : ∃ b, rightR (i, e, h, l, x) = b := ⟨_, rfl⟩
  have HRb : Hid ((CR == 0) = rb) := Lib.hid (by
    rw [← hCR]
    unfold chkR
    rw [hrb]
    cases rb <;> rfl)
  rw [hCR] at HCr
  have HUn := Lib.hid (fun (u : World) (hB : Below w.heap.size w u) => unfit_any A n c qs (fits && rb) u (hG.below hB))
  unfold addQ
  rw [hrb]
  obtain ⟨E, hE⟩ : ∃ E, unfitQ qs (fits && rb) = E := ⟨_, rfl⟩
  rw [hE] at HUn ⊢
  by_cases he : E = 0
  · have hz : rightQ qs = true ∧ (fits && rb) = true := by
      rw [← hE] at he
      unfold unfitQ at he
      cases h1 : rightQ qs <;> cases h2 : (fits && rb) <;> simp [h1, h2] at he ⊢
    have hR := rightQ_iff.1 hz.1
    rw [Bool.and_eq_true] at hz
    obtain ⟨en, hen⟩ : ∃ en : Nat, e = (en : Int) := ⟨e.toNat, by have := (rightR_iff.1 (hrb.trans hz.2.2)).2.1; have h2 : 1 ≤ e ∧ e ≤ 8 := this; omega⟩
    subst hen
    rw [if_pos he]
    have e0 : (E != 0) = false := by rw [he]; rfl
    have hf := hz.2.1
    have hr := hrb.trans hz.2.2
    subst hf
    have HFi := Lib.hid (fun (u : World) (hB : Below w.heap.size w u) => find_any A n c qs i u (HG.out.below hB).row hR.rise HG.out.small)
    cases hs : (kf qs i).isSome with
    | true =>
      rw [hs] at HFi
      rw [if_pos rfl]
      clear hs hz hR hE he hCR hrb hG hb KJq KJr KJb hr hu
      go_enter Try.func46, Try.ntmps46
      go_upto_region 1 with fail
      generalize ((((w.alloc (.cells #[.slice A n c] 26)).alloc (.cells #[.int .i64 i, .int .i64 (en : Int), .int .u64 (h : Int), .int .u64 (l : Int), .int .u64 (x : Int)] 40)).alloc (.cells #[.func (.func 47) #[] #[.pointer (some ⟨jq, 0, none⟩), .pointer (some ⟨jr, 0, none⟩), .pointer (some ⟨jb, 0, none⟩)]] 86)).alloc (.cells #[.slice none 0 0] 26)) = W2 at K0 K1 K2 KZ GB ⊢
      replace K0 : Blk W2.drew _ _ _ := K0
      replace K1 : Blk W2.drew _ _ _ := K1
      replace K2 : Blk W2.drew _ _ _ := K2
      replace KZ : Blk W2.drew _ _ _ := KZ
      replace GB := GB.drew
      refine wp_region_held_drew (S := fun u => Below w.heap.size w u ∧ Blk u w.heap.size 26 #[.slice A n c] ∧ Blk u (w.heap.size + 1) 40 #[.int .i64 i, .int .i64 (en : Int), .int .u64 (h : Int), .int .u64 (l : Int), .int .u64 (x : Int)]) (by kernel_rfl) ⟨GB, K0, K1⟩ (fun hS => ?_)
      generalize W2.drew = V at K0 K1 K2 KZ GB hS ⊢
      refine wpAnyH_take (i := 0) (v := .agg #[.slice A n c]) rfl (by kernel_rfl) (by kernel_rfl) (by kernel_rfl) (fun _ _ _ h => h) (Or.inl ⟨by kernel_rfl, fun u hSw => (by have q0 := hSw.2.1.cell 0; go_simp)⟩) hS ?_
      change wpAnyH _ _ _ _ _ _ _ (Act.put _ (some 13) _) _
      simp only [Act.put]
      refine wpAnyH_take (i := 1) (v := .bool true) rfl (by kernel_rfl) (by kernel_rfl) (by kernel_rfl) (fun _ _ _ h => h) (Or.inl ⟨by kernel_rfl, fun u hSw => (by go_simp)⟩) hS ?_
      change wpAnyH _ _ _ _ _ _ _ (Act.put _ (some 14) _) _
      simp only [Act.put]
      refine wpAnyH_take (i := 2) (v := .bool true) rfl (by kernel_rfl) (by kernel_rfl) (by kernel_rfl) (fun _ _ _ h => h) (Or.inl ⟨by kernel_rfl, fun u hSw => (by go_simp)⟩) hS ?_
      change wpAnyH _ _ _ _ _ _ _ (Act.put _ (some 15) _) _
      simp only [Act.put]
      refine wpAnyH_take (i := 3) (v := .agg #[.int .i64 i, .int .i64 (en : Int), .int .u64 (h : Int), .int .u64 (l : Int), .int .u64 (x : Int)]) rfl (by kernel_rfl) (by kernel_rfl) (by kernel_rfl) (fun _ _ _ h => h) (Or.inl ⟨by kernel_rfl, fun u hSw => (by have q0 := hSw.2.2.cell 0; have q1 := hSw.2.2.cell 1; have q2 := hSw.2.2.cell 2; have q3 := hSw.2.2.cell 3; have q4 := hSw.2.2.cell 4; go_simp)⟩) hS ?_
      change wpAnyH _ _ _ _ _ _ _ (Act.put _ (some 16) _) _
      simp only [Act.put]
      refine wpAnyH_ready (rs := [4]) (by kernel_rfl) (by simp) ?_
      refine AllReadyH.cons rfl (fun K hK => ?_) AllReadyH.nil
      go_simp
      refine (HCr.out _).mono ?_
      rintro e1 w1 ⟨rfl, h9⟩
      replace K0 := K0.below h9 K0.lt
      replace K1 := K1.below h9 K1.lt
      replace K2 := K2.below h9 K2.lt
      replace KZ := KZ.below h9 KZ.lt
      replace GB := GB.trans (h9.mono GB.size)
      clear h9
      refine hK.out _ _ ⟨GB, K0, K1⟩ (fun hS => ?_)
      clear hK
      refine wpAnyH_take (i := 5) (v := .bool rb) rfl (by kernel_rfl) (by kernel_rfl) (by kernel_rfl) (fun _ _ _ h => h) (Or.inl ⟨by kernel_rfl, fun u hSw => (by go_simp; exact HRb.out)⟩) hS ?_
      change wpAnyH _ _ _ _ _ _ _ (Act.put _ (some 18) _) _
      simp only [Act.put]
      refine wpAnyH_take (i := 6) (v := .bool rb) rfl (by kernel_rfl) (by kernel_rfl) (by kernel_rfl) (fun _ _ _ h => h) (Or.inl ⟨by kernel_rfl, fun u hSw => (by go_simp)⟩) hS ?_
      change wpAnyH _ _ _ _ _ _ _ (Act.put _ (some 19) _) _
      simp only [Act.put]
      refine wpAnyH_ready (rs := [7]) (by kernel_rfl) (by simp) ?_
      refine AllReadyH.cons rfl (fun K hK => ?_) AllReadyH.nil
      go_simp
      refine (HUn.out _ GB).mono ?_
      rintro e2 w2 ⟨rfl, h9⟩
      replace K0 := K0.below h9 K0.lt
      replace K1 := K1.below h9 K1.lt
      replace K2 := K2.below h9 K2.lt
      replace KZ := KZ.below h9 KZ.lt
      replace GB := GB.trans (h9.mono GB.size)
      clear h9
      refine hK.out _ _ ⟨GB, K0, K1⟩ (fun hS => ?_)
      clear hK
      refine wpAnyH_take (i := 8) (v := .int .i64 E) rfl (by kernel_rfl) (by kernel_rfl) (by kernel_rfl) (fun _ _ _ h => h) (Or.inl ⟨by kernel_rfl, fun u hSw => (by go_simp)⟩) hS ?_
      change wpAnyH _ _ _ _ _ _ _ (Act.put _ (some 10) _) _
      simp only [Act.put]
      refine wpAnyH_done (by kernel_rfl) ?_ _
      clear hS
      go_simp
      have zK00 := K0.cell 0
      have zK10 := K1.cell 0
      go_wp2_with fail
      refine (HFi.out _ GB).mono ?_
      rintro e w9 ⟨rfl, h9⟩
      replace K0 := K0.below h9 K0.lt
      replace K1 := K1.below h9 K1.lt
      replace K2 := K2.below h9 K2.lt
      replace KZ := KZ.below h9 KZ.lt
      replace GB := GB.trans (h9.mono GB.size)
      clear h9
      clear zK00 zK10
      have hz9 := KZ.lt
      have K11 := Blk.new w9 3 #[.int .i64 ((low qs i : Nat) : Int)]
      replace K0 := K0.alloc (.cells #[.int .i64 ((low qs i : Nat) : Int)] 3)
      replace K1 := K1.alloc (.cells #[.int .i64 ((low qs i : Nat) : Int)] 3)
      replace K2 := K2.alloc (.cells #[.int .i64 ((low qs i : Nat) : Int)] 3)
      replace KZ := KZ.alloc (.cells #[.int .i64 ((low qs i : Nat) : Int)] 3)
      replace GB := GB.alloc GB.size (.cells #[.int .i64 ((low qs i : Nat) : Int)] 3)
      clear K0 K1 K2 K11 hz9
      have d0 := KZ.cell 0
      have f0 := KZ.frozen 0
      have HP := Lib.hid (put1 (x := .slice none 0 0) KZ GB (by omega))
      clear KZ GB
      go_wp2_with fail
      exact bodyPost_ret (v := .tuple #[.agg #[.slice none 0 0], .int .i64 5]) (results_cell_row_tmp Try.results46 _ _ _ _ _ _ rfl HP.out.1 Try.underlying26 rfl (by kernel_rfl)) rfl ⟨_, _, _, rfl, rfl, World.ownsRow_nil _ _ _ _, HP.out.2⟩
    | false =>
      rw [hs] at HFi
      rw [if_neg (by decide)]
      have HAd := Lib.hid (fun (u : World) (hB : Below w.heap.size w u) (gp : Nat) (K0 : Blk u w.heap.size 26 #[.slice A n c]) (K1 : Blk u (w.heap.size + 1) 40 #[.int .i64 i, .int .i64 (en : Int), .int .u64 (h : Int), .int .u64 (l : Int), .int .u64 (x : Int)]) (K2 : Blk u (w.heap.size + 1 + 1) 86 #[.func (.func 47) #[] #[.pointer (some ⟨jq, 0, none⟩), .pointer (some ⟨jr, 0, none⟩), .pointer (some ⟨jb, 0, none⟩)]]) (Kp : Blk u gp 3 #[.int .i64 ((low qs i : Nat) : Int)]) (hgp : gp ≠ w.heap.size + 1) =>
        changedAdd_any A n c qs (.pointer (some ⟨w.heap.size + 1, 0, none⟩)) (.pointer (some ⟨w.heap.size, 0, none⟩)) (.pointer (some ⟨w.heap.size + 1 + 1, 0, none⟩)) (.pointer (some ⟨gp, 0, none⟩)) (some (w.heap.size + 1)) (addedQ qs (i, (en : Int), h, l, x) boost) (fun _ => True) u (HG.out.below hB) (fun g hg => by cases hg; exact K1.lt) (fun h0 => by
          unfold addedQ at h0 ⊢
          split at h0
          · exact (h0 rfl).elim
          · rename_i hq
            rw [if_neg hq]
            split at h0
            · exact (h0 rfl).elim
            · rename_i hq2
              rw [if_neg hq2]) (fun _ _ _ _ _ _ _ => trivial)
          (addeddo_any (w.heap.size + 1) w.heap.size (w.heap.size + 1 + 1) gp jq jr jb A n c qs boost en h l x i u (HG.out.below hB) hR hr hu (hb rfl) K1.lt K0.lt K2.lt Kp.lt (Nat.lt_of_lt_of_le KJq.lt hB.size) (Nat.lt_of_lt_of_le KJr.lt hB.size) (Nat.lt_of_lt_of_le KJb.lt hB.size) hgp K1 (KJr.below hB KJr.lt) (K0.cell 0) ((KJq.below hB KJq.lt).cell 0) ((KJb.below hB KJb.lt).cell 0) (K2.cell 0) (Kp.cell 0)))
      obtain ⟨⟨L, E2⟩, hRR⟩ : ∃ R, addedQ qs (i, (en : Int), h, l, x) boost = R := ⟨_, rfl⟩
      rw [hRR] at HAd ⊢
      clear hRR hs hz hE he hCR hrb hG hb KJq KJr KJb hr hu hR
      go_enter Try.func46, Try.ntmps46
      go_upto_region 1 with fail
      generalize ((((w.alloc (.cells #[.slice A n c] 26)).alloc (.cells #[.int .i64 i, .int .i64 (en : Int), .int .u64 (h : Int), .int .u64 (l : Int), .int .u64 (x : Int)] 40)).alloc (.cells #[.func (.func 47) #[] #[.pointer (some ⟨jq, 0, none⟩), .pointer (some ⟨jr, 0, none⟩), .pointer (some ⟨jb, 0, none⟩)]] 86)).alloc (.cells #[.slice none 0 0] 26)) = W2 at K0 K1 K2 KZ GB ⊢
      replace K0 : Blk W2.drew _ _ _ := K0
      replace K1 : Blk W2.drew _ _ _ := K1
      replace K2 : Blk W2.drew _ _ _ := K2
      replace KZ : Blk W2.drew _ _ _ := KZ
      replace GB := GB.drew
      refine wp_region_held_drew (S := fun u => Below w.heap.size w u ∧ Blk u w.heap.size 26 #[.slice A n c] ∧ Blk u (w.heap.size + 1) 40 #[.int .i64 i, .int .i64 (en : Int), .int .u64 (h : Int), .int .u64 (l : Int), .int .u64 (x : Int)]) (by kernel_rfl) ⟨GB, K0, K1⟩ (fun hS => ?_)
      generalize W2.drew = V at K0 K1 K2 KZ GB hS ⊢
      refine wpAnyH_take (i := 0) (v := .agg #[.slice A n c]) rfl (by kernel_rfl) (by kernel_rfl) (by kernel_rfl) (fun _ _ _ h => h) (Or.inl ⟨by kernel_rfl, fun u hSw => (by have q0 := hSw.2.1.cell 0; go_simp)⟩) hS ?_
      change wpAnyH _ _ _ _ _ _ _ (Act.put _ (some 13) _) _
      simp only [Act.put]
      refine wpAnyH_take (i := 1) (v := .bool true) rfl (by kernel_rfl) (by kernel_rfl) (by kernel_rfl) (fun _ _ _ h => h) (Or.inl ⟨by kernel_rfl, fun u hSw => (by go_simp)⟩) hS ?_
      change wpAnyH _ _ _ _ _ _ _ (Act.put _ (some 14) _) _
      simp only [Act.put]
      refine wpAnyH_take (i := 2) (v := .bool true) rfl (by kernel_rfl) (by kernel_rfl) (by kernel_rfl) (fun _ _ _ h => h) (Or.inl ⟨by kernel_rfl, fun u hSw => (by go_simp)⟩) hS ?_
      change wpAnyH _ _ _ _ _ _ _ (Act.put _ (some 15) _) _
      simp only [Act.put]
      refine wpAnyH_take (i := 3) (v := .agg #[.int .i64 i, .int .i64 (en : Int), .int .u64 (h : Int), .int .u64 (l : Int), .int .u64 (x : Int)]) rfl (by kernel_rfl) (by kernel_rfl) (by kernel_rfl) (fun _ _ _ h => h) (Or.inl ⟨by kernel_rfl, fun u hSw => (by have q0 := hSw.2.2.cell 0; have q1 := hSw.2.2.cell 1; have q2 := hSw.2.2.cell 2; have q3 := hSw.2.2.cell 3; have q4 := hSw.2.2.cell 4; go_simp)⟩) hS ?_
      change wpAnyH _ _ _ _ _ _ _ (Act.put _ (some 16) _) _
      simp only [Act.put]
      refine wpAnyH_ready (rs := [4]) (by kernel_rfl) (by simp) ?_
      refine AllReadyH.cons rfl (fun K hK => ?_) AllReadyH.nil
      go_simp
      refine (HCr.out _).mono ?_
      rintro e1 w1 ⟨rfl, h9⟩
      replace K0 := K0.below h9 K0.lt
      replace K1 := K1.below h9 K1.lt
      replace K2 := K2.below h9 K2.lt
      replace KZ := KZ.below h9 KZ.lt
      replace GB := GB.trans (h9.mono GB.size)
      clear h9
      refine hK.out _ _ ⟨GB, K0, K1⟩ (fun hS => ?_)
      clear hK
      refine wpAnyH_take (i := 5) (v := .bool rb) rfl (by kernel_rfl) (by kernel_rfl) (by kernel_rfl) (fun _ _ _ h => h) (Or.inl ⟨by kernel_rfl, fun u hSw => (by go_simp; exact HRb.out)⟩) hS ?_
      change wpAnyH _ _ _ _ _ _ _ (Act.put _ (some 18) _) _
      simp only [Act.put]
      refine wpAnyH_take (i := 6) (v := .bool rb) rfl (by kernel_rfl) (by kernel_rfl) (by kernel_rfl) (fun _ _ _ h => h) (Or.inl ⟨by kernel_rfl, fun u hSw => (by go_simp)⟩) hS ?_
      change wpAnyH _ _ _ _ _ _ _ (Act.put _ (some 19) _) _
      simp only [Act.put]
      refine wpAnyH_ready (rs := [7]) (by kernel_rfl) (by simp) ?_
      refine AllReadyH.cons rfl (fun K hK => ?_) AllReadyH.nil
      go_simp
      refine (HUn.out _ GB).mono ?_
      rintro e2 w2 ⟨rfl, h9⟩
      replace K0 := K0.below h9 K0.lt
      replace K1 := K1.below h9 K1.lt
      replace K2 := K2.below h9 K2.lt
      replace KZ := KZ.below h9 KZ.lt
      replace GB := GB.trans (h9.mono GB.size)
      clear h9
      refine hK.out _ _ ⟨GB, K0, K1⟩ (fun hS => ?_)
      clear hK
      refine wpAnyH_take (i := 8) (v := .int .i64 E) rfl (by kernel_rfl) (by kernel_rfl) (by kernel_rfl) (fun _ _ _ h => h) (Or.inl ⟨by kernel_rfl, fun u hSw => (by go_simp)⟩) hS ?_
      change wpAnyH _ _ _ _ _ _ _ (Act.put _ (some 10) _) _
      simp only [Act.put]
      refine wpAnyH_done (by kernel_rfl) ?_ _
      clear hS
      go_simp
      have zK00 := K0.cell 0
      have zK10 := K1.cell 0
      go_wp2_with fail
      refine (HFi.out _ GB).mono ?_
      rintro e w9 ⟨rfl, h9⟩
      replace K0 := K0.below h9 K0.lt
      replace K1 := K1.below h9 K1.lt
      replace K2 := K2.below h9 K2.lt
      replace KZ := KZ.below h9 KZ.lt
      replace GB := GB.trans (h9.mono GB.size)
      clear h9
      clear zK00 zK10
      have hz9 := KZ.lt
      have K11 := Blk.new w9 3 #[.int .i64 ((low qs i : Nat) : Int)]
      replace K0 := K0.alloc (.cells #[.int .i64 ((low qs i : Nat) : Int)] 3)
      replace K1 := K1.alloc (.cells #[.int .i64 ((low qs i : Nat) : Int)] 3)
      replace K2 := K2.alloc (.cells #[.int .i64 ((low qs i : Nat) : Int)] 3)
      replace KZ := KZ.alloc (.cells #[.int .i64 ((low qs i : Nat) : Int)] 3)
      replace GB := GB.alloc GB.size (.cells #[.int .i64 ((low qs i : Nat) : Int)] 3)
      have hgp : w9.heap.size ≠ w.heap.size + 1 := by omega
      have HCx := Lib.hid (HAd.out _ GB _ K0 K1 K2 K11 hgp)
      have hw1 : w.heap.size + 1 + 1 + 1 < (w9.alloc (.cells #[.int .i64 ((low qs i : Nat) : Int)] 3)).heap.size := KZ.lt
      clear K1 K2 K11 hz9
      have zK00 := K0.cell 0
      go_wp2_with fail
      refine HCx.out.mono ?_
      rintro r w10 hd
      obtain ⟨A3, n3, c3, rfl, hl3, own3⟩ := hd.out
      have h9 : Below w.heap.size _ w10 := hd.but.below (Nat.le_of_lt (by omega)) (fun g hg => by cases hg; omega)
      replace KZ := hd.but.blk KZ hw1 (fun hg => by injection hg with hg; omega)
      replace GB := GB.trans h9
      clear h9 hd K0
      clear zK00
      have d0 := KZ.cell 0
      have f0 := KZ.frozen 0
      have HP := Lib.hid (put1 (x := .slice A3 n3 c3) KZ GB (by omega))
      clear KZ GB
      have HO := Lib.hid (And.intro hl3 (own_down (own_set own3 (g := w.heap.size + 1 + 1 + 1) hw1 0 (.slice A3 n3 c3)) (show w.heap.size ≤ _ from Nat.le_of_lt (by omega))))
      clear hl3 own3 hw1
      go_wp2_with fail
      exact bodyPost_ret (v := .tuple #[.agg #[.slice A3 n3 c3], .int .i64 E2]) (results_cell_row_tmp Try.results46 _ _ _ _ _ _ rfl HP.out.1 Try.underlying26 rfl (by kernel_rfl)) rfl ⟨_, _, _, rfl, HO.out.1, HO.out.2, HP.out.2⟩
  · rw [if_neg he]
    have e0 : (E != 0) = true := by simpa using he
    clear hE he hCR hG hb KJq KJr KJb hu HG
    cases fits with
    | false =>
      go_enter Try.func46, Try.ntmps46
      go_upto_region 1 with fail
      generalize ((((w.alloc (.cells #[.slice A n c] 26)).alloc (.cells #[.int .i64 i, .int .i64 e, .int .u64 (h : Int), .int .u64 (l : Int), .int .u64 (x : Int)] 40)).alloc (.cells #[.func (.func 47) #[] #[.pointer (some ⟨jq, 0, none⟩), .pointer (some ⟨jr, 0, none⟩), .pointer (some ⟨jb, 0, none⟩)]] 86)).alloc (.cells #[.slice none 0 0] 26)) = W2 at K0 K1 K2 KZ GB ⊢
      replace K0 : Blk W2.drew _ _ _ := K0
      replace K1 : Blk W2.drew _ _ _ := K1
      replace K2 : Blk W2.drew _ _ _ := K2
      replace KZ : Blk W2.drew _ _ _ := KZ
      replace GB := GB.drew
      refine wp_region_held_drew (S := fun u => Below w.heap.size w u ∧ Blk u w.heap.size 26 #[.slice A n c] ∧ Blk u (w.heap.size + 1) 40 #[.int .i64 i, .int .i64 e, .int .u64 (h : Int), .int .u64 (l : Int), .int .u64 (x : Int)]) (by kernel_rfl) ⟨GB, K0, K1⟩ (fun hS => ?_)
      generalize W2.drew = V at K0 K1 K2 KZ GB hS ⊢
      refine wpAnyH_take (i := 0) (v := .agg #[.slice A n c]) rfl (by kernel_rfl) (by kernel_rfl) (by kernel_rfl) (fun _ _ _ h => h) (Or.inl ⟨by kernel_rfl, fun u hSw => (by have q0 := hSw.2.1.cell 0; go_simp)⟩) hS ?_
      change wpAnyH _ _ _ _ _ _ _ (Act.put _ (some 13) _) _
      simp only [Act.put]
      refine wpAnyH_take (i := 1) (v := .bool false) rfl (by kernel_rfl) (by kernel_rfl) (by kernel_rfl) (fun _ _ _ h => h) (Or.inl ⟨by kernel_rfl, fun u hSw => (by go_simp)⟩) hS ?_
      change wpAnyH _ _ _ _ _ _ _ (Act.put _ (some 14) _) _
      simp only [Act.put]
      refine wpAnyH_take (i := 2) (v := .bool false) rfl (by kernel_rfl) (by kernel_rfl) (by kernel_rfl) (fun _ _ _ h => h) (Or.inl ⟨by kernel_rfl, fun u hSw => (by go_simp)⟩) hS ?_
      change wpAnyH _ _ _ _ _ _ _ (Act.put _ (some 15) _) _
      simp only [Act.put]
      refine wpAnyH_take (i := 3) (v := undef) rfl (by kernel_rfl) (by kernel_rfl) (by kernel_rfl) (fun _ _ _ h => h) (Or.inr ⟨by kernel_rfl, rfl⟩) hS ?_
      change wpAnyH _ _ _ _ _ _ _ (Act.put _ (some 16) _) _
      simp only [Act.put]
      refine wpAnyH_take (i := 4) (v := undef) rfl (by kernel_rfl) (by kernel_rfl) (by kernel_rfl) (fun _ _ _ h => h) (Or.inr ⟨by kernel_rfl, rfl⟩) hS ?_
      change wpAnyH _ _ _ _ _ _ _ (Act.put _ (some 17) _) _
      simp only [Act.put]
      refine wpAnyH_take (i := 5) (v := undef) rfl (by kernel_rfl) (by kernel_rfl) (by kernel_rfl) (fun _ _ _ h => h) (Or.inr ⟨by kernel_rfl, rfl⟩) hS ?_
      change wpAnyH _ _ _ _ _ _ _ (Act.put _ (some 18) _) _
      simp only [Act.put]
      refine wpAnyH_take (i := 6) (v := .bool false) rfl (by kernel_rfl) (by kernel_rfl) (by kernel_rfl) (fun _ _ _ h => h) (Or.inl ⟨by kernel_rfl, fun u hSw => (by go_simp)⟩) hS ?_
      change wpAnyH _ _ _ _ _ _ _ (Act.put _ (some 19) _) _
      simp only [Act.put]
      refine wpAnyH_ready (rs := [7]) (by kernel_rfl) (by simp) ?_
      refine AllReadyH.cons rfl (fun K hK => ?_) AllReadyH.nil
      go_simp
      refine (HUn.out _ GB).mono ?_
      rintro e1 w1 ⟨rfl, h9⟩
      replace K0 := K0.below h9 K0.lt
      replace K1 := K1.below h9 K1.lt
      replace K2 := K2.below h9 K2.lt
      replace KZ := KZ.below h9 KZ.lt
      replace GB := GB.trans (h9.mono GB.size)
      clear h9
      refine hK.out _ _ ⟨GB, K0, K1⟩ (fun hS => ?_)
      clear hK
      refine wpAnyH_take (i := 8) (v := .int .i64 E) rfl (by kernel_rfl) (by kernel_rfl) (by kernel_rfl) (fun _ _ _ h => h) (Or.inl ⟨by kernel_rfl, fun u hSw => (by go_simp)⟩) hS ?_
      change wpAnyH _ _ _ _ _ _ _ (Act.put _ (some 10) _) _
      simp only [Act.put]
      refine wpAnyH_done (by kernel_rfl) ?_ _
      clear hS
      go_simp
      clear K0 K1 K2
      have d0 := KZ.cell 0
      have f0 := KZ.frozen 0
      have HP := Lib.hid (put1 (x := .slice none 0 0) KZ GB (by omega))
      clear KZ GB
      go_wp2_with fail
      exact bodyPost_ret (v := .tuple #[.agg #[.slice none 0 0], .int .i64 E]) (results_cell_row_tmp Try.results46 _ _ _ _ _ _ rfl HP.out.1 Try.underlying26 rfl (by kernel_rfl)) rfl ⟨_, _, _, rfl, rfl, World.ownsRow_nil _ _ _ _, HP.out.2⟩
    | true =>
      go_enter Try.func46, Try.ntmps46
      go_upto_region 1 with fail
      generalize ((((w.alloc (.cells #[.slice A n c] 26)).alloc (.cells #[.int .i64 i, .int .i64 e, .int .u64 (h : Int), .int .u64 (l : Int), .int .u64 (x : Int)] 40)).alloc (.cells #[.func (.func 47) #[] #[.pointer (some ⟨jq, 0, none⟩), .pointer (some ⟨jr, 0, none⟩), .pointer (some ⟨jb, 0, none⟩)]] 86)).alloc (.cells #[.slice none 0 0] 26)) = W2 at K0 K1 K2 KZ GB ⊢
      replace K0 : Blk W2.drew _ _ _ := K0
      replace K1 : Blk W2.drew _ _ _ := K1
      replace K2 : Blk W2.drew _ _ _ := K2
      replace KZ : Blk W2.drew _ _ _ := KZ
      replace GB := GB.drew
      refine wp_region_held_drew (S := fun u => Below w.heap.size w u ∧ Blk u w.heap.size 26 #[.slice A n c] ∧ Blk u (w.heap.size + 1) 40 #[.int .i64 i, .int .i64 e, .int .u64 (h : Int), .int .u64 (l : Int), .int .u64 (x : Int)]) (by kernel_rfl) ⟨GB, K0, K1⟩ (fun hS => ?_)
      generalize W2.drew = V at K0 K1 K2 KZ GB hS ⊢
      refine wpAnyH_take (i := 0) (v := .agg #[.slice A n c]) rfl (by kernel_rfl) (by kernel_rfl) (by kernel_rfl) (fun _ _ _ h => h) (Or.inl ⟨by kernel_rfl, fun u hSw => (by have q0 := hSw.2.1.cell 0; go_simp)⟩) hS ?_
      change wpAnyH _ _ _ _ _ _ _ (Act.put _ (some 13) _) _
      simp only [Act.put]
      refine wpAnyH_take (i := 1) (v := .bool true) rfl (by kernel_rfl) (by kernel_rfl) (by kernel_rfl) (fun _ _ _ h => h) (Or.inl ⟨by kernel_rfl, fun u hSw => (by go_simp)⟩) hS ?_
      change wpAnyH _ _ _ _ _ _ _ (Act.put _ (some 14) _) _
      simp only [Act.put]
      refine wpAnyH_take (i := 2) (v := .bool true) rfl (by kernel_rfl) (by kernel_rfl) (by kernel_rfl) (fun _ _ _ h => h) (Or.inl ⟨by kernel_rfl, fun u hSw => (by go_simp)⟩) hS ?_
      change wpAnyH _ _ _ _ _ _ _ (Act.put _ (some 15) _) _
      simp only [Act.put]
      refine wpAnyH_take (i := 3) (v := .agg #[.int .i64 i, .int .i64 e, .int .u64 (h : Int), .int .u64 (l : Int), .int .u64 (x : Int)]) rfl (by kernel_rfl) (by kernel_rfl) (by kernel_rfl) (fun _ _ _ h => h) (Or.inl ⟨by kernel_rfl, fun u hSw => (by have q0 := hSw.2.2.cell 0; have q1 := hSw.2.2.cell 1; have q2 := hSw.2.2.cell 2; have q3 := hSw.2.2.cell 3; have q4 := hSw.2.2.cell 4; go_simp)⟩) hS ?_
      change wpAnyH _ _ _ _ _ _ _ (Act.put _ (some 16) _) _
      simp only [Act.put]
      refine wpAnyH_ready (rs := [4]) (by kernel_rfl) (by simp) ?_
      refine AllReadyH.cons rfl (fun K hK => ?_) AllReadyH.nil
      go_simp
      refine (HCr.out _).mono ?_
      rintro e1 w1 ⟨rfl, h9⟩
      replace K0 := K0.below h9 K0.lt
      replace K1 := K1.below h9 K1.lt
      replace K2 := K2.below h9 K2.lt
      replace KZ := KZ.below h9 KZ.lt
      replace GB := GB.trans (h9.mono GB.size)
      clear h9
      refine hK.out _ _ ⟨GB, K0, K1⟩ (fun hS => ?_)
      clear hK
      refine wpAnyH_take (i := 5) (v := .bool rb) rfl (by kernel_rfl) (by kernel_rfl) (by kernel_rfl) (fun _ _ _ h => h) (Or.inl ⟨by kernel_rfl, fun u hSw => (by go_simp; exact HRb.out)⟩) hS ?_
      change wpAnyH _ _ _ _ _ _ _ (Act.put _ (some 18) _) _
      simp only [Act.put]
      refine wpAnyH_take (i := 6) (v := .bool rb) rfl (by kernel_rfl) (by kernel_rfl) (by kernel_rfl) (fun _ _ _ h => h) (Or.inl ⟨by kernel_rfl, fun u hSw => (by go_simp)⟩) hS ?_
      change wpAnyH _ _ _ _ _ _ _ (Act.put _ (some 19) _) _
      simp only [Act.put]
      refine wpAnyH_ready (rs := [7]) (by kernel_rfl) (by simp) ?_
      refine AllReadyH.cons rfl (fun K hK => ?_) AllReadyH.nil
      go_simp
      refine (HUn.out _ GB).mono ?_
      rintro e2 w2 ⟨rfl, h9⟩
      replace K0 := K0.below h9 K0.lt
      replace K1 := K1.below h9 K1.lt
      replace K2 := K2.below h9 K2.lt
      replace KZ := KZ.below h9 KZ.lt
      replace GB := GB.trans (h9.mono GB.size)
      clear h9
      refine hK.out _ _ ⟨GB, K0, K1⟩ (fun hS => ?_)
      clear hK
      refine wpAnyH_take (i := 8) (v := .int .i64 E) rfl (by kernel_rfl) (by kernel_rfl) (by kernel_rfl) (fun _ _ _ h => h) (Or.inl ⟨by kernel_rfl, fun u hSw => (by go_simp)⟩) hS ?_
      change wpAnyH _ _ _ _ _ _ _ (Act.put _ (some 10) _) _
      simp only [Act.put]
      refine wpAnyH_done (by kernel_rfl) ?_ _
      clear hS
      go_simp
      clear K0 K1 K2
      have d0 := KZ.cell 0
      have f0 := KZ.frozen 0
      have HP := Lib.hid (put1 (x := .slice none 0 0) KZ GB (by omega))
      clear KZ GB
      go_wp2_with fail
      exact bodyPost_ret (v := .tuple #[.agg #[.slice none 0 0], .int .i64 E]) (results_cell_row_tmp Try.results46 _ _ _ _ _ _ rfl HP.out.1 Try.underlying26 rfl (by kernel_rfl)) rfl ⟨_, _, _, rfl, rfl, World.ownsRow_nil _ _ _ _, HP.out.2⟩

end Go.Proofs.Ytfgabmelmopgdaa
