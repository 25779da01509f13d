/-
  The landed gang: Leave. No statement is proved here.
-/
import Derived.Test.YtglphgfaknofcaaGz
namespace Go.Proofs.Ytglphgfaknofcaa
open Go.RowKit Go.Maps

theorem right_ok {l : List Gm} (h : rightG l = true) {k : Nat} {g : Gm} (hk : l[k]? = some g) : okG l k g = true := by
  unfold rightG rightK at h
  rw [List.all_eq_true] at h
  have := h k (List.mem_range.2 (List.getElem?_eq_some_iff.1 hk).1)
  rwa [List.getD_eq_getElem?_getD, hk] at this
theorem right_members {l : List Gm} (h : rightG l = true) {k : Nat} {g : Gm} (hk : l[k]? = some g) : membersB g.2 = true := by
  have := right_ok h hk
  unfold okG at this
  simp only [Bool.and_eq_true] at this
  exact this.1.2
theorem rise_pair : ∀ {l : List Int} {a : Int}, riseI a l = true → (∀ x ∈ l, a < x) ∧ l.Pairwise (· < ·)
  | [], _, _ => ⟨fun x hx => (by cases hx), List.Pairwise.nil⟩
  | y :: l, a, h => by
    unfold riseI at h
    simp only [Bool.and_eq_true, decide_eq_true_eq] at h
    obtain ⟨h1, h2⟩ := rise_pair h.2
    refine ⟨fun x hx => ?_, List.pairwise_cons.2 ⟨h1, h2⟩⟩
    rcases List.mem_cons.1 hx with rfl | hx
    · exact h.1.1
    · have := h1 x hx
      have := h.1.1
      omega
theorem members_nodup {is : List Int} (h : membersB is = true) : is.Nodup := by
  unfold membersB at h
  simp only [Bool.and_eq_true] at h
  exact (rise_pair h.2).2.imp (fun h => by omega)
theorem members_len {is : List Int} (h : membersB is = true) : 2 ≤ is.length ∧ is.length ≤ 8 := by
  unfold membersB at h
  simp only [Bool.and_eq_true, decide_eq_true_eq] at h
  exact h.1
theorem less_len {is : List Int} {v : Int} (h : is.Nodup) (hv : v ∈ is) : (lessL v is).length + 1 = is.length := by
  have e : lessL v is = is.erase v := by rw [List.Nodup.erase_eq_filter h]; rfl
  rw [e, List.length_erase_of_mem hv]
  have := List.length_pos_of_mem hv
  omega
theorem hasV_mem {v : Int} {g : Gm} (h : hasV v g = true) : v ∈ g.2 := by
  unfold hasV havB at h
  simp only [List.any_eq_true, decide_eq_true_eq, List.mem_singleton] at h
  obtain ⟨x, hx, rfl⟩ := h
  exact hx
theorem gsM_back {G : List Gn} {k : Nat} {g : Gm} (h : (gsM G)[k]? = some g) : ∃ A m c, G[k]? = some (g.1, A, m, c, g.2) := by
  unfold gsM at h
  rw [List.getElem?_map] at h
  obtain ⟨⟨id, A, m, c, is⟩, h1, rfl⟩ := Option.map_eq_some_iff.1 h
  exact ⟨A, m, c, h1⟩
def leaveL (v : Int) (l : List Gm) : List Gm := leftG l (plV (hasV v) l) (l.getD (plV (hasV v) l) (0, [])).1 v (l.getD (plV (hasV v) l) (0, [])).2
theorem leaveL_at {v : Int} {l : List Gm} {k : Nat} {g : Gm} {x : Int × Int} (hx : amV (hasV v) l = x) (e : x = ((k : Int), 0)) (hk : l[k]? = some g) : leaveL v l = leftG l k g.1 v g.2 := by
  have h : plV (hasV v) l = k := by unfold plV; rw [hx, e]; rfl
  unfold leaveL
  rw [h, List.getD_eq_getElem?_getD, hk]
  rfl

set_option maxRecDepth 100000 in
set_option maxHeartbeats 16000000 in
theorem leave_any (A : Option Addr) (n c : Nat) (gs : List Gn) (v : Int) (w : World) (hG : NW w A n gs) (hc : n ≤ c) :
    Calls Try.prog 33 #[.agg #[.slice A n c], .int .i64 v] w (PartSaid (amV (hasV v) (gsM gs)).2 (if (amV (hasV v) (gsM gs)).2 = 0 then leaveL v (gsM gs) else []) w) := by
  obtain ⟨K0, KV, K1, GB⟩ := blks3 w 24 3 24 #[.slice A n c] #[.int .i64 v] #[.slice none 0 0]
  have HG := Lib.hid hG
  have n9 : n ≤ 100 := hG.small
  have HLn := Lib.hid hG.len
  have HKs : Hid (∀ u, Below (((w.alloc (.cells #[.slice A n c] 24)).alloc (.cells #[.int .i64 v] 3)).alloc (.cells #[.slice none 0 0] 24)).heap.size (((w.alloc (.cells #[.slice A n c] 24)).alloc (.cells #[.int .i64 v] 3)).alloc (.cells #[.slice none 0 0] 24)) u → Blk u w.heap.size 24 #[.slice A n c] ∧ Blk u (w.heap.size + 1) 3 #[.int .i64 v] ∧ Blk u (w.heap.size + 1 + 1) 24 #[.slice none 0 0]) := Lib.hid (fun u hu => ⟨K0.below hu K0.lt, KV.below hu KV.lt, K1.below hu K1.lt⟩)
  have HGB := Lib.hid GB
  clear hG K0 K1 KV GB
  obtain ⟨x, hx⟩ : ∃ x, amV (hasV v) (gsM gs) = x := ⟨_, rfl⟩
  obtain ⟨LL, hLL⟩ : ∃ LL, leaveL v (gsM gs) = LL := ⟨_, rfl⟩
  have HLL := Lib.hid hLL
  have HXx := Lib.hid hx
  rw [hx, hLL]
  clear hLL
  go_enter Try.func33, Try.ntmps33
  go_upto_region 1 with fail
  generalize hw0 : ((w.alloc (.cells #[.slice A n c] 24)).alloc (.cells #[.int .i64 v] 3)).alloc (.cells #[.slice none 0 0] 24) = w0 at *
  have HCk : Hid (∀ u, Below w0.heap.size w0 u → u.cell? ⟨w.heap.size, 0, none⟩ = some (.slice A n c) ∧ u.cell? ⟨w.heap.size + 1, 0, none⟩ = some (.int .i64 v)) := Lib.hid (fun u hu => ⟨(HKs.out u hu).1.cell 0, (HKs.out u hu).2.1.cell 0⟩)
  have D0 := (Below.refl w0.heap.size w0).drew
  have k0 := HCk.out _ D0
  have D1 := D0.alloc D0.size (.cells #[.int .i64 v] 3)
  have k1 := HCk.out _ D1
  have DA := D0.alloc D0.size (.cells #[.int .i64 0] 3)
  have kA := HCk.out _ DA
  have D1A := DA.alloc DA.size (.cells #[.int .i64 v] 3)
  have k1A := HCk.out _ D1A
  have DBA := D1.alloc D1.size (.cells #[.int .i64 0] 3)
  have kBA := HCk.out _ DBA
  have BA : Blk (w0.drew.alloc (.cells #[.int .i64 0] 3)) w0.heap.size 3 #[.int .i64 0] := Blk.new w0.drew 3 #[.int .i64 0]
  have BA1 := BA.alloc (.cells #[.int .i64 v] 3)
  have BBA : Blk ((w0.drew.alloc (.cells #[.int .i64 v] 3)).alloc (.cells #[.int .i64 0] 3)) (w0.heap.size + 1) 3 #[.int .i64 0] := by
    have := Blk.new (w0.drew.alloc (.cells #[.int .i64 v] 3)) 3 #[.int .i64 0]
    simpa using this
  have HI1 : IR (w0.drew.alloc (.cells #[.int .i64 v] 3)) (some ⟨w0.heap.size, 0, none⟩) 1 [v] := ⟨reads_blk (Blk.new w0.drew 3 #[.int .i64 v]) rfl rfl, by omega⟩
  have HI2 : IR ((w0.drew.alloc (.cells #[.int .i64 v] 3)).alloc (.cells #[.int .i64 0] 3)) (some ⟨w0.heap.size, 0, none⟩) 1 [v] := HI1.below ((Below.refl _ _).alloc (Nat.le_refl _) _)
  have HI3 : IR ((w0.drew.alloc (.cells #[.int .i64 0] 3)).alloc (.cells #[.int .i64 v] 3)) (some ⟨w0.heap.size + 1, 0, none⟩) 1 [v] := by
    have : IR ((w0.drew.alloc (.cells #[.int .i64 0] 3)).alloc (.cells #[.int .i64 v] 3)) (some ⟨(w0.drew.alloc (.cells #[.int .i64 0] 3)).heap.size, 0, none⟩) 1 [v] := ⟨reads_blk (Blk.new (w0.drew.alloc (.cells #[.int .i64 0] 3)) 3 #[.int .i64 v]) rfl rfl, by omega⟩
    simpa using this
  have HHf1 := Lib.hid (havingf_any (some ⟨w0.heap.size, 0, none⟩) 1 1 [v] _ HI1)
  have HHf2 := Lib.hid (havingf_any (some ⟨w0.heap.size, 0, none⟩) 1 1 [v] _ HI2)
  have HHf3 := Lib.hid (havingf_any (some ⟨w0.heap.size + 1, 0, none⟩) 1 1 [v] _ HI3)
  have HAm := Lib.hid (fun (u : World) (hu : Below w0.heap.size w0 u) (vb : Nat) (Av : Option Addr) (h : HV u vb Av 1 1 [v]) => hasamong_any A n c gs u (HG.out.below (HGB.out.trans (hu.mono HGB.out.size))) hc vb Av 1 1 [v] h)
  have HAE := Lib.hid (am_fnd (hasV v) (gsM gs))
  have e0 : (fun g => havB [v] g) = hasV v := rfl
  rw [e0] at HAm
  rw [hx] at HAm HAE
  clear e0 hx HI1 HI2 HI3 BA
  go_region_held3 (fun u => u.cell? ⟨w.heap.size, 0, none⟩ = some (.slice A n c) ∧ u.cell? ⟨w.heap.size + 1, 0, none⟩ = some (.int .i64 v))
    (first | exact k3 | exact k2 | exact k4 | exact k5 | exact k1 | exact kBA | exact k1A | exact kA | exact k0)
    (first
      | (go_at_call 44; go_must (first
          | (refine (HAm.out _ D2 vb _ hv).mono ?_; rintro e w5 ⟨rfl, h9⟩; have D3 := D2.trans (h9.mono D2.size); have k3 := HCk.out _ D3; have D4 := D3.alloc D3.size (.cells #[.int .i64 0] 3); have k4 := HCk.out _ D4; have D5 := D3.alloc D3.size (.cells #[.int .i64 x.1] 3); have k5 := HCk.out _ D5; have BX := Blk.new w5 3 #[.int .i64 x.1]; have HD3 := Lib.hid D3.size; have hD5 := D5; obtain ⟨w6, hw6⟩ : ∃ w6, w5.alloc (.cells #[.int .i64 x.1] 3) = w6 := ⟨_, rfl⟩; obtain ⟨bx, hbx⟩ : ∃ bx, w5.heap.size = bx := ⟨_, rfl⟩; rw [hw6] at hD5 BX; rw [hbx] at BX HD3; have hq6 := Lib.hid hw6; have hqx := Lib.hid hbx; clear h9 hw6 hbx)
          | (refine (HAm.out _ DA4 vb _ (hv.below ((Below.refl _ _).alloc (Nat.le_refl _) _))).mono ?_; rintro e w5 ⟨rfl, h9⟩; have D3 := DA4.trans (h9.mono DA4.size); have k3 := HCk.out _ D3; have B5 := BA4.below h9 BA4.lt; have y0 := B5.cell 0; have y1 := B5.frozen 0; have HP := put1 (x := .int .i64 x.1) B5 D3 D2.size; have k5 := HCk.out _ HP.2; have BX := HP.1; have HD3 := Lib.hid D2.size; have hD5 := HP.2; obtain ⟨w6, hw6⟩ : ∃ w6, w5.setCell ⟨w4.heap.size, 0, none⟩ (.int .i64 x.1) = w6 := ⟨_, rfl⟩; obtain ⟨bx, hbx⟩ : ∃ bx, w4.heap.size = bx := ⟨_, rfl⟩; rw [hw6] at hD5 BX; rw [hbx] at BX HD3; have hq6 := Lib.hid hw6; have hqx := Lib.hid hbx; clear h9 hw6 hbx)
          | (refine (HAm.out _ D2c vb _ hv).mono ?_; rintro e w5 ⟨rfl, h9⟩; have D3 := D2c.trans (h9.mono D2c.size); have k3 := HCk.out _ D3; have B5 := BAc.below h9 BAc.lt; have y0 := B5.cell 0; have y1 := B5.frozen 0; have HP := put1 (x := .int .i64 x.1) B5 D3 (Nat.le_succ _); have k5 := HCk.out _ HP.2; have BX := HP.1; have hD5 := HP.2; obtain ⟨w6, hw6⟩ : ∃ w6, w5.setCell ⟨w0.heap.size + 1, 0, none⟩ (.int .i64 x.1) = w6 := ⟨_, rfl⟩; obtain ⟨bx, hbx⟩ : ∃ bx, w0.heap.size + 1 = bx := ⟨_, rfl⟩; rw [hw6] at hD5 BX; rw [hbx] at BX; have HD3 : Hid (w0.heap.size ≤ bx) := Lib.hid (by omega); have hq6 := Lib.hid hw6; have hqx := Lib.hid hbx; clear h9 hw6 hbx)
          | (refine (HAm.out _ D2d vb _ hv).mono ?_; rintro e w5 ⟨rfl, h9⟩; have D3 := D2d.trans (h9.mono D2d.size); have k3 := HCk.out _ D3; have B5 := BAd.below h9 BAd.lt; have y0 := B5.cell 0; have y1 := B5.frozen 0; have HP := put1 (x := .int .i64 x.1) B5 D3 D0.size; have k5 := HCk.out _ HP.2; have BX := HP.1; have hD5 := HP.2; obtain ⟨w6, hw6⟩ : ∃ w6, w5.setCell ⟨w0.heap.size, 0, none⟩ (.int .i64 x.1) = w6 := ⟨_, rfl⟩; obtain ⟨bx, hbx⟩ : ∃ bx, w0.heap.size = bx := ⟨_, rfl⟩; rw [hw6] at hD5 BX; rw [hbx] at BX; have HD3 : Hid (w0.heap.size ≤ bx) := Lib.hid (Nat.le_of_eq hbx); have hq6 := Lib.hid hw6; have hqx := Lib.hid hbx; clear h9 hw6 hbx)))
      | (go_at_call 40; go_must (first
          | (refine HHf1.out.mono ?_; rintro e w4 ⟨vb, rfl, hv, h9⟩; have D2 := D1.trans (h9.mono D1.size); have k2 := HCk.out _ D2; have DA4 := D2.alloc D2.size (.cells #[.int .i64 0] 3); have k4 := HCk.out _ DA4; have BA4 := Blk.new w4 3 #[.int .i64 0]; clear h9)
          | (refine HHf2.out.mono ?_; rintro e w4 ⟨vb, rfl, hv, h9⟩; have D2c := DBA.trans (h9.mono DBA.size); have k2 := HCk.out _ D2c; have BAc := BBA.below h9 BBA.lt; clear h9)
          | (refine HHf3.out.mono ?_; rintro e w4 ⟨vb, rfl, hv, h9⟩; have D2d := D1A.trans (h9.mono D1A.size); have k2 := HCk.out _ D2d; have BAd := BA1.below h9 BA1.lt; clear h9))))
  all_goals (have HD5 := Lib.hid hD5; have HBx := Lib.hid BX; rw [hq6.out, hqx.out]; clear hq6 hqx BX hD5)
  all_goals
    have HBE := Lib.hid (HGB.out.trans (HD5.out.mono HGB.out.size))
    have HZ : Hid (w.heap.size + 1 + 1 + 1 = w0.heap.size) := Lib.hid (by rw [← hw0]; simp)
    clear hw0
    have c0 := (HKs.out _ HD5.out).1.cell 0
    have HV := Lib.hid (HKs.out _ HD5.out).2.1
    have J1 := (HKs.out _ HD5.out).2.2
    rcases HAE.out with ⟨e, hx, hne, hf, he⟩ | ⟨k, g, hx, hk, hf, hp, hr, _⟩
    · subst hx
      have q0 : (e == 0) = false := by simpa using hne
      have HNE := Lib.hid hne
      have x2 := J1.cell 0
      have x3 := J1.frozen 0
      have HP := Lib.hid (put1 (x := .slice none 0 0) J1 HBE.out (by omega))
      clear hf he hne HAE J1
      go_wp2_with fail
      exact bodyPost_ret (v := .tuple #[.agg #[.slice none 0 0], .int .i64 e]) (results_cell_row_tmp Try.results33 _ _ _ _ _ _ rfl HP.out.1 Try.underlying24 rfl (by kernel_rfl)) rfl ⟨none, 0, 0, [], rfl, no_none _ _, by first | rfl | (rw [if_neg HNE.out]; rfl), HP.out.2⟩
    · have HR : Hid (LL = leftG (gsM gs) k g.1 v g.2) := Lib.hid (by rw [← HLL.out]; exact leaveL_at HXx.out hx hk)
      subst hx
      have HK := Lib.hid hk
      have HMB := Lib.hid (right_members hr hk)
      have HLT : Hid (k < n) := Lib.hid (by have := (List.getElem?_eq_some_iff.1 hk).1; rw [gsM_len, HLn.out] at this; exact this)
      have HJ1 := Lib.hid J1
      have HVM := Lib.hid (hasV_mem hp)
      have HCh := Lib.hid (chleave_any A n c gs w6 (HG.out.below HBE.out) bx (w.heap.size + 1) LL (fun u A' c' G hN hb hs hE => by
        have hb : Below w6.heap.size w6 u := ⟨hb.os, hb.tape, hb.output, hb.size, hb.block⟩
        obtain ⟨A3, m, c3, hG3⟩ := gsM_back (G := G) (k := k) (g := g) (by rw [hE]; exact HK.out)
        have hm := hN.mlen (List.mem_of_getElem? hG3)
        have hl := members_len HMB.out
        have := leavedo_any (w6.heap.size + 1 + 1) n c' A' G bx (w.heap.size + 1) k g.1 v A3 m c3 g.2 u hN hs (HBx.out.below hb HBx.out.lt) (HV.out.below hb HV.out.lt) (by have := HBx.out.lt; omega) (by have := HV.out.lt; omega) hG3 (by have := less_len (members_nodup HMB.out) HVM.out; simp only at hm; omega) n9 (by simp only at hm; omega)
        rw [hE, ← HR.out] at this
        exact this))
      clear hf hp hk hr HAE J1
      have HVc := HV.out.cell 0
      go_wp2_with fail
      refine HCh.out.mono ?_
      rintro e w7 ⟨A5, n5, c5, G5, rfl, N5, E5, h5⟩
      have HL1 : w.heap.size + 1 + 1 < w6.heap.size := HJ1.out.lt
      have J5 := HJ1.out.below h5 HL1
      have hbx := HBE.out.trans (h5.mono HBE.out.size)
      have x2 := J5.cell 0
      have x3 := J5.frozen 0
      have HP := Lib.hid (put1 (x := .slice A5 n5 c5) J5 hbx (by omega))
      have HNF := Lib.hid (((N5.set (g := w.heap.size + 1 + 1) HL1 0 (.slice A5 n5 c5)).down (by have := HBE.out.size; omega)) : NO (w7.setCell ⟨w.heap.size + 1 + 1, 0, none⟩ (.slice A5 n5 c5)) w.heap.size A5 n5 c5 G5)
      clear N5 h5 hbx J5 c0 HVc
      have HE5 := Lib.hid E5
      clear E5
      go_wp2_with fail
      exact bodyPost_ret (v := .tuple #[.agg #[.slice A5 n5 c5], .int .i64 0]) (results_cell_row_tmp Try.results33 _ _ _ _ _ _ rfl HP.out.1 Try.underlying24 rfl (by kernel_rfl)) rfl ⟨A5, n5, c5, G5, rfl, HNF.out, by exact HE5.out, HP.out.2⟩

end Go.Proofs.Ytglphgfaknofcaa
