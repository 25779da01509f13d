/-
  The landed domain: the closures that write a row over. No statement is proved here.
-/
import Derived.Test.YtknimnopopnbhaaEi
namespace Go.Proofs.Ytknimnopopnbhaa
open Go.RowKit

theorem flat_setD {l : List Dom} {p : Nat} {x1 x2 x3 x4 : Int} (hp : p < l.length) :
    (((((flat dv l).set (p * 4) (.int .i64 x1)).set (p * 4 + 1) (.int .i64 x2)).set (p * 4 + 2) (.int .i64 x3)).set (p * 4 + 3) (.int .i64 x4)) = flat dv (l.set p (x1, x2, x3, x4)) := by
  induction l generalizing p with
  | nil => simp at hp
  | cons y l ih =>
    cases p with
    | zero => simp [flat_cons, dv]
    | succ p =>
      have h := ih (p := p) (by simpa using hp)
      rw [List.set_cons_succ, flat_cons, flat_cons, ← h, show (p + 1) * 4 = p * 4 + 4 by omega]
      obtain ⟨a, b, c, d⟩ := y
      simp [dv]
theorem flat_setV {l : List Vc} {p : Nat} {v1 v2 : Int} {v3 v4 x3 x4 : Nat} (hx : l[p]? = some (v1, v2, v3, v4)) :
    (((flat cv l).set (p * 4 + 2) (.int .u32 (x3 : Int))).set (p * 4 + 2 + 1) (.int .u32 (x4 : Int))) = flat cv (l.set p (v1, v2, x3, x4)) := by
  induction l generalizing p with
  | nil => simp at hx
  | cons y l ih =>
    cases p with
    | zero =>
      simp only [List.getElem?_cons_zero, Option.some.injEq] at hx
      subst hx
      simp [flat_cons, cv]
    | succ p =>
      have h := ih (p := p) (by simpa using hx)
      rw [List.set_cons_succ, flat_cons, flat_cons, ← h, show (p + 1) * 4 = p * 4 + 4 by omega]
      obtain ⟨a, b, c, d⟩ := y
      simp [cv]
theorem cell_some {w : World} {p : Addr} {xs : List Value} {j : Nat} (h : w.cell? p = xs[j]?) (hj : j < xs.length) : ∃ y, w.cell? p = some y := ⟨xs[j], h.trans (List.getElem?_eq_getElem hj)⟩
/-- the boxes' last stores, into the second alone -/
theorem put_box {w1 : World} {s base n size : Nat} {e : TypeId} {v X Y : Value} {xs : List Value} (h : w1.ownsRow base e size v n xs) (hk : ∀ k, v.ownBlock = some k → k ≠ s) :
    ((w1.setCell ⟨s, 0, none⟩ X).setCell ⟨s, 1, none⟩ Y).ownsRow base e size v n xs := own_off (own_off h hk 0 X) hk 1 Y

set_option maxRecDepth 100000 in
set_option maxHeartbeats 4000000 in
theorem changedo_any (b : Nat) (A : Option Addr) (n c : Nat) (ds : List Dom) (B : Option Addr) (m d : Nat) (us : List Vc) (bx bp p : Nat) (x1 x2 x3 x4 : Int) (w : World) (hG : G2 w b A n c ds B m d us) (hb : b ≤ w.heap.size) (hp : p < n) (hbx : bx < b) (hbp : bp < b) (kbx0 : w.cell? ⟨bx, 0, none⟩ = some (.int .i64 x1)) (kbx1 : w.cell? ⟨bx, 1, none⟩ = some (.int .i64 x2)) (kbx2 : w.cell? ⟨bx, 2, none⟩ = some (.int .i64 x3)) (kbx3 : w.cell? ⟨bx, 3, none⟩ = some (.int .i64 x4)) (kbp : w.cell? ⟨bp, 0, none⟩ = some (.int .i64 (p : Int))) :
    Calls Try.prog 47 #[.agg #[.slice A n c, .slice B m d], .pointer (some ⟨bx, 0, none⟩), .pointer (some ⟨bp, 0, none⟩)] w (DoesG b (ds.set p (x1, x2, x3, x4)) us w) := by
  have hl := own_dlen hG.doms
  have hl2 := own_vlen hG.vcs
  obtain ⟨g, cur, rfl, hbg, _, hnc, _, _, _⟩ := blk_own hG.doms (by omega)
  obtain ⟨J0, J1, JB⟩ := blks2 w 25 25 #[.slice (some ⟨g, 0, none⟩) n c, .slice B m d] #[.slice none 0 0, .slice none 0 0]
  replace JB := JB.mono hb
  have hgl := (hG.doms.lt g rfl).2
  have D2 := (hG.doms.alloc (.cells #[.slice (some ⟨g, 0, none⟩) n c, .slice B m d] 25)).alloc (.cells #[.slice none 0 0, .slice none 0 0] 25)
  have V2 := (hG.vcs.alloc (.cells #[.slice (some ⟨g, 0, none⟩) n c, .slice B m d] 25)).alloc (.cells #[.slice none 0 0, .slice none 0 0] 25)
  have e0 := (JB.cell (p := ⟨bx, 0, none⟩) hbx).trans kbx0
  have e1 := (JB.cell (p := ⟨bx, 1, none⟩) hbx).trans kbx1
  have e2 := (JB.cell (p := ⟨bx, 2, none⟩) hbx).trans kbx2
  have e3 := (JB.cell (p := ⟨bx, 3, none⟩) hbx).trans kbx3
  have e9 := (JB.cell (p := ⟨bp, 0, none⟩) hbp).trans kbp
  obtain ⟨W2, hW2⟩ : ∃ W2, (w.alloc (.cells #[.slice (some ⟨g, 0, none⟩) n c, .slice B m d] 25)).alloc (.cells #[.slice none 0 0, .slice none 0 0] 25) = W2 := ⟨_, rfl⟩
  rw [hW2] at J0 J1 JB D2 V2 e9 e0 e1 e2 e3
  have hne : ∀ k, (Value.slice B m d).ownBlock = some k → k ≠ g := fun k hk => (hG.ne g k rfl hk).symm
  have hlt2 : ∀ k, (Value.slice B m d).ownBlock = some k → k < w.heap.size := fun k hk => (hG.vcs.lt k hk).2
  have v0' := D2.cellAt (p * 4) (by omega)
  obtain ⟨y0, u0⟩ := cell_some v0' (by have := length_flat dv length_dv ds; simp; omega)
  have g0 := D2.frozenAt (p * 4)
  have r0 := (D2.stored (p * 4) (.int .i64 x1)).1
  have q0 := own_off V2 hne (p * 4) (.int .i64 x1)
  have l0 := J1.far (p := ⟨g, p * 4, none⟩) (by simp; omega) (.int .i64 x1)
  have m0 := J0.far (p := ⟨g, p * 4, none⟩) (by simp; omega) (.int .i64 x1)
  have t0 := JB.setCell (p := ⟨g, p * 4, none⟩) hbg (.int .i64 x1)
  have v1' := r0.cellAt (p * 4 + 1) (by omega)
  obtain ⟨y1, u1⟩ := cell_some v1' (by have := length_flat dv length_dv ds; simp; omega)
  have g1 := r0.frozenAt (p * 4 + 1)
  have r1 := (r0.stored (p * 4 + 1) (.int .i64 x2)).1
  have q1 := own_off q0 hne (p * 4 + 1) (.int .i64 x2)
  have l1 := l0.far (p := ⟨g, p * 4 + 1, none⟩) (by simp; omega) (.int .i64 x2)
  have m1 := m0.far (p := ⟨g, p * 4 + 1, none⟩) (by simp; omega) (.int .i64 x2)
  have t1 := t0.setCell (p := ⟨g, p * 4 + 1, none⟩) hbg (.int .i64 x2)
  have v2' := r1.cellAt (p * 4 + 2) (by omega)
  obtain ⟨y2, u2⟩ := cell_some v2' (by have := length_flat dv length_dv ds; simp; omega)
  have g2 := r1.frozenAt (p * 4 + 2)
  have r2 := (r1.stored (p * 4 + 2) (.int .i64 x3)).1
  have q2 := own_off q1 hne (p * 4 + 2) (.int .i64 x3)
  have l2 := l1.far (p := ⟨g, p * 4 + 2, none⟩) (by simp; omega) (.int .i64 x3)
  have m2 := m1.far (p := ⟨g, p * 4 + 2, none⟩) (by simp; omega) (.int .i64 x3)
  have t2 := t1.setCell (p := ⟨g, p * 4 + 2, none⟩) hbg (.int .i64 x3)
  have v3' := r2.cellAt (p * 4 + 3) (by omega)
  obtain ⟨y3, u3⟩ := cell_some v3' (by have := length_flat dv length_dv ds; simp; omega)
  have g3 := r2.frozenAt (p * 4 + 3)
  have r3 := (r2.stored (p * 4 + 3) (.int .i64 x4)).1
  have q3 := own_off q2 hne (p * 4 + 3) (.int .i64 x4)
  have l3 := l2.far (p := ⟨g, p * 4 + 3, none⟩) (by simp; omega) (.int .i64 x4)
  have m3 := m2.far (p := ⟨g, p * 4 + 3, none⟩) (by simp; omega) (.int .i64 x4)
  have t3 := t2.setCell (p := ⟨g, p * 4 + 3, none⟩) hbg (.int .i64 x4)
  rw [flat_setD (by omega)] at r3
  have a0 := J0.cell 0
  have a1 := J0.cell 1
  have b0 := m3.cell 0
  have b1 := m3.cell 1
  have d0 := l3.cell 0
  have d1 := l3.cell 1
  have f1 := l3.frozen 0
  have f2 := l3.frozen 1
  have hgs : ∀ k, (Value.slice (some ⟨g, 0, none⟩) n c).ownBlock = some k → k ≠ w.heap.size + 1 := fun k hk => by
    cases hk
    show g ≠ w.heap.size + 1
    omega
  have HF := Lib.hid (put2 (x := .slice (some ⟨g, 0, none⟩) n c) (y := .slice B m d) l3 t3 (by omega))
  have HOa := Lib.hid (put_box (s := w.heap.size + 1) (X := .slice (some ⟨g, 0, none⟩) n c) (Y := .slice B m d) r3 hgs)
  have HOb := Lib.hid (put_box (s := w.heap.size + 1) (X := .slice (some ⟨g, 0, none⟩) n c) (Y := .slice B m d) q3 (fun k hk => by have := hlt2 k hk; omega))
  have HLn : Hid ((ds.set p (x1, x2, x3, x4)).length = n ∧ us.length = m) := Lib.hid ⟨by simp; omega, by omega⟩
  have H2 := Lib.hid hW2
  have j0 : (0 : Int) ≤ (p : Int) := by omega
  have j1 : (p : Int) < (n : Int) := by omega
  obtain ⟨V0, hV0⟩ : ∃ V0, ((((W2.setCell ⟨g, p * 4, none⟩ (.int .i64 x1)).setCell ⟨g, p * 4 + 1, none⟩ (.int .i64 x2)).setCell ⟨g, p * 4 + 2, none⟩ (.int .i64 x3)).setCell ⟨g, p * 4 + 3, none⟩ (.int .i64 x4)) = V0 := ⟨_, rfl⟩
  rw [hV0] at b0 b1 d0 d1 f1 f2 HF HOa HOb
  have HV := Lib.hid hV0
  clear J0 J1 JB D2 V2 hne hlt2 hgs v0' v1' v2' v3' r0 q0 l0 m0 t0 r1 q1 l1 m1 t1 r2 q2 l2 m2 t2 r3 q3 l3 m3 t3 hG hl hl2 hb hp  hbg hnc hgl hbx hbp kbp kbx0 kbx1 kbx2 kbx3 hW2 hV0
  go_enter Try.func47, Try.ntmps47
  go_upto_region 1 with fail
  rw [H2.out]
  go_upto_region 2 with fail
  rw [HV.out]
  go_wp2_with fail
  exact bodyPost_ret (v := .agg #[.slice (some ⟨g, 0, none⟩) n c, .slice B m d]) (results_cell_row Try.results47 _ _ _ _ _ _ _ rfl HF.out.1 Try.underlying25 rfl (by kernel_rfl)) rfl ⟨_, _, _, _, _, _, rfl, HLn.out.1, HLn.out.2, HOa.out, HOb.out, HF.out.2⟩

set_option maxRecDepth 100000 in
set_option maxHeartbeats 4000000 in
theorem remaskdo_any (b : Nat) (A : Option Addr) (n c : Nat) (ds : List Dom) (B : Option Addr) (m d : Nat) (us : List Vc) (bx bp p : Nat) (v1 v2 : Int) (v3 v4 x3 x4 : Nat) (w : World) (hG : G2 w b A n c ds B m d us) (hb : b ≤ w.heap.size) (hx : us[p]? = some (v1, v2, v3, v4)) (hbx : bx < b) (hbp : bp < b) (kbx0 : w.cell? ⟨bx, 0, none⟩ = some (.int .u32 (x3 : Int))) (kbx1 : w.cell? ⟨bx, 1, none⟩ = some (.int .u32 (x4 : Int))) (kbp : w.cell? ⟨bp, 0, none⟩ = some (.int .i64 (p : Int))) :
    Calls Try.prog 62 #[.agg #[.slice A n c, .slice B m d], .pointer (some ⟨bx, 0, none⟩), .pointer (some ⟨bp, 0, none⟩)] w (DoesG b ds (us.set p (v1, v2, x3, x4)) w) := by
  have hl := own_dlen hG.doms
  have hl2 := own_vlen hG.vcs
  have hp : p < m := by have := (List.getElem?_eq_some_iff.1 hx).1; omega
  obtain ⟨g, cur, rfl, hbg, _, hnc, _, _, _⟩ := blk_own hG.vcs (by omega)
  obtain ⟨J0, J1, JB⟩ := blks2 w 25 25 #[.slice A n c, .slice (some ⟨g, 0, none⟩) m d] #[.slice none 0 0, .slice none 0 0]
  replace JB := JB.mono hb
  have hgl := (hG.vcs.lt g rfl).2
  have D2 := (hG.doms.alloc (.cells #[.slice A n c, .slice (some ⟨g, 0, none⟩) m d] 25)).alloc (.cells #[.slice none 0 0, .slice none 0 0] 25)
  have V2 := (hG.vcs.alloc (.cells #[.slice A n c, .slice (some ⟨g, 0, none⟩) m d] 25)).alloc (.cells #[.slice none 0 0, .slice none 0 0] 25)
  have e0 := (JB.cell (p := ⟨bx, 0, none⟩) hbx).trans kbx0
  have e1 := (JB.cell (p := ⟨bx, 1, none⟩) hbx).trans kbx1
  have e9 := (JB.cell (p := ⟨bp, 0, none⟩) hbp).trans kbp
  obtain ⟨W2, hW2⟩ : ∃ W2, (w.alloc (.cells #[.slice A n c, .slice (some ⟨g, 0, none⟩) m d] 25)).alloc (.cells #[.slice none 0 0, .slice none 0 0] 25) = W2 := ⟨_, rfl⟩
  rw [hW2] at J0 J1 JB D2 V2 e9 e0 e1
  have hne : ∀ k, (Value.slice A n c).ownBlock = some k → k ≠ g := fun k hk => hG.ne k g hk rfl
  have hlt2 : ∀ k, (Value.slice A n c).ownBlock = some k → k < w.heap.size := fun k hk => (hG.doms.lt k hk).2
  have v0' := V2.cellAt (p * 4 + 2) (by omega)
  obtain ⟨y0, u0⟩ := cell_some v0' (by have := length_flat cv length_cv us; simp; omega)
  have g0 := V2.frozenAt (p * 4 + 2)
  have r0 := (V2.stored (p * 4 + 2) (.int .u32 (x3 : Int))).1
  have q0 := own_off D2 hne (p * 4 + 2) (.int .u32 (x3 : Int))
  have l0 := J1.far (p := ⟨g, p * 4 + 2, none⟩) (by simp; omega) (.int .u32 (x3 : Int))
  have m0 := J0.far (p := ⟨g, p * 4 + 2, none⟩) (by simp; omega) (.int .u32 (x3 : Int))
  have t0 := JB.setCell (p := ⟨g, p * 4 + 2, none⟩) hbg (.int .u32 (x3 : Int))
  have v1' := r0.cellAt (p * 4 + 2 + 1) (by omega)
  obtain ⟨y1, u1⟩ := cell_some v1' (by have := length_flat cv length_cv us; simp; omega)
  have g1 := r0.frozenAt (p * 4 + 2 + 1)
  have r1 := (r0.stored (p * 4 + 2 + 1) (.int .u32 (x4 : Int))).1
  have q1 := own_off q0 hne (p * 4 + 2 + 1) (.int .u32 (x4 : Int))
  have l1 := l0.far (p := ⟨g, p * 4 + 2 + 1, none⟩) (by simp; omega) (.int .u32 (x4 : Int))
  have m1 := m0.far (p := ⟨g, p * 4 + 2 + 1, none⟩) (by simp; omega) (.int .u32 (x4 : Int))
  have t1 := t0.setCell (p := ⟨g, p * 4 + 2 + 1, none⟩) hbg (.int .u32 (x4 : Int))
  rw [flat_setV hx] at r1
  have a0 := J0.cell 0
  have a1 := J0.cell 1
  have b0 := m1.cell 0
  have b1 := m1.cell 1
  have d0 := l1.cell 0
  have d1 := l1.cell 1
  have f1 := l1.frozen 0
  have f2 := l1.frozen 1
  have hgs : ∀ k, (Value.slice (some ⟨g, 0, none⟩) m d).ownBlock = some k → k ≠ w.heap.size + 1 := fun k hk => by
    cases hk
    show g ≠ w.heap.size + 1
    omega
  have HF := Lib.hid (put2 (x := .slice A n c) (y := .slice (some ⟨g, 0, none⟩) m d) l1 t1 (by omega))
  have HOa := Lib.hid (put_box (s := w.heap.size + 1) (X := .slice A n c) (Y := .slice (some ⟨g, 0, none⟩) m d) r1 hgs)
  have HOb := Lib.hid (put_box (s := w.heap.size + 1) (X := .slice A n c) (Y := .slice (some ⟨g, 0, none⟩) m d) q1 (fun k hk => by have := hlt2 k hk; omega))
  have HLn : Hid ((us.set p (v1, v2, x3, x4)).length = m ∧ ds.length = n) := Lib.hid ⟨by simp; omega, by omega⟩
  have H2 := Lib.hid hW2
  have j0 : (0 : Int) ≤ (p : Int) := by omega
  have j1 : (p : Int) < (m : Int) := by omega
  obtain ⟨V0, hV0⟩ : ∃ V0, ((W2.setCell ⟨g, p * 4 + 2, none⟩ (.int .u32 (x3 : Int))).setCell ⟨g, p * 4 + 2 + 1, none⟩ (.int .u32 (x4 : Int))) = V0 := ⟨_, rfl⟩
  rw [hV0] at b0 b1 d0 d1 f1 f2 HF HOa HOb
  have HV := Lib.hid hV0
  clear J0 J1 JB D2 V2 hne hlt2 hgs v0' v1' r0 q0 l0 m0 t0 r1 q1 l1 m1 t1 hG hl hl2 hb hp hx hbg hnc hgl hbx hbp kbp kbx0 kbx1 hW2 hV0
  go_enter Try.func62, Try.ntmps62
  go_upto_region 1 with fail
  rw [H2.out]
  go_upto_region 2 with fail
  rw [HV.out]
  go_wp2_with fail
  exact bodyPost_ret (v := .agg #[.slice A n c, .slice (some ⟨g, 0, none⟩) m d]) (results_cell_row Try.results62 _ _ _ _ _ _ _ rfl HF.out.1 Try.underlying25 rfl (by kernel_rfl)) rfl ⟨_, _, _, _, _, _, rfl, HLn.out.2, HLn.out.1, HOb.out, HOa.out, HF.out.2⟩

end Go.Proofs.Ytknimnopopnbhaa
