/-
  The landed domain: the closures that put a row in, or take one out. No statement is proved here.
-/
import Derived.Test.YtknimnopopnbhaaEh
namespace Go.Proofs.Ytknimnopopnbhaa
open Go.RowKit

/-- guests in two rows of the call's own, apart -/
structure G2 (w : World) (b : Nat) (A : Option Addr) (n c : Nat) (ds : List Dom) (B : Option Addr) (m d : Nat) (us : List Vc) : Prop where
  doms : w.ownsRow b 27 4 (.slice A n c) n (flat dv ds)
  vcs : w.ownsRow b 50 4 (.slice B m d) m (flat cv us)
  ne : ∀ k k', (Value.slice A n c).ownBlock = some k → (Value.slice B m d).ownBlock = some k' → k ≠ k'
/-- a call answers guests in memory of its own, from b on -/
def DoesG (b : Nat) (ds : List Dom) (us : List Vc) (w : World) (e : Ending) (w' : World) : Prop :=
  ∃ A n c B m d, e = .returned (.agg #[.slice A n c, .slice B m d]) ∧ ds.length = n ∧ us.length = m ∧ w'.ownsRow b 27 4 (.slice A n c) n (flat dv ds) ∧ w'.ownsRow b 50 4 (.slice B m d) m (flat cv us) ∧ Below b w w'
theorem own_other {V W : World} {base e s n : Nat} {v v1 : Value} {xs : List Value} (h : V.ownsRow base e s v n xs) (hg : V.grownBy W v1.ownBlock) (hne : ∀ k k', v.ownBlock = some k → v1.ownBlock = some k' → k ≠ k') : W.ownsRow base e s v n xs := by
  refine h.kept hg ?_
  cases ho : v.ownBlock with
  | none => exact .inl rfl
  | some k => exact .inr (fun he => hne k k ho he.symm rfl)
theorem own_dlen {w : World} {b n : Nat} {e : TypeId} {v : Value} {l : List Dom} (h : w.ownsRow b e 4 v n (flat dv l)) : l.length = n := by
  have := h.1
  rw [length_flat dv length_dv] at this
  omega
theorem own_vlen {w : World} {b n : Nat} {e : TypeId} {v : Value} {l : List Vc} (h : w.ownsRow b e 4 v n (flat cv l)) : l.length = n := by
  have := h.1
  rw [length_flat cv length_cv] at this
  omega
/-- the boxes' last stores -/
theorem two_boxes {w w1 : World} {s b : Nat} {t : TypeId} {p q X Y : Value} (K : Blk w1 (s + 1) t #[p, q]) (B : Below b w w1) (hb : b ≤ s) (j : Nat) (Z : Value) :
    Blk (((w1.setCell ⟨s, j, none⟩ Z).setCell ⟨s + 1, 0, none⟩ X).setCell ⟨s + 1, 1, none⟩ Y) (s + 1) t #[X, Y] ∧ Below b w (((w1.setCell ⟨s, j, none⟩ Z).setCell ⟨s + 1, 0, none⟩ X).setCell ⟨s + 1, 1, none⟩ Y) :=
  put2 (K.far (p := ⟨s, j, none⟩) (by simp) Z) (B.setCell (p := ⟨s, j, none⟩) hb Z) (by omega)
theorem own_boxes {w1 : World} {s base n size : Nat} {e : TypeId} {v X Y Z : Value} {xs : List Value} {j : Nat} (h : w1.ownsRow base e size v n xs) (hk : ∀ k, v.ownBlock = some k → k ≠ s ∧ k ≠ s + 1) :
    (((w1.setCell ⟨s, j, none⟩ Z).setCell ⟨s + 1, 0, none⟩ X).setCell ⟨s + 1, 1, none⟩ Y).ownsRow base e size v n xs :=
  own_off (own_off (own_off h (fun k e => (hk k e).1) j Z) (fun k e => (hk k e).2) 0 X) (fun k e => (hk k e).2) 1 Y

set_option maxRecDepth 100000 in
set_option maxHeartbeats 4000000 in
theorem createdo_any (b : Nat) (A : Option Addr) (n c : Nat) (ds : List Dom) (B : Option Addr) (m d : Nat) (us : List Vc) (bp bx p : Nat) (x1 x2 x3 x4 : Int) (w : World) (hG : G2 w b A n c ds B m d us) (hb : b ≤ w.heap.size) (hn : n ≤ 1000) (hp : p ≤ n) (hbp : bp < b) (kbp : w.cell? ⟨bp, 0, none⟩ = some (.int .i64 (p : Int))) (hbx : bx < b) (kbx0 : w.cell? ⟨bx, 0, none⟩ = some (.int .i64 x1)) (kbx1 : w.cell? ⟨bx, 1, none⟩ = some (.int .i64 x2)) (kbx2 : w.cell? ⟨bx, 2, none⟩ = some (.int .i64 x3)) (kbx3 : w.cell? ⟨bx, 3, none⟩ = some (.int .i64 x4)) :
    Calls Try.prog 45 #[.agg #[.slice A n c, .slice B m d], .pointer (some ⟨bp, 0, none⟩), .pointer (some ⟨bx, 0, none⟩)] w (DoesG b (ds.take p ++ (x1, x2, x3, x4) :: ds.drop p) us w) := by
  have hl := own_dlen hG.doms
  have hl2 := own_vlen hG.vcs
  obtain ⟨J0, J1, JB⟩ := blks2 w 25 25 #[.slice A n c, .slice B m d] #[.slice none 0 0, .slice none 0 0]
  replace JB := JB.mono hb
  have HKc := Lib.hid (fun (u : World) (h : Below b w u) => And.intro ((h.cell (p := ⟨bp, 0, none⟩) hbp).trans kbp) (And.intro ((h.cell (p := ⟨bx, 0, none⟩) hbx).trans kbx0) (And.intro ((h.cell (p := ⟨bx, 1, none⟩) hbx).trans kbx1) (And.intro ((h.cell (p := ⟨bx, 2, none⟩) hbx).trans kbx2) ((h.cell (p := ⟨bx, 3, none⟩) hbx).trans kbx3)))))
  have e_kbp := (HKc.out _ JB).1
  have e_kbx0 := (HKc.out _ JB).2.1
  have e_kbx1 := (HKc.out _ JB).2.2.1
  have e_kbx2 := (HKc.out _ JB).2.2.2.1
  have e_kbx3 := (HKc.out _ JB).2.2.2.2
  have a0 := J0.cell 0
  have hlt : ∀ k, (Value.slice A n c).ownBlock = some k ∨ (Value.slice B m d).ownBlock = some k → b ≤ k ∧ k < w.heap.size := fun k hk => by
    rcases hk with h | h
    · exact hG.doms.lt k h
    · exact hG.vcs.lt k h
  have D2 := (hG.doms.alloc (.cells #[.slice A n c, .slice B m d] 25)).alloc (.cells #[.slice none 0 0, .slice none 0 0] 25)
  have V2 := (hG.vcs.alloc (.cells #[.slice A n c, .slice B m d] 25)).alloc (.cells #[.slice none 0 0, .slice none 0 0] 25)
  obtain ⟨W2, hW2⟩ : ∃ W2, (w.alloc (.cells #[.slice A n c, .slice B m d] 25)).alloc (.cells #[.slice none 0 0, .slice none 0 0] 25) = W2 := ⟨_, rfl⟩
  have hsz : W2.heap.size = w.heap.size + 1 + 1 := by rw [← hW2]; simp
  have KV := Blk.new W2 27 (agD (x1, x2, x3, x4))
  have J0' : Blk (W2.alloc (.cells (agD (x1, x2, x3, x4)) 27)) w.heap.size 25 #[.slice A n c, .slice B m d] := by rw [← hW2]; exact J0.alloc _
  have J1' : Blk (W2.alloc (.cells (agD (x1, x2, x3, x4)) 27)) (w.heap.size + 1) 25 #[.slice none 0 0, .slice none 0 0] := by rw [← hW2]; exact J1.alloc _
  have JB' : Below b w (W2.alloc (.cells (agD (x1, x2, x3, x4)) 27)) := by rw [← hW2]; exact JB.alloc (by have := JB.size; omega) _
  have D3 : (W2.alloc (.cells (agD (x1, x2, x3, x4)) 27)).ownsRow b 27 4 (.slice A n c) n (flat dv ds) := by rw [← hW2]; exact D2.alloc _
  have V3 : (W2.alloc (.cells (agD (x1, x2, x3, x4)) 27)).ownsRow b 50 4 (.slice B m d) m (flat cv us) := by rw [← hW2]; exact V2.alloc _
  have HI := Lib.hid (dinsert_any b n c p A ds W2.heap.size (x1, x2, x3, x4) _ D3 (by simp [hsz]; omega) KV (fun k hk => by have := (hlt k (.inl hk)).2; omega) hl (by omega) (by omega))
  have hs3 : (W2.alloc (.cells (agD (x1, x2, x3, x4)) 27)).heap.size = w.heap.size + 1 + 1 + 1 := by simp [hsz]
  obtain ⟨W3, hW3⟩ : ∃ W3, W2.alloc (.cells (agD (x1, x2, x3, x4)) 27) = W3 := ⟨_, rfl⟩
  rw [hW3] at J0' J1' JB' D3 V3 HI hs3

  have HX := Lib.hid (And.intro J0' (And.intro J1' (And.intro JB' (And.intro D3 (And.intro V3 hlt)))))
  have HNe := Lib.hid hG.ne
  have HLn : Hid ((ds.take p ++ (x1, x2, x3, x4) :: ds.drop p).length = n + 1 ∧ us.length = m) := Lib.hid ⟨by simp; omega, hl2⟩
  have HZ := Lib.hid (And.intro hs3 hb)
  have H2 := Lib.hid hW2
  have H3 := Lib.hid hW3
  rw [hW2] at a0 e_kbp e_kbx0 e_kbx1 e_kbx2 e_kbx3
  clear J0' J1' JB' D3 V3 hlt hG hl hl2 hb hsz hs3 J0 J1 JB D2 V2 hW2 KV hW3 kbp kbx0 kbx1 kbx2 kbx3 hbp hbx
  go_enter Try.func45, Try.ntmps45
  go_upto_region 1 with fail
  rw [H2.out]
  go_wp2_with fail
  rw [H3.out]
  refine HI.out.mono ?_
  rintro e w1 ⟨⟨A1, c1, rfl, o1, hk1⟩, g1⟩
  have ho : ∀ k, (Value.slice A n c).ownBlock = some k → b ≤ k ∧ k < w.heap.size := fun k hk => HX.out.2.2.2.2.2 k (.inl hk)
  have ho2 : ∀ k, (Value.slice B m d).ownBlock = some k → b ≤ k ∧ k < w.heap.size := fun k hk => HX.out.2.2.2.2.2 k (.inr hk)
  have ot := own_other HX.out.2.2.2.2.1 g1 (fun k k' h1 h2 => (HNe.out k' k h2 h1).symm)
  have B1 := HX.out.2.2.1.grown g1 (by have := HX.out.2.2.1.size; have := HZ.out; omega) (fun g hg => (ho g hg).1)
  have K0 := HX.out.1.grown g1 (fun e => by have := (ho _ e.symm).2; omega)
  have K1 := HX.out.2.1.grown g1 (fun e => by have := (ho _ e.symm).2; omega)
  have c0 := K0.cell 0
  have c1' := K0.cell 1
  have f0 := K0.frozen 0
  have d0 := K1.cell 0
  have d1 := K1.cell 1
  have f1 := K1.frozen 0
  have f2 := K1.frozen 1
  have hZ := HZ.out
  have HF := Lib.hid (two_boxes (X := .slice A1 (n + 1) c1) (Y := .slice B m d) K1 B1 (by omega) 0 (.slice A1 (n + 1) c1))
  have HOa := Lib.hid (own_boxes (s := w.heap.size) (j := 0) (Z := .slice A1 (n + 1) c1) (X := .slice A1 (n + 1) c1) (Y := .slice B m d) o1 (fun k hk => by
    rcases hk1 k hk with h | h
    · have := ho k h; omega
    · omega))
  have HOb := Lib.hid (own_boxes (s := w.heap.size) (j := 0) (Z := .slice A1 (n + 1) c1) (X := .slice A1 (n + 1) c1) (Y := .slice B m d) ot (fun k hk => by have := ho2 k hk; omega))
  clear ho ho2 ot B1 K0 K1 o1 hk1 g1 hZ
  go_wp2_with fail
  exact bodyPost_ret (v := .agg #[.slice A1 (n + 1) c1, .slice B m d]) (results_cell_row Try.results45 _ _ _ _ _ _ _ rfl HF.out.1 Try.underlying25 rfl (by kernel_rfl)) rfl ⟨A1, n + 1, c1, B, m, d, rfl, HLn.out.1, HLn.out.2, HOa.out, HOb.out, HF.out.2⟩

set_option maxRecDepth 100000 in
set_option maxHeartbeats 4000000 in
theorem destroydo_any (b : Nat) (A : Option Addr) (n c : Nat) (ds : List Dom) (B : Option Addr) (m d : Nat) (us : List Vc) (bp p : Nat)  (w : World) (hG : G2 w b A n c ds B m d us) (hb : b ≤ w.heap.size) (hn : n ≤ 1000) (hp : p < n) (hbp : bp < b) (kbp : w.cell? ⟨bp, 0, none⟩ = some (.int .i64 (p : Int))) :
    Calls Try.prog 50 #[.agg #[.slice A n c, .slice B m d], .pointer (some ⟨bp, 0, none⟩)] w (DoesG b (ds.eraseIdx p) us w) := by
  have hl := own_dlen hG.doms
  have hl2 := own_vlen hG.vcs
  obtain ⟨J0, J1, JB⟩ := blks2 w 25 25 #[.slice A n c, .slice B m d] #[.slice none 0 0, .slice none 0 0]
  replace JB := JB.mono hb
  have HKc := Lib.hid (fun (u : World) (h : Below b w u) => (h.cell (p := ⟨bp, 0, none⟩) hbp).trans kbp)
  have e_kbp := (HKc.out _ JB)
  have a0 := J0.cell 0
  have hlt : ∀ k, (Value.slice A n c).ownBlock = some k ∨ (Value.slice B m d).ownBlock = some k → b ≤ k ∧ k < w.heap.size := fun k hk => by
    rcases hk with h | h
    · exact hG.doms.lt k h
    · exact hG.vcs.lt k h
  have D2 := (hG.doms.alloc (.cells #[.slice A n c, .slice B m d] 25)).alloc (.cells #[.slice none 0 0, .slice none 0 0] 25)
  have V2 := (hG.vcs.alloc (.cells #[.slice A n c, .slice B m d] 25)).alloc (.cells #[.slice none 0 0, .slice none 0 0] 25)
  obtain ⟨W2, hW2⟩ : ∃ W2, (w.alloc (.cells #[.slice A n c, .slice B m d] 25)).alloc (.cells #[.slice none 0 0, .slice none 0 0] 25) = W2 := ⟨_, rfl⟩
  have hsz : W2.heap.size = w.heap.size + 1 + 1 := by rw [← hW2]; simp
  have J0' : Blk W2 w.heap.size 25 #[.slice A n c, .slice B m d] := by rw [← hW2]; exact J0
  have J1' : Blk W2 (w.heap.size + 1) 25 #[.slice none 0 0, .slice none 0 0] := by rw [← hW2]; exact J1
  have JB' : Below b w W2 := by rw [← hW2]; exact JB
  have D3 : W2.ownsRow b 27 4 (.slice A n c) n (flat dv ds) := by rw [← hW2]; exact D2
  have V3 : W2.ownsRow b 50 4 (.slice B m d) m (flat cv us) := by rw [← hW2]; exact V2
  have HI := Lib.hid (ddelete_any b n c p A ds _ D3 hl (by omega) (by omega))
  have hs3 := hsz
  have p9 : p < 1000 := by omega
  have HX := Lib.hid (And.intro J0' (And.intro J1' (And.intro JB' (And.intro D3 (And.intro V3 hlt)))))
  have HNe := Lib.hid hG.ne
  have HLn : Hid ((ds.eraseIdx p).length = n - 1 ∧ us.length = m) := Lib.hid ⟨by rw [List.length_eraseIdx]; split <;> omega, hl2⟩
  have HZ := Lib.hid (And.intro hs3 hb)
  have H2 := Lib.hid hW2

  rw [hW2] at a0 e_kbp
  clear J0' J1' JB' D3 V3 hlt hG hl hl2 hb hsz hs3 J0 J1 JB D2 V2 hW2  kbp hbp
  go_enter Try.func50, Try.ntmps50
  go_upto_region 1 with fail
  rw [H2.out]
  go_wp2_with fail

  refine HI.out.mono ?_
  rintro e w1 ⟨⟨A1, c1, rfl, o1, hk1⟩, g1⟩
  have ho : ∀ k, (Value.slice A n c).ownBlock = some k → b ≤ k ∧ k < w.heap.size := fun k hk => HX.out.2.2.2.2.2 k (.inl hk)
  have ho2 : ∀ k, (Value.slice B m d).ownBlock = some k → b ≤ k ∧ k < w.heap.size := fun k hk => HX.out.2.2.2.2.2 k (.inr hk)
  have ot := own_other HX.out.2.2.2.2.1 g1 (fun k k' h1 h2 => (HNe.out k' k h2 h1).symm)
  have B1 := HX.out.2.2.1.grown g1 (by have := HX.out.2.2.1.size; have := HZ.out; omega) (fun g hg => (ho g hg).1)
  have K0 := HX.out.1.grown g1 (fun e => by have := (ho _ e.symm).2; omega)
  have K1 := HX.out.2.1.grown g1 (fun e => by have := (ho _ e.symm).2; omega)
  have c0 := K0.cell 0
  have c1' := K0.cell 1
  have f0 := K0.frozen 0
  have d0 := K1.cell 0
  have d1 := K1.cell 1
  have f1 := K1.frozen 0
  have f2 := K1.frozen 1
  have hZ := HZ.out
  have HF := Lib.hid (two_boxes (X := .slice A1 (n - 1) c1) (Y := .slice B m d) K1 B1 (by omega) 0 (.slice A1 (n - 1) c1))
  have HOa := Lib.hid (own_boxes (s := w.heap.size) (j := 0) (Z := .slice A1 (n - 1) c1) (X := .slice A1 (n - 1) c1) (Y := .slice B m d) o1 (fun k hk => by
    rcases hk1 k hk with h | h
    · have := ho k h; omega
    · omega))
  have HOb := Lib.hid (own_boxes (s := w.heap.size) (j := 0) (Z := .slice A1 (n - 1) c1) (X := .slice A1 (n - 1) c1) (Y := .slice B m d) ot (fun k hk => by have := ho2 k hk; omega))
  clear ho ho2 ot B1 K0 K1 o1 hk1 g1 hZ
  go_wp2_with fail
  exact bodyPost_ret (v := .agg #[.slice A1 (n - 1) c1, .slice B m d]) (results_cell_row Try.results50 _ _ _ _ _ _ _ rfl HF.out.1 Try.underlying25 rfl (by kernel_rfl)) rfl ⟨A1, n - 1, c1, B, m, d, rfl, HLn.out.1, HLn.out.2, HOa.out, HOb.out, HF.out.2⟩

set_option maxRecDepth 100000 in
set_option maxHeartbeats 4000000 in
theorem adddo_any (b : Nat) (A : Option Addr) (n c : Nat) (ds : List Dom) (B : Option Addr) (m d : Nat) (us : List Vc) (bp bi bd bm p : Nat) (x1 x2 : Int) (x3 x4 : Nat) (w : World) (hG : G2 w b A n c ds B m d us) (hb : b ≤ w.heap.size) (hm : m ≤ 1000) (hp : p ≤ m) (hbp : bp < b) (kbp : w.cell? ⟨bp, 0, none⟩ = some (.int .i64 (p : Int))) (hbi : bi < b) (kbi : w.cell? ⟨bi, 0, none⟩ = some (.int .i64 x1)) (hbd : bd < b) (kbd : w.cell? ⟨bd, 0, none⟩ = some (.int .i64 x2)) (hbm : bm < b) (kbm0 : w.cell? ⟨bm, 0, none⟩ = some (.int .u32 (x3 : Int))) (kbm1 : w.cell? ⟨bm, 1, none⟩ = some (.int .u32 (x4 : Int))) :
    Calls Try.prog 56 #[.agg #[.slice A n c, .slice B m d], .pointer (some ⟨bp, 0, none⟩), .pointer (some ⟨bi, 0, none⟩), .pointer (some ⟨bd, 0, none⟩), .pointer (some ⟨bm, 0, none⟩)] w (DoesG b ds (us.take p ++ (x1, x2, x3, x4) :: us.drop p) w) := by
  have hl := own_vlen hG.vcs
  have hl2 := own_dlen hG.doms
  obtain ⟨J0, J1, JB⟩ := blks2 w 25 25 #[.slice A n c, .slice B m d] #[.slice none 0 0, .slice none 0 0]
  replace JB := JB.mono hb
  have HKc := Lib.hid (fun (u : World) (h : Below b w u) => And.intro ((h.cell (p := ⟨bp, 0, none⟩) hbp).trans kbp) (And.intro ((h.cell (p := ⟨bi, 0, none⟩) hbi).trans kbi) (And.intro ((h.cell (p := ⟨bd, 0, none⟩) hbd).trans kbd) (And.intro ((h.cell (p := ⟨bm, 0, none⟩) hbm).trans kbm0) ((h.cell (p := ⟨bm, 1, none⟩) hbm).trans kbm1)))))
  have e_kbp := (HKc.out _ JB).1
  have e_kbi := (HKc.out _ JB).2.1
  have e_kbd := (HKc.out _ JB).2.2.1
  have e_kbm0 := (HKc.out _ JB).2.2.2.1
  have e_kbm1 := (HKc.out _ JB).2.2.2.2
  have a0 := J0.cell 1
  have hlt : ∀ k, (Value.slice A n c).ownBlock = some k ∨ (Value.slice B m d).ownBlock = some k → b ≤ k ∧ k < w.heap.size := fun k hk => by
    rcases hk with h | h
    · exact hG.doms.lt k h
    · exact hG.vcs.lt k h
  have D2 := (hG.doms.alloc (.cells #[.slice A n c, .slice B m d] 25)).alloc (.cells #[.slice none 0 0, .slice none 0 0] 25)
  have V2 := (hG.vcs.alloc (.cells #[.slice A n c, .slice B m d] 25)).alloc (.cells #[.slice none 0 0, .slice none 0 0] 25)
  obtain ⟨W2, hW2⟩ : ∃ W2, (w.alloc (.cells #[.slice A n c, .slice B m d] 25)).alloc (.cells #[.slice none 0 0, .slice none 0 0] 25) = W2 := ⟨_, rfl⟩
  have hsz : W2.heap.size = w.heap.size + 1 + 1 := by rw [← hW2]; simp
  have KV := Blk.new W2 50 (agV (x1, x2, x3, x4))
  have J0' : Blk (W2.alloc (.cells (agV (x1, x2, x3, x4)) 50)) w.heap.size 25 #[.slice A n c, .slice B m d] := by rw [← hW2]; exact J0.alloc _
  have J1' : Blk (W2.alloc (.cells (agV (x1, x2, x3, x4)) 50)) (w.heap.size + 1) 25 #[.slice none 0 0, .slice none 0 0] := by rw [← hW2]; exact J1.alloc _
  have JB' : Below b w (W2.alloc (.cells (agV (x1, x2, x3, x4)) 50)) := by rw [← hW2]; exact JB.alloc (by have := JB.size; omega) _
  have D3 : (W2.alloc (.cells (agV (x1, x2, x3, x4)) 50)).ownsRow b 27 4 (.slice A n c) n (flat dv ds) := by rw [← hW2]; exact D2.alloc _
  have V3 : (W2.alloc (.cells (agV (x1, x2, x3, x4)) 50)).ownsRow b 50 4 (.slice B m d) m (flat cv us) := by rw [← hW2]; exact V2.alloc _
  have HI := Lib.hid (vinsert_any b m d p B us W2.heap.size (x1, x2, x3, x4) _ V3 (by simp [hsz]; omega) KV (fun k hk => by have := (hlt k (.inr hk)).2; omega) hl (by omega) (by omega))
  have hs3 : (W2.alloc (.cells (agV (x1, x2, x3, x4)) 50)).heap.size = w.heap.size + 1 + 1 + 1 := by simp [hsz]
  obtain ⟨W3, hW3⟩ : ∃ W3, W2.alloc (.cells (agV (x1, x2, x3, x4)) 50) = W3 := ⟨_, rfl⟩
  rw [hW3] at J0' J1' JB' D3 V3 HI hs3

  have HX := Lib.hid (And.intro J0' (And.intro J1' (And.intro JB' (And.intro D3 (And.intro V3 hlt)))))
  have HNe := Lib.hid hG.ne
  have HLn : Hid ((us.take p ++ (x1, x2, x3, x4) :: us.drop p).length = m + 1 ∧ ds.length = n) := Lib.hid ⟨by simp; omega, hl2⟩
  have HZ := Lib.hid (And.intro hs3 hb)
  have H2 := Lib.hid hW2
  have H3 := Lib.hid hW3
  rw [hW2] at a0 e_kbp e_kbi e_kbd e_kbm0 e_kbm1
  clear J0' J1' JB' D3 V3 hlt hG hl hl2 hb hsz hs3 J0 J1 JB D2 V2 hW2 KV hW3 kbp kbi kbd kbm0 kbm1 hbp hbi hbd hbm
  go_enter Try.func56, Try.ntmps56
  go_upto_region 1 with fail
  rw [H2.out]
  go_wp2_with fail
  rw [H3.out]
  refine HI.out.mono ?_
  rintro e w1 ⟨⟨A1, c1, rfl, o1, hk1⟩, g1⟩
  have ho : ∀ k, (Value.slice B m d).ownBlock = some k → b ≤ k ∧ k < w.heap.size := fun k hk => HX.out.2.2.2.2.2 k (.inr hk)
  have ho2 : ∀ k, (Value.slice A n c).ownBlock = some k → b ≤ k ∧ k < w.heap.size := fun k hk => HX.out.2.2.2.2.2 k (.inl hk)
  have ot := own_other HX.out.2.2.2.1 g1 (fun k k' h1 h2 => HNe.out k k' h1 h2)
  have B1 := HX.out.2.2.1.grown g1 (by have := HX.out.2.2.1.size; have := HZ.out; omega) (fun g hg => (ho g hg).1)
  have K0 := HX.out.1.grown g1 (fun e => by have := (ho _ e.symm).2; omega)
  have K1 := HX.out.2.1.grown g1 (fun e => by have := (ho _ e.symm).2; omega)
  have c0 := K0.cell 0
  have c1' := K0.cell 1
  have f0 := K0.frozen 1
  have d0 := K1.cell 0
  have d1 := K1.cell 1
  have f1 := K1.frozen 0
  have f2 := K1.frozen 1
  have hZ := HZ.out
  have HF := Lib.hid (two_boxes (X := .slice A n c) (Y := .slice A1 (m + 1) c1) K1 B1 (by omega) 1 (.slice A1 (m + 1) c1))
  have HOa := Lib.hid (own_boxes (s := w.heap.size) (j := 1) (Z := .slice A1 (m + 1) c1) (X := .slice A n c) (Y := .slice A1 (m + 1) c1) o1 (fun k hk => by
    rcases hk1 k hk with h | h
    · have := ho k h; omega
    · omega))
  have HOb := Lib.hid (own_boxes (s := w.heap.size) (j := 1) (Z := .slice A1 (m + 1) c1) (X := .slice A n c) (Y := .slice A1 (m + 1) c1) ot (fun k hk => by have := ho2 k hk; omega))
  clear ho ho2 ot B1 K0 K1 o1 hk1 g1 hZ
  go_wp2_with fail
  exact bodyPost_ret (v := .agg #[.slice A n c, .slice A1 (m + 1) c1]) (results_cell_row Try.results56 _ _ _ _ _ _ _ rfl HF.out.1 Try.underlying25 rfl (by kernel_rfl)) rfl ⟨A, n, c, A1, m + 1, c1, rfl, HLn.out.2, HLn.out.1, HOb.out, HOa.out, HF.out.2⟩

set_option maxRecDepth 100000 in
set_option maxHeartbeats 4000000 in
theorem dropdo_any (b : Nat) (A : Option Addr) (n c : Nat) (ds : List Dom) (B : Option Addr) (m d : Nat) (us : List Vc) (bp p : Nat)  (w : World) (hG : G2 w b A n c ds B m d us) (hb : b ≤ w.heap.size) (hm : m ≤ 1000) (hp : p < m) (hbp : bp < b) (kbp : w.cell? ⟨bp, 0, none⟩ = some (.int .i64 (p : Int))) :
    Calls Try.prog 59 #[.agg #[.slice A n c, .slice B m d], .pointer (some ⟨bp, 0, none⟩)] w (DoesG b ds (us.eraseIdx p) w) := by
  have hl := own_vlen hG.vcs
  have hl2 := own_dlen hG.doms
  obtain ⟨J0, J1, JB⟩ := blks2 w 25 25 #[.slice A n c, .slice B m d] #[.slice none 0 0, .slice none 0 0]
  replace JB := JB.mono hb
  have HKc := Lib.hid (fun (u : World) (h : Below b w u) => (h.cell (p := ⟨bp, 0, none⟩) hbp).trans kbp)
  have e_kbp := (HKc.out _ JB)
  have a0 := J0.cell 1
  have hlt : ∀ k, (Value.slice A n c).ownBlock = some k ∨ (Value.slice B m d).ownBlock = some k → b ≤ k ∧ k < w.heap.size := fun k hk => by
    rcases hk with h | h
    · exact hG.doms.lt k h
    · exact hG.vcs.lt k h
  have D2 := (hG.doms.alloc (.cells #[.slice A n c, .slice B m d] 25)).alloc (.cells #[.slice none 0 0, .slice none 0 0] 25)
  have V2 := (hG.vcs.alloc (.cells #[.slice A n c, .slice B m d] 25)).alloc (.cells #[.slice none 0 0, .slice none 0 0] 25)
  obtain ⟨W2, hW2⟩ : ∃ W2, (w.alloc (.cells #[.slice A n c, .slice B m d] 25)).alloc (.cells #[.slice none 0 0, .slice none 0 0] 25) = W2 := ⟨_, rfl⟩
  have hsz : W2.heap.size = w.heap.size + 1 + 1 := by rw [← hW2]; simp
  have J0' : Blk W2 w.heap.size 25 #[.slice A n c, .slice B m d] := by rw [← hW2]; exact J0
  have J1' : Blk W2 (w.heap.size + 1) 25 #[.slice none 0 0, .slice none 0 0] := by rw [← hW2]; exact J1
  have JB' : Below b w W2 := by rw [← hW2]; exact JB
  have D3 : W2.ownsRow b 27 4 (.slice A n c) n (flat dv ds) := by rw [← hW2]; exact D2
  have V3 : W2.ownsRow b 50 4 (.slice B m d) m (flat cv us) := by rw [← hW2]; exact V2
  have HI := Lib.hid (vdelete_any b m d p B us _ V3 hl (by omega) (by omega))
  have hs3 := hsz
  have p9 : p < 1000 := by omega
  have HX := Lib.hid (And.intro J0' (And.intro J1' (And.intro JB' (And.intro D3 (And.intro V3 hlt)))))
  have HNe := Lib.hid hG.ne
  have HLn : Hid ((us.eraseIdx p).length = m - 1 ∧ ds.length = n) := Lib.hid ⟨by rw [List.length_eraseIdx]; split <;> omega, hl2⟩
  have HZ := Lib.hid (And.intro hs3 hb)
  have H2 := Lib.hid hW2

  rw [hW2] at a0 e_kbp
  clear J0' J1' JB' D3 V3 hlt hG hl hl2 hb hsz hs3 J0 J1 JB D2 V2 hW2  kbp hbp
  go_enter Try.func59, Try.ntmps59
  go_upto_region 1 with fail
  rw [H2.out]
  go_wp2_with fail

  refine HI.out.mono ?_
  rintro e w1 ⟨⟨A1, c1, rfl, o1, hk1⟩, g1⟩
  have ho : ∀ k, (Value.slice B m d).ownBlock = some k → b ≤ k ∧ k < w.heap.size := fun k hk => HX.out.2.2.2.2.2 k (.inr hk)
  have ho2 : ∀ k, (Value.slice A n c).ownBlock = some k → b ≤ k ∧ k < w.heap.size := fun k hk => HX.out.2.2.2.2.2 k (.inl hk)
  have ot := own_other HX.out.2.2.2.1 g1 (fun k k' h1 h2 => HNe.out k k' h1 h2)
  have B1 := HX.out.2.2.1.grown g1 (by have := HX.out.2.2.1.size; have := HZ.out; omega) (fun g hg => (ho g hg).1)
  have K0 := HX.out.1.grown g1 (fun e => by have := (ho _ e.symm).2; omega)
  have K1 := HX.out.2.1.grown g1 (fun e => by have := (ho _ e.symm).2; omega)
  have c0 := K0.cell 0
  have c1' := K0.cell 1
  have f0 := K0.frozen 1
  have d0 := K1.cell 0
  have d1 := K1.cell 1
  have f1 := K1.frozen 0
  have f2 := K1.frozen 1
  have hZ := HZ.out
  have HF := Lib.hid (two_boxes (X := .slice A n c) (Y := .slice A1 (m - 1) c1) K1 B1 (by omega) 1 (.slice A1 (m - 1) c1))
  have HOa := Lib.hid (own_boxes (s := w.heap.size) (j := 1) (Z := .slice A1 (m - 1) c1) (X := .slice A n c) (Y := .slice A1 (m - 1) c1) o1 (fun k hk => by
    rcases hk1 k hk with h | h
    · have := ho k h; omega
    · omega))
  have HOb := Lib.hid (own_boxes (s := w.heap.size) (j := 1) (Z := .slice A1 (m - 1) c1) (X := .slice A n c) (Y := .slice A1 (m - 1) c1) ot (fun k hk => by have := ho2 k hk; omega))
  clear ho ho2 ot B1 K0 K1 o1 hk1 g1 hZ
  go_wp2_with fail
  exact bodyPost_ret (v := .agg #[.slice A n c, .slice A1 (m - 1) c1]) (results_cell_row Try.results59 _ _ _ _ _ _ _ rfl HF.out.1 Try.underlying25 rfl (by kernel_rfl)) rfl ⟨A, n, c, A1, m - 1, c1, rfl, HLn.out.2, HLn.out.1, HOb.out, HOa.out, HF.out.2⟩

end Go.Proofs.Ytknimnopopnbhaa
