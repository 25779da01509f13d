/-
  Entities sorted: the library's slices.SortFunc by the landed comparison. No statement is proved here.
-/
import Derived.Test.YtngbamoffjlodaaZMi
import Derived.Test.YtngbamoffjlodaaZMg
import Derived.Test.YtngbamoffjlodaaZShelf
import Derived.Shelf.SlSortCmp.NoneTotal
namespace Go.Proofs.Ytngbamoffjlodaa
open Go.RowKit
open Go.Sort (flatK size_flatK get_flatK HoldsK)

theorem grown_sorted (w : World) (g : Nat) (F : Array Value) (q : Nat) (os : Array Obj) : w.grownBy (Sort.grow (Sort.putRow id (Sort.ahead w q) g 0 F) os) (some g) := by
  refine ⟨rfl, rfl, rfl, by simp [Sort.grow, Sort.putRow, Sort.mapBlock, Sort.ahead], fun i hi hne => ?_⟩
  show ((w.heap.modify g _) ++ os)[i]? = _
  rw [Array.getElem?_append_left (by simpa using hi), Array.getElem?_modify, if_neg (fun e => hne (by rw [e]))]
theorem own_sorted {w : World} {B g n c : Nat} {E E' : List En} (h : w.ownsRow B 47 6 (.slice (some ⟨g, 0, none⟩) n c) n (flat ev E)) {F : Array Value} (hF : F.toList = flat ev E') (hl : E'.length = E.length) (q : Nat) (os : Array Obj) :
    (Sort.grow (Sort.putRow id (Sort.ahead w q) g 0 F) os).ownsRow B 47 6 (.slice (some ⟨g, 0, none⟩) n c) n (flat ev E') := by
  have hlen := h.1
  have hlen' : (flat ev E').length = n * 6 := by rw [length_flat ev length_ev, hl, ← length_flat ev length_ev]; exact hlen
  refine ⟨hlen', .inr ?_⟩
  rcases h.2 with ⟨h0, _⟩ | ⟨g', cap, cur, hv, hb, hg, h1, h2, h3, h4⟩
  · cases h0
  · injection hv with hv1 hv2 hv3
    injection hv1 with hv1
    injection hv1 with hv1
    subst hv1 hv3
    have hFs : F.size = n * 6 := by rw [← hlen', ← hF]; simp
    refine ⟨g, c, Sort.putCells id 0 F cur, rfl, hb, ?_, h1, h2, by unfold Sort.putCells; rw [Array.size_mapIdx]; exact h3, ?_⟩
    · show ((w.heap.modify g (Sort.onCells (Sort.putCells id 0 F))) ++ os)[g]? = _
      have hlt : g < w.heap.size := (Array.getElem?_eq_some_iff.1 hg).1
      rw [Array.getElem?_append_left (by simpa using hlt), Array.getElem?_modify, if_pos rfl, hg]
      rfl
    · rw [← hF]
      have hcs : n * 6 ≤ cur.size := by rw [h3]; exact Nat.mul_le_mul_right 6 h1
      apply List.ext_getElem?
      intro j
      rw [List.getElem?_take, Array.getElem?_toList, Array.getElem?_toList]
      unfold Sort.putCells
      rw [Array.getElem?_mapIdx]
      split
      · rename_i hj
        rw [Array.getElem?_eq_getElem (show j < cur.size by omega), Option.map_some, if_pos (by omega), Array.getElem?_eq_getElem (show j < F.size by omega)]
        show some (F[j - 0]!) = _
        rw [Nat.sub_zero, getElem!_pos F j (by omega)]
      · rename_i hj
        rw [Array.getElem?_eq_none (by omega)]

def gE (E : List En) (i : Nat) : En := E.getD i default
theorem gE_at {E : List En} {i : Nat} {e : En} (h : E[i]? = some e) : gE E i = e := by unfold gE; rw [List.getD_eq_getElem?_getD, h]; rfl
def encE (E : List En) (m : Nat) (i : Fin (m + 1)) : List Value := ev (gE E i.val)
def idx (m : Nat) : Array (Fin (m + 1)) := Array.ofFn id
def cfE (E : List En) (m : Nat) (x y : Fin (m + 1)) : Int := standI (et (gE E x.val)) (et (gE E y.val))
theorem lt_cfE (E : List En) (m : Nat) (x y : Fin (m + 1)) : ltOf (cfE E m) x y = decide (standI (et (gE E x.val)) (et (gE E y.val)) < 0) := rfl
theorem size_idx (m : Nat) : (idx m).size = m + 1 := by simp [idx]
theorem idx_at (m j : Nat) (hj : j < m + 1) : (idx m)[j]! = ⟨j, hj⟩ := by
  rw [getElem!_pos _ j (by rw [size_idx]; exact hj)]
  simp [idx]
def rowE (E : List En) (m : Nat) (d : Array (Fin (m + 1))) : List En := d.toList.map fun i => gE E i.val
theorem flatK_row (E : List En) (m : Nat) (d : Array (Fin (m + 1))) : (flatK (encE E m) 6 d).toList = flat ev (rowE E m d) := by
  apply List.ext_getElem?
  intro j
  have hz : (flat ev (rowE E m d)).length = d.size * 6 := by rw [length_flat ev length_ev]; simp [rowE]
  by_cases hj : j < d.size * 6
  · have h6 : j = (j / 6) * 6 + j % 6 := by omega
    have hd : j / 6 < d.size := by omega
    have hx : (rowE E m d)[j / 6]? = some (gE E (d[j / 6]).val) := by
      unfold rowE
      rw [List.getElem?_map, Array.getElem?_toList, Array.getElem?_eq_getElem hd]
      rfl
    have hr := flat_at ev length_ev hx (j % 6) (Nat.mod_lt _ (by omega))
    rw [← h6] at hr
    rw [hr, Array.getElem?_toList, Array.getElem?_eq_getElem (by rw [size_flatK]; exact hj)]
    have hk := get_flatK (encE E m) 6 d j hj
    rw [getElem!_pos _ j (by rw [size_flatK]; exact hj)] at hk
    rw [hk, getElem!_pos d _ hd]
    show some ((ev (gE E (d[j / 6]).val))[j % 6]!) = _
    rw [List.getElem?_eq_getElem (by rw [length_ev]; exact Nat.mod_lt _ (by omega)), getElem!_pos]
  · rw [List.getElem?_eq_none (by simpa using hj), List.getElem?_eq_none (by omega)]
theorem row_idx {E : List En} {m : Nat} (h : E.length = m + 1) : rowE E m (idx m) = E := by
  apply List.ext_getElem?
  intro j
  unfold rowE
  rw [List.getElem?_map, Array.getElem?_toList]
  by_cases hj : j < m + 1
  · rw [Array.getElem?_eq_getElem (by rw [size_idx]; exact hj), List.getElem?_eq_getElem (by omega)]
    show some (gE E _) = _
    have := idx_at m j hj
    rw [getElem!_pos _ j (by rw [size_idx]; exact hj)] at this
    rw [this]
    rw [gE_at (List.getElem?_eq_getElem (by omega))]
  · rw [Array.getElem?_eq_none (by rw [size_idx]; omega), List.getElem?_eq_none (by omega)]
    rfl

theorem ext_all {α : Type} (d : Array α) {k : Nat} (h : d.size ≤ k) : (d.extract 0 k).toList = d.toList := by
  apply List.ext_getElem?
  intro j
  rw [Array.getElem?_toList, Array.getElem?_toList, Array.getElem?_extract]
  by_cases hj : j < d.size
  · rw [if_pos (by omega), Nat.zero_add]
  · rw [if_neg (by omega), Array.getElem?_eq_none (by omega)]
/-- entities whose members lie apart from their own row, and which can stand -/
structure EG (w : World) (B blk : Nat) (E : List En) : Prop where
  mem : ∀ e ∈ E, w.ownsRow B 3 1 (slE e) e.1.2.1 (vs e.1.2.2.2)
  ne : ∀ e ∈ E, ∀ j, (slE e).ownBlock = some j → j ≠ blk
  some_ : ∀ e ∈ E, 0 < e.1.2.1
  u64 : ∀ e ∈ E, e.2.1.1 < 2 ^ 64 ∧ e.2.1.2.1 < 2 ^ 64 ∧ e.2.1.2.2 < 2 ^ 64
  can : ∀ e ∈ E, canE (et e) = true
theorem fst_own {w w' : World} {B blk : Nat} {A : Option Addr} {n c : Nat} {is : List Int} (h : w.ownsRow B 3 1 (.slice A n c) n (vs is)) (h0 : 0 < n) (hne : ∀ j, (Value.slice A n c).ownBlock = some j → j ≠ blk) (hg : w.grownBy w' (some blk)) : Fst w' A n (is.getD 0 0) := by
  have hr := Reads.of_own h
  have hl : is.length = n := by have := hr.1; rw [length_vs] at this; omega
  obtain ⟨ad, e, hb, hc⟩ := hr.2 h0
  subst e
  obtain ⟨x, hx⟩ : ∃ x, is[0]? = some x := elem_at (by omega)
  have hc0 := hc 0 (.int .i64 x) (by unfold vs; rw [List.getElem?_map, hx]; rfl)
  rw [Addr.add_zero'] at hc0
  refine ⟨h0, ad, rfl, Nat.lt_of_lt_of_le hb hg.size, ?_⟩
  rw [show is.getD 0 0 = x from getD_at hx]
  exact hg.cell hc0 (fun e => hne ad.block rfl (by injection e))

set_option maxRecDepth 100000 in
theorem sort_any (B blk n c g g2 : Nat) (E : List En) (w : World) (hC : CH w g g2) (hg : g ≠ blk) (hg2 : g2 ≠ blk) (hO : w.ownsRow B 47 6 (.slice (some ⟨blk, 0, none⟩) n c) n (flat ev E)) (hG : EG w B blk E) (hn : n ≤ 1000) (h0 : 0 < n) :
    Calls Try.prog 40 #[.slice (some ⟨blk, 0, none⟩) n c, .func (.func 91) #[] #[.pointer (some ⟨g, 0, none⟩)]] w fun e w' =>
      e = .returned (.tuple #[]) ∧ ∃ E' : List En, E'.Perm E ∧ (E'.map et).Pairwise leE ∧ w'.ownsRow B 47 6 (.slice (some ⟨blk, 0, none⟩) n c) n (flat ev E') ∧ w.grownBy w' (some blk) := by
  have hlE : E.length = n := by
    have h1 := hO.1
    rw [length_flat ev length_ev] at h1
    omega
  obtain ⟨m, rfl⟩ : ∃ m, n = m + 1 := ⟨n - 1, by omega⟩
  have hblk : B ≤ blk ∧ blk < w.heap.size := hO.lt blk rfl
  have hm : ∀ i : Fin (m + 1), gE E i.val ∈ E := fun i => by
    have := i.2
    rw [gE_at (List.getElem?_eq_getElem (show i.val < E.length by omega))]
    exact List.getElem_mem _
  have hfl : (flatK (encE E m) 6 (idx m)).toList = flat ev E := (flatK_row E m (idx m)).trans (by rw [row_idx hlE])
  have hH : HoldsK (encE E m) 6 w blk 0 (idx m) := by
    intro j hj
    rw [size_flatK, size_idx] at hj
    have h1 := hO.cells (g := blk) rfl j ((flatK (encE E m) 6 (idx m))[j]!) (by
      rw [← hfl, Array.getElem?_toList, Array.getElem?_eq_getElem (by rw [size_flatK, size_idx]; exact hj), getElem!_pos _ j (by rw [size_flatK, size_idx]; exact hj)])
    refine ⟨?_, ?_⟩
    · rw [Addr.add_lit] at h1
      exact h1
    · rw [Nat.zero_add]
      exact hO.frozenAt j
  have eg : ∀ args w, (callFunc 91 args).run Try.prog w = .ok (.enter 91 args) w := enters_of Try.func91 (by kernel_rfl) rfl
  have hcmp : CmpLays Try.prog 91 #[.pointer (some ⟨g, 0, none⟩)] (encE E m) 6 (cfE E m) blk 0 (idx m).size w := by
    intro q os dk hdk x y
    have hgr : w.grownBy (sortWorldK (encE E m) 6 w blk 0 q dk os) (some blk) := grown_sorted w blk _ q os
    generalize sortWorldK (encE E m) 6 w blk 0 q dk os = W at hgr ⊢
    have hCW : CH W g g2 := ⟨hC.box.grown hgr (fun e => by injection e with e; exact hg e), hC.row.grown hgr (fun e => by injection e with e; exact hg2 e)⟩
    have hx := hm x
    have hy := hm y
    unfold encE cfE
    generalize gE E x.val = ex at hx ⊢
    generalize gE E y.val = ey at hy ⊢
    have F1 := fst_own (hG.mem ex hx) (hG.some_ ex hx) (hG.ne ex hx) hgr
    have F2 := fst_own (hG.mem ey hy) (hG.some_ ey hy) (hG.ne ey hy) hgr
    have u1 := hG.u64 ex hx
    have u2 := hG.u64 ey hy
    obtain ⟨⟨A1, n1, k1, is1⟩, ⟨a1, b1, x1⟩, o1, f1⟩ := ex
    obtain ⟨⟨A2, n2, k2, is2⟩, ⟨a2, b2, x2⟩, o2, f2⟩ := ey
    have q := chained_any A1 n1 k1 a1 b1 x1 o1 f1 A2 n2 k2 a2 b2 x2 o2 f2 g g2 (cmpF f1 f2) (cmpT (a1, b1, x1) (a2, b2, x2)) (cmpW o1 o2) (cmpY (is1.getD 0 0) (is2.getD 0 0)) W hCW
      (fun u _ => byfresh_any A1 n1 k1 a1 b1 x1 o1 f1 A2 n2 k2 a2 b2 x2 o2 f2 u)
      (fun u _ => bytime_any A1 n1 k1 a1 b1 x1 o1 f1 A2 n2 k2 a2 b2 x2 o2 f2 u u1.1 u1.2.1 u1.2.2 u2.1 u2.2.1 u2.2.2)
      (fun u _ => byorder_any A1 n1 k1 a1 b1 x1 o1 f1 A2 n2 k2 a2 b2 x2 o2 f2 u)
      (fun u hu => bymember_any A1 n1 k1 a1 b1 x1 o1 f1 A2 n2 k2 a2 b2 x2 o2 f2 _ _ u (F1.gr hu) (F2.gr hu))
    exact q.mono fun e w' ⟨he, hw⟩ => ⟨he, hw.grows⟩
  have hO2 : Sort.SWO (ltOf (cfE E m)) := by
    have hv : ∀ i : Fin (m + 1), canE (et (gE E i.val)) = true := fun i => hG.can _ (hm i)
    refine ⟨fun x => ?_, fun x y z h1 h2 => ?_, fun x y z h1 h2 => ?_⟩
    · have := stand_cmp.neg (et (gE E x.val)) (et (gE E x.val))
      rw [lt_cfE, decide_eq_false_iff_not]
      omega
    · rw [lt_cfE, decide_eq_true_eq] at *
      exact (stand_cmp.tr _ _ _ (hv x) (hv y) (hv z) (by omega) (by omega)).2 (.inl h1)
    · rw [lt_cfE, decide_eq_false_iff_not] at *
      have a1 := stand_cmp.neg (et (gE E x.val)) (et (gE E y.val))
      have a2 := stand_cmp.neg (et (gE E y.val)) (et (gE E z.val))
      have a3 := stand_cmp.neg (et (gE E x.val)) (et (gE E z.val))
      have := (stand_cmp.tr _ _ _ (hv z) (hv y) (hv x) (by omega) (by omega)).1
      omega
  have hs := AnyQ.slices_SortFunc Try.sortEnt 6 Try.isAgg47 Try.sizeOf47 (encE E m) (fun _ => rfl) (fun x v hv => by
    have := ev_ones [gE E x.val] v (by rw [flat_one]; exact hv)
    exact this) _ hO2 91 #[.pointer (some ⟨g, 0, none⟩)] blk 0 c (idx m) w eg hcmp hH hblk.2 (by rw [size_idx]; omega)
  rw [size_idx] at hs
  refine hs.mono ?_
  rintro e w' ⟨rfl, d', q, os, hp, hsd, rfl⟩
  have hds : d'.size = m + 1 := by rw [hp.1, size_idx]
  refine ⟨rfl, rowE E m d', ?_, ?_, own_sorted hO (flatK_row E m d') (by simp [rowE, hds, hlE]) q os, grown_sorted w blk _ q os⟩
  · have h3 := hp.2.2
    have e1 := ext_all d' (Nat.le_of_eq hds)
    have e2 := ext_all (idx m) (Nat.le_of_eq (size_idx m))
    rw [e1, e2] at h3
    have h4 := h3.map (fun i => gE E i.val)
    have h5 : (idx m).toList.map (fun i => gE E i.val) = E := row_idx hlE
    rw [h5] at h4
    exact h4
  · refine List.pairwise_map.2 (List.pairwise_map.2 (List.pairwise_iff_getElem.2 fun i j hi hj hij => ?_))
    rw [Array.length_toList, hds] at hi hj
    have h6 := hsd i j (by omega) hij hj
    rw [getElem!_pos d' i (by omega), getElem!_pos d' j (by omega)] at h6
    rw [lt_cfE, decide_eq_false_iff_not] at h6
    have := stand_cmp.neg (et (gE E (d'[i]'(by omega)).val)) (et (gE E (d'[j]'(by omega)).val))
    show standI _ _ ≤ 0
    simp only [Array.getElem_toList]
    omega

/-- .. of none, too -/
theorem sort_all (B n c g g2 : Nat) (A : Option Addr) (E : List En) (w : World) (hC : CH w g g2) (hgb : ∀ j, (Value.slice A n c).ownBlock = some j → g ≠ j ∧ g2 ≠ j) (hO : w.ownsRow B 47 6 (.slice A n c) n (flat ev E))
    (hm : ∀ e ∈ E, w.ownsRow B 3 1 (slE e) e.1.2.1 (vs e.1.2.2.2)) (hne : ∀ e ∈ E, ∀ j j', (slE e).ownBlock = some j → (Value.slice A n c).ownBlock = some j' → j ≠ j')
    (hs : ∀ e ∈ E, 0 < e.1.2.1) (hu : ∀ e ∈ E, e.2.1.1 < 2 ^ 64 ∧ e.2.1.2.1 < 2 ^ 64 ∧ e.2.1.2.2 < 2 ^ 64) (hc : ∀ e ∈ E, canE (et e) = true) (hn : n ≤ 1000) :
    Calls Try.prog 40 #[.slice A n c, .func (.func 91) #[] #[.pointer (some ⟨g, 0, none⟩)]] w fun e w' =>
      e = .returned (.tuple #[]) ∧ ∃ E' : List En, E'.Perm E ∧ (E'.map et).Pairwise leE ∧ w'.ownsRow B 47 6 (.slice A n c) n (flat ev E') ∧ w.grownBy w' (Value.slice A n c).ownBlock := by
  by_cases h0 : n = 0
  · subst h0
    have hE : E = [] := by
      have h1 := hO.1
      rw [length_flat ev length_ev] at h1
      exact List.eq_nil_of_length_eq_zero (by omega)
    subst hE
    refine (AnyF.slices_SortFunc_none Try.sortEnt A c _ w).mono ?_
    rintro e w' ⟨rfl, rfl⟩
    exact ⟨rfl, [], List.Perm.refl _, List.Pairwise.nil, hO, World.grownBy.refl _ _⟩
  · rcases hO.2 with ⟨_, h1⟩ | ⟨blk, cap, cur, hv, _⟩
    · exact absurd h1 h0
    · injection hv with hv1 hv2 hv3
      subst hv1 hv3
      exact sort_any B blk n c g g2 E w hC (hgb blk rfl).1 (hgb blk rfl).2 hO ⟨hm, fun e he j hj => hne e he j blk hj rfl, hs, hu, hc⟩ hn (by omega)

end Go.Proofs.Ytngbamoffjlodaa
