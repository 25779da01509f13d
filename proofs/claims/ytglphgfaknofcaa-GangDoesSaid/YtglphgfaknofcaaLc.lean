/-
  The document's Form. No statement is proved here.
-/
import Derived.Test.YtglphgfaknofcaaLb
import Derived.Test.YtglphgfaknofcaaKn
namespace Go.Proofs.Ytglphgfaknofcaa
open Go.RowKit Go.Maps

/-! ### the first number that none has -/
theorem gap_at {l : List Gm} {j : Nat} {g : Gm} (hj : j < gapG l) (hg : l[j]? = some g) : g.1 = (j : Int) + 1 := by
  have := (gapFrom_spec 0 l).2.1 j g hg (by rw [Nat.zero_add]; exact hj)
  simpa using this
theorem gap_ne {l : List Gm} {g : Gm} (hg : l[gapG l]? = some g) : g.1 ≠ ((gapG l : Nat) : Int) + 1 := (gapFrom_spec 0 l).2.2 g (by rw [Nat.sub_zero]; exact hg)
theorem ids_rise {l : List Gm} (h : AllG l) {i j : Nat} {x y : Gm} (hx : l[i]? = some x) (hy : l[j]? = some y) (hij : i < j) : x.1 < y.1 := by
  obtain ⟨i1, e1⟩ := List.getElem?_eq_some_iff.1 hx
  obtain ⟨j1, e2⟩ := List.getElem?_eq_some_iff.1 hy
  have := (List.pairwise_iff_getElem.1 h.2 i j i1 j1 hij).1
  rw [e1, e2] at this
  exact this
theorem gap_over {l : List Gm} (h : AllG l) {k : Nat} {g : Gm} (hg : l[k]? = some g) : (k < gapG l → g.1 ≤ (gapG l : Int)) ∧ (gapG l ≤ k → (gapG l : Int) + 1 < g.1) := by
  refine ⟨fun hk => by have := gap_at hk hg; omega, fun hk => ?_⟩
  have h1 := all_ids h k g hg
  rcases Nat.lt_or_ge (gapG l) k with hlt | hge
  · omega
  · have e : gapG l = k := by omega
    have h2 := gap_ne (l := l) (g := g) (by rw [e]; exact hg)
    omega
theorem gap_find {l : List Gm} {j : Nat} (hj : j < gapG l) : ∃ g, l.find? (isV ((j : Int) + 1)) = some g := by
  have hl := gap_le l
  obtain ⟨g, hg⟩ := elem_at (l := l) (k := j) (by omega)
  cases hf : l.find? (isV ((j : Int) + 1)) with
  | some x => exact ⟨x, rfl⟩
  | none =>
    have := List.find?_eq_none.1 hf g (List.mem_of_getElem? hg)
    exact absurd (by unfold isV; simpa using gap_at hj hg) this
theorem gap_none {l : List Gm} (h : AllG l) : l.find? (isV ((gapG l : Int) + 1)) = none := by
  refine List.find?_eq_none.2 fun g hg hp => ?_
  obtain ⟨k, hk⟩ := List.mem_iff_getElem?.1 hg
  have h1 := gap_over h hk
  have h2 : g.1 = (gapG l : Int) + 1 := by unfold isV at hp; simpa using hp
  rcases Nat.lt_or_ge k (gapG l) with hlt | hge
  · have := h1.1 hlt; omega
  · have := h1.2 hge; omega
theorem gap_full {l : List Gm} (h : AllG l) : (8 < (gapG l : Int) + 1) ↔ l.length = 8 := by
  have hl := gap_le l
  have h8 := all_len h
  constructor
  · intro hg; omega
  · intro hlen
    apply Classical.byContradiction
    intro hn
    have hlt : gapG l < l.length := by omega
    obtain ⟨g, hg⟩ := elem_at hlt
    have h1 := (gap_over h hg).2 (Nat.le_refl _)
    -- the numbers from here on are too many
    have hup : ∀ d, ∀ (k : Nat) (x : Gm), l[k]? = some x → k + d + 1 = l.length → x.1 + d ≤ 8 := by
      intro d
      induction d with
      | zero => intro k x hx _; have := (h.1 x (List.mem_of_getElem? hx)).2.1; omega
      | succ d ih =>
        intro k x hx hk
        obtain ⟨y, hy⟩ := elem_at (l := l) (k := k + 1) (by omega)
        have := ih (k + 1) y hy (by omega)
        have := ids_rise h hx hy (by omega)
        omega
    have := hup (7 - gapG l) (gapG l) g hg (by omega)
    omega
theorem there_any {l : List Gm} (h : AllG l) (ms : List Int) : (l.any fun g => havB ms g) = ms.any fun v => decide (0 < dofV l v) := by
  rw [Bool.eq_iff_iff, List.any_eq_true, List.any_eq_true]
  constructor
  · rintro ⟨g, hg, hp⟩
    unfold havB at hp
    obtain ⟨v, hv, hvm⟩ := List.any_eq_true.1 hp
    exact ⟨v, of_decide_eq_true hvm, decide_eq_true ((dof_pos (fun x hx => (h.1 x hx).1) v).2 ⟨g, hg, hv⟩)⟩
  · rintro ⟨v, hv, hp⟩
    obtain ⟨g, hg, hvg⟩ := (dof_pos (fun x hx => (h.1 x hx).1) v).1 (of_decide_eq_true hp)
    exact ⟨g, hg, List.any_eq_true.2 ⟨v, hvg, decide_eq_true hv⟩⟩
/-- what is laid of the first k rows, and one more at its place -/
def insK {α : Type} (l : List α) (k gap : Nat) (x : α) : List α := if k ≤ gap then l.take k else l.take gap ++ x :: (l.take k).drop gap
theorem ins_len {α : Type} (l : List α) (k gap : Nat) (x : α) : (insK l k gap x).length ≤ l.length + 1 := by
  unfold insK
  split
  · rw [List.length_take]; omega
  · rw [List.length_append, List.length_cons, List.length_drop, List.length_take, List.length_take]; omega
theorem ins_ahead {α : Type} {l : List α} {k gap : Nat} {x y : α} (hy : l[k]? = some y) (hk : k < gap) : insK l (k + 1) gap x = insK l k gap x ++ [y] := by
  unfold insK
  rw [if_pos (by omega), if_pos (by omega), List.take_add_one, hy]
  rfl
theorem ins_here {α : Type} {l : List α} {gap : Nat} {x y : α} (hy : l[gap]? = some y) : insK l (gap + 1) gap x = insK l gap gap x ++ [x] ++ [y] := by
  have hl := (List.getElem?_eq_some_iff.1 hy).1
  unfold insK
  rw [if_neg (by omega), if_pos (Nat.le_refl _), List.take_add_one, hy, List.drop_append_of_le_length (by rw [List.length_take]; omega), List.drop_of_length_le (by rw [List.length_take]; omega), List.append_assoc]
  rfl
theorem ins_past {α : Type} {l : List α} {k gap : Nat} {x y : α} (hy : l[k]? = some y) (hk : gap < k) : insK l (k + 1) gap x = insK l k gap x ++ [y] := by
  have hl := (List.getElem?_eq_some_iff.1 hy).1
  unfold insK
  rw [if_neg (by omega), if_neg (by omega), List.take_add_one, hy, List.drop_append_of_le_length (by rw [List.length_take]; omega), List.append_assoc]
  rfl
theorem ins_end {α : Type} {l : List α} {gap : Nat} {x : α} (h : gap < l.length) : insK l l.length gap x = l.take gap ++ x :: l.drop gap := by
  unfold insK
  rw [if_neg (by omega), List.take_length]
theorem ins_last {α : Type} {l : List α} {x : α} : insK l l.length l.length x ++ [x] = l.take l.length ++ x :: l.drop l.length := by
  unfold insK
  rw [if_pos (Nat.le_refl _), List.drop_length]
def formV (l : List Gm) (ms : List Int) : Int × Int × List Gm := (unfV l ms, (if unfV l ms = 0 then (gapG l : Int) + 1 else 0), if unfV l ms = 0 then formG l ms else [])
/-- gangs, a number and an error that a call answers -/
def WSaid (V : Int × Int × List Gm) (w : World) (e : Ending) (w' : World) : Prop := ∃ A n c G, e = .returned (.tuple #[.agg #[.slice A n c], .int .i64 V.2.1, .int .i64 V.1]) ∧ NW w' A n G ∧ gsM G = V.2.2 ∧ n ≤ c ∧ (∀ b, b < w.heap.size → OffB b A n G) ∧ Below w.heap.size w w'
theorem dget_none {G : List Gn} {v : Int} (h : (gsM G).find? (isV v) = none) : dgetV G v = .slice none 0 0 := by
  unfold dgetV
  rw [find_gsM] at h
  cases hf : G.find? (fun g => g.1 == v) with
  | none => rfl
  | some g => rw [hf] at h; cases h
theorem dget_some {w : World} {A : Option Addr} {n : Nat} {G : List Gn} (hN : NW w A n G) (hm : ∀ g ∈ G, membersB g.2.2.2.2 = true) {v : Int} {x : Gm} (h : (gsM G).find? (isV v) = some x) : ∃ ad m c is, dgetV G v = .slice (some ad) m c ∧ IR w (some ad) m is ∧ x.2 = is ∧ 2 ≤ m := by
  unfold dgetV
  rw [find_gsM] at h
  cases hf : G.find? (fun g => g.1 == v) with
  | none => rw [hf] at h; cases h
  | some g =>
    rw [hf] at h
    injection h with h
    have hgm := List.mem_of_find?_eq_some hf
    have hI := (hN.each g hgm).1
    have h2 := (members_len (hm g hgm)).1
    obtain ⟨gi, Ag, mg, cg, ig⟩ := g
    dsimp only at hI h2 ⊢
    have hl := hI.len
    obtain ⟨ad, rfl, _⟩ := hI.row.2 (by omega)
    exact ⟨ad, mg, cg, ig, rfl, hI, by rw [← h]; rfl, by omega⟩
theorem fin_nw {W wr : World} {g b n c nc : Nat} {A Ac : Option Addr} {G GC : List Gn} {gap : Nat} (hP : PR W g A n c G wr) (hn : n ≤ 100) (hb : b < W.heap.size) (hNW : NW W Ac nc GC) (hOF : OffB g Ac nc GC) (hRS : ∀ x ∈ GC, ∀ ad, x.2.1 = some ad → 0 < x.2.2.1 → ad.block ≠ b)
    {x0 : Gn} (hI : IR W x0.2.1 x0.2.2.1 x0.2.2.2.2 ∧ x0.2.2.1 ≤ 100) (hB : ∀ ad, x0.2.1 = some ad → 0 < x0.2.2.1 → ad.block ≠ g) (hR : ∀ ad, x0.2.1 = some ad → 0 < x0.2.2.1 → ad.block ≠ b) (hG : G = GC.take gap ++ x0 :: GC.drop gap) (v : Value) : NW (wr.setCell ⟨b, 0, none⟩ v) A n G := by
  refine ⟨Reads.of_own (own_set hP.row (g := b) hb 0 v), hn, fun x hx => ?_⟩
  have hx2 : x = x0 ∨ x ∈ GC := by
    rw [hG, List.mem_append, List.mem_cons] at hx
    rcases hx with h | h | h
    · exact .inr (List.mem_of_mem_take h)
    · exact .inl h
    · exact .inr (List.mem_of_mem_drop h)
  rcases hx2 with rfl | h
  · exact ⟨ir_grown (g := b) (ir_grown hI.1 hB hP.kept) hR (grownBy_setCell0 wr b v), hI.2⟩
  · have h1 := (nw_kept hNW hOF hP.kept).each x h
    exact ⟨ir_grown (g := b) h1.1 (hRS x h) (grownBy_setCell0 wr b v), h1.2⟩
theorem fin_off {W wr : World} {g b0 n c nc : Nat} {A Ac : Option Addr} {G GC : List Gn} {gap : Nat} (hP : PR W g A n c G wr) (hb : b0 ≤ W.heap.size) {x0 : Gn} (hF : ∀ b, b < b0 → OffB b Ac nc GC ∧ ∀ ad, x0.2.1 = some ad → 0 < x0.2.2.1 → ad.block ≠ b) (hG : G = GC.take gap ++ x0 :: GC.drop gap) : ∀ b, b < b0 → OffB b A n G := fun b hbb =>
  ⟨own_farB hP.row (by omega), fun x hx => by
    rw [hG, List.mem_append, List.mem_cons] at hx
    rcases hx with h | h | h
    · exact (hF b hbb).1.mem x (List.mem_of_mem_take h)
    · rw [h]; exact (hF b hbb).2
    · exact (hF b hbb).1.mem x (List.mem_of_mem_drop h)⟩
theorem right_each {G : List Gn} (h : rightG (gsM G) = true) : ∀ g ∈ G, membersB g.2.2.2.2 = true := fun g hg => ((right_all h).1 (gm g) (by unfold gsM; exact List.mem_map.2 ⟨g, hg, rfl⟩)).2.2

set_option maxRecDepth 100000 in
set_option maxHeartbeats 32000000 in
theorem dform_any (A : Option Addr) (n c : Nat) (gs : List Gn) (A2 : Option Addr) (m c2 : Nat) (ms : List Int) (w : World) (hG : NW w A n gs) (hr : rightG (gsM gs) = true) (hI : IR w A2 m ms) (hm17 : m ≤ 17) :
    Calls Try.prog 34 #[.agg #[.slice A n c], .slice A2 m c2] w (WSaid (formV (gsM gs) ms) w) := by
  obtain ⟨i0, ii, hz0, hz1, hz2⟩ := info_parts9 int_info
  obtain ⟨ji, hi1, hy0, hy1, hy2⟩ := info_parts9 gang_info
  obtain ⟨K0, K1, GB⟩ := blks2 w 24 24 #[.slice A n c] #[.slice none 0 0]
  have hAll := right_all hr
  have HG := Lib.hid hG
  have HR := Lib.hid hr
  have HI := Lib.hid hI
  have HM17 := Lib.hid hm17
  have HAll := Lib.hid hAll
  have HMe : Hid (∀ u, Below w.heap.size w u → Calls Try.prog 37 #[.slice A2 m c2] u (Said (.bool (membersB ms)) u)) := Lib.hid (fun (u : World) (h : Below w.heap.size w u) => (dmembers_any A2 m c2 ms u (hI.below h)).mono (fun _ _ h => ⟨h.1, h.2 ▸ Below.refl _ _⟩))
  have HOf := Lib.hid (fun (v : Int) (u : World) (h : Below w.heap.size w u) => dof_any A n c gs v u (hG.below h))
  have HGe := Lib.hid (fun (v : Int) (u : World) (h : Below w.heap.size w u) => dget_any A n c gs v u (hG.below h))
  have HCo := Lib.hid (fun (u : World) (h : Below w.heap.size w u) => dcopy_any A n c gs u (hG.below h))
  have HML := Lib.hid hI.len
  have hw1 : w.heap.size + 1 < ((w.alloc (.cells #[.slice A n c] 24)).alloc (.cells #[.slice none 0 0] 24)).heap.size := K1.lt
  have z0 := K0.cell 0
  cases hmb : membersB ms with
  | false =>
    have HV : Hid (formV (gsM gs) ms = (2, 0, [])) := Lib.hid (by unfold formV; rw [unf_2 hr hmb]; rfl)
    rw [hmb] at HMe
    clear hG hr hI hAll hmb HG HR HI HAll HOf HGe HCo hw1 hm17
    go_enter Try.func34, Try.ntmps34
    go_wp2_with fail
    refine (HMe.out _ GB).mono ?_
    rintro e u1 ⟨rfl, h9⟩
    replace K1 := K1.below h9 K1.lt
    replace GB := GB.trans (h9.mono GB.size)
    clear h9 z0 K0
    have d0 := K1.cell 0
    have f0 := K1.frozen 0
    have HP := Lib.hid (put1 (x := .slice none 0 0) K1 GB (by omega))
    clear K1 GB
    go_wp2_with fail
    exact bodyPost_ret (v := .tuple #[.agg #[.slice none 0 0], .int .i64 0, .int .i64 2]) (results_cell_tmp2 Try.results34 _ _ _ _ _ _ rfl HP.out.1 Try.underlying24 rfl (by kernel_rfl)) rfl ⟨none, 0, 0, [], by rw [HV.out], nw_nil, by rw [HV.out]; rfl, Nat.le_refl _, fun _ _ => offb_nil, HP.out.2⟩
  | true =>
    rw [hmb] at HMe
    have HMB := Lib.hid hmb
    obtain ⟨gap, hgap⟩ : ∃ g, gapG (gsM gs) = g := ⟨_, rfl⟩
    have HGP := Lib.hid hgap
    have m17 : m ≤ 17 := hm17
    clear hG hr hI hAll hmb hgap hm17
    go_enter Try.func34, Try.ntmps34
    go_wp2_with fail
    refine (HMe.out _ GB).mono ?_
    rintro e U0 ⟨rfl, h9⟩
    replace K0 := K0.below h9 K0.lt
    replace K1 := K1.below h9 K1.lt
    replace GB := GB.trans (h9.mono GB.size)
    have HHW : Hid (w.heap.size + 1 + 1 ≤ U0.heap.size) := Lib.hid (Nat.le_trans hw1 h9.size)
    clear h9 z0 HMe hw1
    go_wp2_with fail
    go_loopw [21] (fun iv wr => ∃ j : Nat, j ≤ m ∧ iv = .int .i64 (j : Int) ∧ Hid (∀ v ∈ ms.take j, (!decide (0 < dofV (gsM gs) v)) = true) ∧ Below U0.heap.size U0 wr) (fun iv _ => m - (intOf iv).toNat)
    case atStart => exact ⟨0, Nat.zero_le _, rfl, Lib.hid (by simp), Below.refl _ _⟩
    case round =>
      obtain ⟨j, hj, rfl, HA, hB⟩ := hrel
      replace K0 := K0.below hB K0.lt
      replace K1 := K1.below hB K1.lt
      replace GB := GB.trans (hB.mono GB.size)
      by_cases hjm : j < m
      · obtain ⟨v, hv⟩ := elem_at (l := ms) (k := j) (by rw [HML.out]; exact hjm)
        obtain ⟨ai, rfl, _, v0⟩ := (HI.out.below GB).at_ hv
        have HDo := Lib.hid (HOf.out v wr GB)
        have HV0 := Lib.hid hv
        obtain ⟨D, hD⟩ : ∃ D, dofV (gsM gs) v = D := ⟨_, rfl⟩
        rw [hD] at HDo
        have z0 := K0.cell 0
        have j1 : (0 : Int) ≤ (j : Int) := by omega
        have j2 : (j : Int) < (m : Int) := by omega
        have l2 : decide ((j : Int) < (m : Int)) = true := decide_eq_true j2
        clear hv
        by_cases hd : 0 < D
        · have q7 : decide (0 < D) = true := decide_eq_true hd
          have HV : Hid (formV (gsM gs) ms = (5, 0, [])) := Lib.hid (by
            unfold formV
            rw [unf_3 HR.out HMB.out (by rw [there_any HAll.out]; exact List.any_eq_true.2 ⟨v, List.mem_of_getElem? HV0.out, by rw [hD]; exact q7⟩)]
            rfl)
          clear hd hD HA hB
          go_wp2_with fail
          refine HDo.out.mono ?_
          rintro e w2 ⟨rfl, h9⟩
          replace K1 := K1.below h9 K1.lt
          replace GB := GB.trans (h9.mono GB.size)
          clear h9 K0 z0
          have d0 := K1.cell 0
          have f0 := K1.frozen 0
          have HP := Lib.hid (put1 (x := .slice none 0 0) K1 GB (by omega))
          clear K1 GB
          go_wp2_with fail
          exact bodyPost_ret (v := .tuple #[.agg #[.slice none 0 0], .int .i64 0, .int .i64 5]) (results_cell_tmp2 Try.results34 _ _ _ _ _ _ rfl HP.out.1 Try.underlying24 rfl (by kernel_rfl)) rfl ⟨none, 0, 0, [], by rw [HV.out], nw_nil, by rw [HV.out]; rfl, Nat.le_refl _, fun _ _ => offb_nil, HP.out.2⟩
        · have q7 : decide (0 < D) = false := decide_eq_false hd
          have HA2 := Lib.hid (take_snoc_all (p := fun v => !decide (0 < dofV (gsM gs) v)) HA.out HV0.out (by rw [hD, q7]; rfl))
          clear hd hD HA
          go_wp2_with fail
          refine HDo.out.mono ?_
          rintro e w2 ⟨rfl, h9⟩
          have hB2 := hB.trans (h9.mono hB.size)
          clear h9 K0 K1 z0 hB GB
          go_wp2_with fail
          go_roundw
          case rel => exact ⟨j + 1, by omega, by go_num, HA2, hB2⟩
          case measure => simp [intOf] <;> omega
      · obtain rfl : m = j := by omega
        have l2 : decide ((m : Int) < (m : Int)) = false := decide_eq_false (by omega)
        have HUN : Hid (unfV (gsM gs) ms = if (gsM gs).length = 8 then 6 else 0) := Lib.hid (unf_4 HR.out HMB.out (by
          rw [there_any HAll.out]
          apply Bool.eq_false_iff.2
          intro h
          obtain ⟨v, hv, hp⟩ := List.any_eq_true.1 h
          have h2 := HA.out v (by rw [← HML.out, List.take_length]; exact hv)
          rw [hp] at h2
          cases h2))
        have HU := Lib.hid (Nat.le_trans HHW.out hB.size)
        clear hB HA hjm hj
        as_aux_lemma =>
          go_wp2_with fail
          generalize wr = U1 at *
          go_loopw [9] (fun iv wr => ∃ j : Nat, j ≤ gap ∧ iv = .int .i64 ((j : Int) + 1) ∧ Below U1.heap.size U1 wr) (fun iv _ => gap + 1 - (intOf iv).toNat)
          case atStart => exact ⟨0, Nat.zero_le _, rfl, Below.refl _ _⟩
          case round =>
            obtain ⟨j, hj, rfl, hB⟩ := hrel
            replace K0 := K0.below hB K0.lt
            replace K1 := K1.below hB K1.lt
            replace GB := GB.trans (hB.mono GB.size)
            have HDo := Lib.hid (HGe.out ((j : Int) + 1) wr GB)
            have HG8 : Hid (gap ≤ 8) := Lib.hid (by have h1 := gap_le (gsM gs); have h2 := all_len HAll.out; rw [HGP.out] at h1; omega)
            have z0 := K0.cell 0
            by_cases hjg : j < gap
            · obtain ⟨ad, mm, cc, hgv⟩ : ∃ ad mm cc, dgetV gs ((j : Int) + 1) = .slice (some ad) mm cc := by
                obtain ⟨x, hx⟩ := gap_find (l := gsM gs) (j := j) (by rw [HGP.out]; exact hjg)
                obtain ⟨ad, mm, cc, is, h1, _⟩ := dget_some HG.out (right_each HR.out) hx
                exact ⟨ad, mm, cc, h1⟩
              rw [hgv] at HDo
              have HJ : Hid (j + 1 ≤ gap) := Lib.hid hjg
              have j9 : j ≤ 8 := by have := HG8.out; omega
              have hnil := nil_some'
              clear hgv hjg hj
              go_wp2_with fail
              refine HDo.out.mono ?_
              rintro e w2 ⟨rfl, h9⟩
              have hB2 := hB.trans (h9.mono hB.size)
              clear h9 K0 K1 z0 hB GB
              go_wp2_with fail
              go_roundw
              case rel => exact ⟨j + 1, HJ.out, by go_num, hB2⟩
              case measure => have := HJ.out; simp [intOf] <;> omega
            · obtain rfl : gap = j := by omega
              rw [dget_none (by have := gap_none HAll.out; rwa [HGP.out] at this)] at HDo
              have g9 : gap ≤ 8 := HG8.out
              have hnil := nil_none'
              clear hjg hj
              go_wp2_with fail
              refine HDo.out.mono ?_
              rintro e w2 ⟨rfl, h9⟩
              replace K0 := K0.below h9 K0.lt
              replace K1 := K1.below h9 K1.lt
              replace GB := GB.trans (h9.mono GB.size)
              have HU2 := Lib.hid (Nat.le_trans HU.out (Nat.le_trans hB.size h9.size))
              clear h9 hB z0
              have hful := gap_full HAll.out
              rw [HGP.out] at hful
              by_cases h8 : (gsM gs).length = 8
              · have q8 : decide ((8 : Int) < (gap : Int) + 1) = true := decide_eq_true (hful.2 h8)
                have q9 : (8 : Int) < (gap : Int) + 1 := hful.2 h8
                have HV : Hid (formV (gsM gs) ms = (6, 0, [])) := Lib.hid (by unfold formV; rw [HUN.out, if_pos h8]; rfl)
                clear h8 hful K0
                have d0 := K1.cell 0
                have f0 := K1.frozen 0
                have HP := Lib.hid (put1 (x := .slice none 0 0) K1 GB (by omega))
                clear K1 GB
                go_wp2_with fail
                exact bodyPost_ret (v := .tuple #[.agg #[.slice none 0 0], .int .i64 0, .int .i64 6]) (results_cell_tmp2 Try.results34 _ _ _ _ _ _ rfl HP.out.1 Try.underlying24 rfl (by kernel_rfl)) rfl ⟨none, 0, 0, [], by rw [HV.out], nw_nil, by rw [HV.out]; rfl, Nat.le_refl _, fun _ _ => offb_nil, HP.out.2⟩
              · have q8 : decide ((8 : Int) < (gap : Int) + 1) = false := decide_eq_false (fun h => h8 (hful.1 h))
                have q9 : ¬ (8 : Int) < (gap : Int) + 1 := fun h => h8 (hful.1 h)
                have HV : Hid (formV (gsM gs) ms = (0, (gap : Int) + 1, formG (gsM gs) ms)) := Lib.hid (by unfold formV; rw [HUN.out, if_neg h8, HGP.out]; rfl)
                clear h8 hful
                have K6 := Blk.new w2 24 #[.slice none 0 0]
                replace K0 := K0.alloc (.cells #[.slice none 0 0] 24)
                replace K1 := K1.alloc (.cells #[.slice none 0 0] 24)
                replace GB := GB.alloc GB.size (.cells #[.slice none 0 0] 24)
                go_upto_region 15 with fail
                clear hnil
                obtain ⟨g10, hg10⟩ : ∃ g, w2.heap.size = g := ⟨_, rfl⟩
                have hX1 : (w2.alloc (.cells #[.slice none 0 0] 24)).heap.size = g10 + 1 := by rw [← hg10]; simp
                obtain ⟨Y, hY⟩ : ∃ Y, w2.alloc (.cells #[.slice none 0 0] 24) = Y := ⟨_, rfl⟩
                rw [hY] at K0 K1 K6 GB hX1 ⊢
                rw [hg10] at K6 HU2 ⊢
                have HX1 := Lib.hid hX1
                clear hY hg10 hX1
                have HRd := Lib.hid (((HI.out.below GB).below ((Below.refl Y.heap.size Y).alloc (Nat.le_refl _) (.cells #[] 3))).row)
                have GB5 := GB.alloc GB.size (.cells #[] 3)
                go_wp2_with (
                  at_builtin
                  refine wpList_append_any _ rfl (.tmp 41) (.tmp 42) 28 rfl Y.heap.size 3 i0 (.int .i64 0) 1 8 Try.underlying28 ii hz0 hz1 hz2 rfl (by decide) (.slice (some ⟨Y.heap.size, 0, none⟩) 0 0) 0 [] rfl (by simpa using World.ownsRow_made Y #[] 0 (Nat.le_refl _) (by simp [maxLen]) (by simp)) _ A2 m c2 (vs ms) rfl HRd.out (vs_ones _) (by simp only [maxLen]; omega) (by omega) (by simp) ?_
                  intro v4 w4 own4 grow4 _
                  rw [List.nil_append, Nat.zero_add] at own4
                  obtain ⟨Ai, ci, rfl, _, _⟩ := own_reads own4
                  have hrow : ∀ k, (Value.slice (some ⟨Y.heap.size, 0, none⟩) 0 0).ownBlock = some k → Y.heap.size ≤ k := fun k hk => by simp [Value.ownBlock] at hk; omega
                  have GB4 := GB5.grown grow4 GB5.size (fun k hk => by have := hrow k hk; have := GB.size; omega)
                  have L0 := K0.lt
                  have L1 := K1.lt
                  have L6 := K6.lt
                  have K04 := (K0.alloc (.cells #[] 3)).grown grow4 (fun e => by have := hrow _ e.symm; omega)
                  have K14 := (K1.alloc (.cells #[] 3)).grown grow4 (fun e => by have := hrow _ e.symm; omega)
                  have K64 := (K6.alloc (.cells #[] 3)).grown grow4 (fun e => by have := hrow _ e.symm; omega)
                  have HS4 : Hid (Y.heap.size ≤ w4.heap.size) := Lib.hid (Nat.le_trans (show Y.heap.size ≤ (Y.alloc (.cells #[] 3)).heap.size by simp) grow4.size)
                  have HO4 := Lib.hid (And.intro own4 (And.intro GB4 (And.intro K14 (And.intro K64 HS4.out))))
                  have k40 := (K04.alloc (.cells #[.int .i64 ((gap : Int) + 1), .slice Ai m ci] 36)).cell 0
                  clear own4 grow4 hrow L0 L1 L6 GB4 K04 K14 K64)
                clear k40 GB5 K0 K1 K6
                have GB4 := HO4.out.2.1
                refine (HCo.out _ (GB4.alloc GB4.size (.cells #[.int .i64 ((gap : Int) + 1), .slice Ai m ci] 36))).mono ?_
                rintro e W ⟨Ac, nc, cc, GC, rfl, Oc, Ec, hnc, hmc, h9⟩
                have hZ : (w4.alloc (.cells #[.int .i64 ((gap : Int) + 1), .slice Ai m ci] 36)).heap.size = w4.heap.size + 1 := by simp
                have KO := (Blk.new w4 36 #[.int .i64 ((gap : Int) + 1), .slice Ai m ci]).below h9 (by simp)
                have K1 := (HO4.out.2.2.1.alloc (.cells #[.int .i64 ((gap : Int) + 1), .slice Ai m ci] 36)).below h9 (HO4.out.2.2.1.alloc (.cells #[.int .i64 ((gap : Int) + 1), .slice Ai m ci] 36)).lt
                have K6 := (HO4.out.2.2.2.1.alloc (.cells #[.int .i64 ((gap : Int) + 1), .slice Ai m ci] 36)).below h9 (HO4.out.2.2.2.1.alloc (.cells #[.int .i64 ((gap : Int) + 1), .slice Ai m ci] 36)).lt
                have OW := own_below (HO4.out.1.alloc (.cells #[.int .i64 ((gap : Int) + 1), .slice Ai m ci] 36)) h9
                have GB := (GB4.alloc GB4.size (.cells #[.int .i64 ((gap : Int) + 1), .slice Ai m ci] 36)).trans (h9.mono (GB4.alloc GB4.size (.cells #[.int .i64 ((gap : Int) + 1), .slice Ai m ci] 36)).size)
                have hs4 := HO4.out.2.2.2.2
                have hX1 := HX1.out
                have HOF := Lib.hid (OffB.far Oc (show g10 < (w4.alloc (.cells #[.int .i64 ((gap : Int) + 1), .slice Ai m ci] 36)).heap.size by omega))
                have HRES := Lib.hid ((OffB.far Oc (show w.heap.size + 1 < (w4.alloc (.cells #[.int .i64 ((gap : Int) + 1), .slice Ai m ci] 36)).heap.size by have := HU2.out; omega)).mem)
                have HIO : Hid (IR W Ai m ms) := Lib.hid ⟨Reads.of_own OW, by omega⟩
                have HIB := Lib.hid (own_farB OW (show g10 < Y.heap.size by omega))
                have HIR := Lib.hid (own_farB OW (show w.heap.size + 1 < Y.heap.size by have := HU2.out; omega))
                have HNW := Lib.hid (Oc.nw hnc hmc)
                have HFAR : Hid (∀ b, b < w.heap.size → OffB b Ac nc GC ∧ ∀ ad, Ai = some ad → 0 < m → ad.block ≠ b) := Lib.hid (fun b hb => ⟨OffB.far Oc (by have := HU2.out; omega), own_farB OW (by have := HU2.out; omega)⟩)
                have HEC := Lib.hid Ec
                have HLC := Lib.hid Oc.len
                have HNC8 : Hid (nc ≤ 8) := Lib.hid (by have h1 := all_len HAll.out; rw [← Ec, gsM_len, Oc.len] at h1; exact h1)
                have HGPC : Hid (gap ≤ nc) := Lib.hid (by have h1 := gap_le (gsM gs); rw [HGP.out, ← Ec, gsM_len, Oc.len] at h1; exact h1)
                have HOV : Hid (∀ (k : Nat) (g : Gn), GC[k]? = some g → (k < gap → g.1 ≤ (gap : Int)) ∧ (gap ≤ k → (gap : Int) + 1 < g.1)) := Lib.hid (fun k g hg => by
                  have h1 := gap_over HAll.out (k := k) (g := gm g) (by rw [← Ec]; exact gsM_at hg)
                  rw [HGP.out] at h1
                  exact h1)
                have HGW : Hid (g10 < W.heap.size) := Lib.hid K6.lt
                have HWB : Hid (w.heap.size + 1 < g10) := Lib.hid (by have := HU2.out; omega)
                have nc9 : nc ≤ 8 := HNC8.out
                have HOWN : Hid (Blk W w4.heap.size 36 #[.int .i64 ((gap : Int) + 1), .slice Ai m ci] ∧ g10 < w4.heap.size) := Lib.hid ⟨KO, by omega⟩
                have HPR0 : Hid (PR W g10 none 0 0 [] W) := Lib.hid ⟨K6, World.ownsRow_nil _ _ _ _, World.grownBy.refl _ _⟩
                have HBASE := Lib.hid (And.intro K1 GB)
                obtain ⟨g11, hg11⟩ : ∃ g, w4.heap.size = g := ⟨_, rfl⟩
                rw [hg11] at HOWN ⊢
                clear h9 K1 K6 KO OW GB GB4 Oc Ec hnc hmc hX1 hZ hs4 HO4 HS4 HGe HCo HOf HDo HG HRd hg11
                have hfd := field_gangs
                go_wp2_with fail
                clear hfd
                have HINS0 : Hid (([] : List Gn) = insK GC 0 gap ((gap : Int) + 1, Ai, m, ci, ms)) := Lib.hid (by unfold insK; rw [if_pos (Nat.zero_le _)]; rfl)
                go_loopw [12, 49] (fun dv iv wr => ∃ (k : Nat) (A5 : Option Addr) (n5 c5 : Nat) (G5 : List Gn), k ≤ nc ∧ dv = .bool (decide (gap < k)) ∧ iv = .int .i64 (k : Int) ∧ Hid (PR W g10 A5 n5 c5 G5 wr) ∧ Hid (G5 = insK GC k gap ((gap : Int) + 1, Ai, m, ci, ms))) (fun _ iv _ => nc - (intOf iv).toNat)
                case atStart => exact ⟨0, none, 0, 0, [], by omega, by rw [decide_eq_false (by omega)], rfl, HPR0, HINS0⟩
                case round =>
                  clear HPR0 HINS0
                  obtain ⟨k, A5, n5, c5, G5, hk, rfl, rfl, HPR, HE5⟩ := hrel
                  by_cases hlt : k < nc
                  · obtain ⟨⟨id, Am, mm, cm, is⟩, hx⟩ := elem_at (l := GC) (k := k) (by rw [HLC.out]; exact hlt)
                    obtain ⟨ad, rfl, _, d0, d1⟩ := (nw_kept HNW.out HOF.out HPR.out.kept).at_ hx
                    have HX2 := Lib.hid hx
                    have i1 : (0 : Int) ≤ (k : Int) := by omega
                    have i2 : (k : Int) < (nc : Int) := by omega
                    have l1 : decide ((k : Int) < (nc : Int)) = true := decide_eq_true i2
                    have KB := Blk.new wr 36 #[.int .i64 id, .slice Am mm cm]
                    have HPR1 := Lib.hid (HPR.out.alloc (.cells #[.int .i64 id, .slice Am mm cm] 36))
                    have KO := HOWN.out.1.grown HPR1.out.kept (by intro e; injection e with e; have := HOWN.out.2; omega)
                    have x0 := KB.cell 0
                    have x1 := KB.cell 1
                    have o0 := KO.cell 0
                    have o1 := KO.cell 1
                    have y6 := HPR1.out.out.cell 0
                    have HN6 : Hid (n5 ≤ 20) := Lib.hid (by have h1 := HPR.out.len; have h2 := ins_len GC k gap ((gap : Int) + 1, Ai, m, ci, ms); rw [← HE5.out, h1, HLC.out] at h2; omega)
                    have HKN : Hid (k + 1 ≤ nc) := Lib.hid hlt
                    have HRL : Hid (∀ b, (Value.slice A5 n5 c5).ownBlock = some b → b < wr.heap.size) := Lib.hid (fun b hb => (HPR.out.row.lt b hb).2)
                    have HKW : Hid (W.heap.size ≤ wr.heap.size) := Lib.hid HPR.out.kept.size
                    rcases Nat.lt_trichotomy k gap with hkg | hkg | hkg
                    · have g1 : decide (gap < k) = false := decide_eq_false (by omega)
                      have g2 : decide ((gap : Int) + 1 < id) = false := decide_eq_false (by have := (HOV.out k _ HX2.out).1 hkg; dsimp only at this; omega)
                      have HDD : Hid (decide (gap < k + 1) = false) := Lib.hid (decide_eq_false (by omega))
                      have HKG := Lib.hid hkg
                      rw [g1]
                      clear hx hkg g1 hk hlt
                      go_upto_region 22 with fail
                      obtain ⟨X1, hX1⟩ : ∃ X1, wr.alloc (.cells #[.int .i64 id, .slice Am mm cm] 36) = X1 := ⟨_, rfl⟩
                      have HKL : Hid (X1.heap.size = wr.heap.size + 1) := Lib.hid (by rw [← hX1]; simp)
                      rw [hX1] at HPR1 KB KO x0 x1 o0 o1 y6 ⊢
                      replace HPR := HPR1
                      have HN5 := HN6
                      clear hX1 HPR1 HN6
                      clear d0 d1
                      go_wp2_with (
                        at_builtin
                        refine wpList_append_any _ rfl (.tmp 68) (.tmp 70) 22 rfl W.heap.size 36 ji (.agg #[.int .i64 0, .slice none 0 0]) 2 32 Try.underlying22 hi1 hy0 hy1 hy2 rfl (by decide) (.slice A5 n5 c5) n5 (flat gnv G5) rfl (HPR.out.row.alloc _) _ (some ⟨X1.heap.size, 0, none⟩) 1 1 (flat gnv [(id, Am, mm, cm, is)]) rfl (reads_new _ _ _ rfl rfl) (gnv_ones _) (by have := HN5.out; simp only [maxLen]; omega) (by have := HN5.out; omega) (Nat.le_trans HPR.out.kept.size (by simp)) ?_
                        intro v9 w9 own9 grow9 ne9
                        rw [← flat_append] at own9
                        obtain ⟨A9, c9, rfl, _, _⟩ := own_reads own9
                        have HP := Lib.hid ((HPR.out.alloc _).put HGW.out grow9 own9)
                        have k1 := HP.out.1.cell 0
                        have f1 := HP.out.1.frozen 0
                        clear own9 grow9 ne9)
                      clear k1 f1
                      have HPR2 := Lib.hid HP.out.2
                      have HE6 : Hid (G5 ++ [(id, Am, mm, cm, is)] = insK GC (k + 1) gap ((gap : Int) + 1, Ai, m, ci, ms)) := Lib.hid (by rw [ins_ahead HX2.out HKG.out, ← HE5.out])
                      clear HP KB x0 x1 y6 HPR HX2 HE5
                      go_roundw
                      case rel => exact ⟨k + 1, A9, n5 + 1, c9, _, HKN.out, by rw [HDD.out], by go_num, HPR2, HE6⟩
                      case measure => have := HKN.out; simp [intOf] <;> omega
                    · have g1 : decide (gap < k) = false := decide_eq_false (by omega)
                      have g2 : decide ((gap : Int) + 1 < id) = true := decide_eq_true (by have := (HOV.out k _ HX2.out).2 (by omega); dsimp only at this; omega)
                      have HDD : Hid (decide (gap < k + 1) = true) := Lib.hid (decide_eq_true (by omega))
                      rw [g1]
                      have HKG := Lib.hid hkg
                      clear hx hkg g1 hk hlt
                      go_upto_region 21 with fail
                      obtain ⟨X1, hX1⟩ : ∃ X1, wr.alloc (.cells #[.int .i64 id, .slice Am mm cm] 36) = X1 := ⟨_, rfl⟩
                      have HKL : Hid (X1.heap.size = wr.heap.size + 1) := Lib.hid (by rw [← hX1]; simp)
                      rw [hX1] at HPR1 KB KO x0 x1 o0 o1 y6 ⊢
                      replace HPR := HPR1
                      have HN5 := HN6
                      clear hX1 HPR1 HN6
                      clear d0 d1
                      go_upto_region 22 with (
                        at_builtin
                        refine wpList_append_any _ rfl (.tmp 62) (.tmp 64) 22 rfl W.heap.size 36 ji (.agg #[.int .i64 0, .slice none 0 0]) 2 32 Try.underlying22 hi1 hy0 hy1 hy2 rfl (by decide) (.slice A5 n5 c5) n5 (flat gnv G5) rfl (HPR.out.row.alloc _) _ (some ⟨X1.heap.size, 0, none⟩) 1 1 (flat gnv [((gap : Int) + 1, Ai, m, ci, ms)]) rfl (reads_new _ _ _ rfl rfl) (gnv_ones _) (by have := HN5.out; simp only [maxLen]; omega) (by have := HN5.out; omega) (Nat.le_trans HPR.out.kept.size (by simp)) ?_
                        intro v9 w9 own9 grow9 ne9
                        rw [← flat_append] at own9
                        obtain ⟨A9, c9, rfl, _, _⟩ := own_reads own9
                        have HP := Lib.hid ((HPR.out.alloc _).put HGW.out grow9 own9)
                        have k1 := HP.out.1.cell 0
                        have f1 := HP.out.1.frozen 0
                        have KB9 := Lib.hid (((KB.alloc (.cells #[.int .i64 ((gap : Int) + 1), .slice Ai m ci] 36)).grown grow9 (fun e => by have h5 := HRL.out _ e.symm; omega)).far (p := ⟨g10, 0, none⟩) (by have h7 := HGW.out; have h9 := HKW.out; simp; omega) (.slice A9 (n5 + 1) c9))
                        clear own9 grow9 ne9)
                      clear k1 f1
                      have HPR2 := Lib.hid HP.out.2
                      have HE6 : Hid (G5 ++ [((gap : Int) + 1, Ai, m, ci, ms)] = insK GC k gap ((gap : Int) + 1, Ai, m, ci, ms) ++ [((gap : Int) + 1, Ai, m, ci, ms)]) := Lib.hid (by rw [HE5.out])
                      obtain ⟨X2, hX2⟩ : ∃ X2, w9.setCell ⟨g10, 0, none⟩ (.slice A9 (n5 + 1) c9) = X2 := ⟨_, rfl⟩
                      rw [hX2] at HPR2 KB9 ⊢
                      clear hX2 HP KB x0 x1 o0 o1 y6 HPR HE5 KO HKL
                      obtain ⟨G6, hG6⟩ : ∃ G6, G5 ++ [((gap : Int) + 1, Ai, m, ci, ms)] = G6 := ⟨_, rfl⟩
                      obtain ⟨n6, hn6⟩ : ∃ n6, n5 + 1 = n6 := ⟨_, rfl⟩
                      rw [hG6] at HPR2 HE6
                      rw [hn6] at HPR2 ⊢
                      have HN7 : Hid (n6 ≤ 21) := Lib.hid (by have := HN5.out; omega)
                      clear hG6 hn6 HN5
                      have y7 := HPR2.out.out.cell 0
                      have x0 := KB9.out.cell 0
                      have x1 := KB9.out.cell 1
                      go_wp2_with (
                        at_builtin
                        refine wpList_append_any _ rfl (.tmp 68) (.tmp 70) 22 rfl W.heap.size 36 ji (.agg #[.int .i64 0, .slice none 0 0]) 2 32 Try.underlying22 hi1 hy0 hy1 hy2 rfl (by decide) (.slice A9 n6 c9) n6 (flat gnv G6) rfl (HPR2.out.row.alloc _) _ (some ⟨X2.heap.size, 0, none⟩) 1 1 (flat gnv [(id, Am, mm, cm, is)]) rfl (reads_new _ _ _ rfl rfl) (gnv_ones _) (by have := HN7.out; simp only [maxLen]; omega) (by have := HN7.out; omega) (Nat.le_trans HPR2.out.kept.size (by simp)) ?_
                        intro v9 w9 own9 grow9 ne9
                        rw [← flat_append] at own9
                        obtain ⟨A7, c7, rfl, _, _⟩ := own_reads own9
                        have HP := Lib.hid ((HPR2.out.alloc _).put HGW.out grow9 own9)
                        have k1 := HP.out.1.cell 0
                        have f1 := HP.out.1.frozen 0
                        clear own9 grow9 ne9)
                      clear k1 f1
                      have HPR3 := Lib.hid HP.out.2
                      have HE7 : Hid (G6 ++ [(id, Am, mm, cm, is)] = insK GC (k + 1) gap ((gap : Int) + 1, Ai, m, ci, ms)) := Lib.hid (by rw [HE6.out, HKG.out, ins_here (by rw [← HKG.out]; exact HX2.out)])
                      clear HP x0 x1 y7 HPR2 HX2 HE6 KB9
                      go_roundw
                      case rel => exact ⟨k + 1, A7, n6 + 1, c7, _, HKN.out, by rw [HDD.out], by go_num, HPR3, HE7⟩
                      case measure => have := HKN.out; simp [intOf] <;> omega
                    · have g1 : decide (gap < k) = true := decide_eq_true (by omega)
                      have HDD : Hid (decide (gap < k + 1) = true) := Lib.hid (decide_eq_true (by omega))
                      have HKG := Lib.hid hkg
                      rw [g1]
                      clear hx hkg g1 hk hlt
                      go_upto_region 22 with fail
                      obtain ⟨X1, hX1⟩ : ∃ X1, wr.alloc (.cells #[.int .i64 id, .slice Am mm cm] 36) = X1 := ⟨_, rfl⟩
                      have HKL : Hid (X1.heap.size = wr.heap.size + 1) := Lib.hid (by rw [← hX1]; simp)
                      rw [hX1] at HPR1 KB KO x0 x1 o0 o1 y6 ⊢
                      replace HPR := HPR1
                      have HN5 := HN6
                      clear hX1 HPR1 HN6
                      clear d0 d1
                      go_wp2_with (
                        at_builtin
                        refine wpList_append_any _ rfl (.tmp 68) (.tmp 70) 22 rfl W.heap.size 36 ji (.agg #[.int .i64 0, .slice none 0 0]) 2 32 Try.underlying22 hi1 hy0 hy1 hy2 rfl (by decide) (.slice A5 n5 c5) n5 (flat gnv G5) rfl (HPR.out.row.alloc _) _ (some ⟨X1.heap.size, 0, none⟩) 1 1 (flat gnv [(id, Am, mm, cm, is)]) rfl (reads_new _ _ _ rfl rfl) (gnv_ones _) (by have := HN5.out; simp only [maxLen]; omega) (by have := HN5.out; omega) (Nat.le_trans HPR.out.kept.size (by simp)) ?_
                        intro v9 w9 own9 grow9 ne9
                        rw [← flat_append] at own9
                        obtain ⟨A9, c9, rfl, _, _⟩ := own_reads own9
                        have HP := Lib.hid ((HPR.out.alloc _).put HGW.out grow9 own9)
                        have k1 := HP.out.1.cell 0
                        have f1 := HP.out.1.frozen 0
                        clear own9 grow9 ne9)
                      clear k1 f1
                      have HPR2 := Lib.hid HP.out.2
                      have HE6 : Hid (G5 ++ [(id, Am, mm, cm, is)] = insK GC (k + 1) gap ((gap : Int) + 1, Ai, m, ci, ms)) := Lib.hid (by rw [ins_past HX2.out HKG.out, ← HE5.out])
                      clear HP KB x0 x1 y6 HPR HX2 HE5
                      go_roundw
                      case rel => exact ⟨k + 1, A9, n5 + 1, c9, _, HKN.out, by rw [HDD.out], by go_num, HPR2, HE6⟩
                      case measure => have := HKN.out; simp [intOf] <;> omega
                  · obtain rfl : nc = k := by omega
                    have l1 : decide ((nc : Int) < (nc : Int)) = false := decide_eq_false (by omega)
                    have HNL : Hid (n5 ≤ 20) := Lib.hid (by have h1 := HPR.out.len; have h2 := ins_len GC nc gap ((gap : Int) + 1, Ai, m, ci, ms); rw [← HE5.out, h1, HLC.out] at h2; omega)
                    by_cases hgn : gap < nc
                    · rw [decide_eq_true hgn]
                      have HEQ : Hid (G5 = GC.take gap ++ ((gap : Int) + 1, Ai, m, ci, ms) :: GC.drop gap) := Lib.hid (by rw [HE5.out, ← HLC.out]; exact ins_end (by rw [HLC.out]; exact hgn))
                      clear hgn hk hlt HE5
                      have y6 := HPR.out.out.cell 0
                      have K1 := HBASE.out.1.grown HPR.out.kept (by intro e; injection e with e; have := HWB.out; omega)
                      have GB := HBASE.out.2.grown HPR.out.kept HBASE.out.2.size (fun g hg => by cases hg; have := HWB.out; omega)
                      have d0 := K1.cell 0
                      have f0 := K1.frozen 0
                      have HP9 := Lib.hid (put1 (x := .slice A5 n5 c5) K1 GB (by omega))
                      have HNN := Lib.hid (fin_nw HPR.out (by have := HNL.out; omega) (show w.heap.size + 1 < W.heap.size by have := HWB.out; have := HGW.out; omega) HNW.out HOF.out HRES.out (x0 := ((gap : Int) + 1, Ai, m, ci, ms)) ⟨HIO.out, by have := HM17.out; dsimp only; omega⟩ HIB.out HIR.out HEQ.out (.slice A5 n5 c5))
                      have HNC := Lib.hid (own_nc HPR.out.row)
                      have HOFF : Hid (∀ b, b < w.heap.size → OffB b A5 n5 G5) := Lib.hid (fin_off HPR.out (show w.heap.size ≤ W.heap.size by have := HGW.out; have := HWB.out; omega) (x0 := ((gap : Int) + 1, Ai, m, ci, ms)) HFAR.out HEQ.out)
                      have HFQ : Hid (gsM G5 = formG (gsM gs) ms) := Lib.hid (by rw [HEQ.out, gsM_ins, HEC.out]; unfold formG; rw [HGP.out]; rfl)
                      clear K1 GB
                      go_wp2_with fail
                      exact bodyPost_ret (v := .tuple #[.agg #[.slice A5 n5 c5], .int .i64 ((gap : Int) + 1), .int .i64 0]) (results_cell_tmp2 Try.results34 _ _ _ _ _ _ rfl HP9.out.1 Try.underlying24 rfl (by kernel_rfl)) rfl ⟨A5, n5, c5, G5, by rw [HV.out], HNN.out, by rw [HV.out]; exact HFQ.out, HNC.out, HOFF.out, HP9.out.2⟩
                    · rw [decide_eq_false hgn]
                      have KO := HOWN.out.1.grown HPR.out.kept (by intro e; injection e with e; have := HOWN.out.2; omega)
                      have o0 := KO.cell 0
                      have o1 := KO.cell 1
                      have y6 := HPR.out.out.cell 0
                      have HEQ : Hid (G5 ++ [((gap : Int) + 1, Ai, m, ci, ms)] = GC.take gap ++ ((gap : Int) + 1, Ai, m, ci, ms) :: GC.drop gap) := Lib.hid (by
                        have hg : gap = GC.length := by have := HGPC.out; have := HLC.out; omega
                        rw [HE5.out, ← HLC.out, hg]
                        exact ins_last)
                      clear hgn hk hlt HE5
                      go_upto_region 26 with (
                        at_builtin
                        refine wpList_append_any _ rfl (.tmp 77) (.tmp 79) 22 rfl W.heap.size 36 ji (.agg #[.int .i64 0, .slice none 0 0]) 2 32 Try.underlying22 hi1 hy0 hy1 hy2 rfl (by decide) (.slice A5 n5 c5) n5 (flat gnv G5) rfl (HPR.out.row.alloc _) _ (some ⟨wr.heap.size, 0, none⟩) 1 1 (flat gnv [((gap : Int) + 1, Ai, m, ci, ms)]) rfl (reads_new _ _ _ rfl rfl) (gnv_ones _) (by have := HNL.out; simp only [maxLen]; omega) (by have := HNL.out; omega) (Nat.le_trans HPR.out.kept.size (by simp)) ?_
                        intro v9 w9 own9 grow9 ne9
                        rw [← flat_append] at own9
                        obtain ⟨A9, c9, rfl, _, _⟩ := own_reads own9
                        have HP := Lib.hid ((HPR.out.alloc _).put HGW.out grow9 own9)
                        have k1 := HP.out.1.cell 0
                        have f1 := HP.out.1.frozen 0
                        clear own9 grow9 ne9)
                      clear k1 f1 KO o0 o1 y6
                      have HPR2 := Lib.hid HP.out.2
                      obtain ⟨X2, hX2⟩ : ∃ X2, w9.setCell ⟨g10, 0, none⟩ (.slice A9 (n5 + 1) c9) = X2 := ⟨_, rfl⟩
                      rw [hX2] at HPR2 ⊢
                      clear hX2 HP HPR
                      obtain ⟨G6, hG6⟩ : ∃ G6, G5 ++ [((gap : Int) + 1, Ai, m, ci, ms)] = G6 := ⟨_, rfl⟩
                      obtain ⟨n6, hn6⟩ : ∃ n6, n5 + 1 = n6 := ⟨_, rfl⟩
                      rw [hG6] at HPR2 HEQ
                      rw [hn6] at HPR2 ⊢
                      have HN7 : Hid (n6 ≤ 21) := Lib.hid (by have := HNL.out; omega)
                      clear hG6 hn6 HNL
                      have y6 := HPR2.out.out.cell 0
                      have K1 := HBASE.out.1.grown HPR2.out.kept (by intro e; injection e with e; have := HWB.out; omega)
                      have GB := HBASE.out.2.grown HPR2.out.kept HBASE.out.2.size (fun g hg => by cases hg; have := HWB.out; omega)
                      have d0 := K1.cell 0
                      have f0 := K1.frozen 0
                      have HP9 := Lib.hid (put1 (x := .slice A9 n6 c9) K1 GB (by omega))
                      have HNN := Lib.hid (fin_nw HPR2.out (by have := HN7.out; omega) (show w.heap.size + 1 < W.heap.size by have := HWB.out; have := HGW.out; omega) HNW.out HOF.out HRES.out (x0 := ((gap : Int) + 1, Ai, m, ci, ms)) ⟨HIO.out, by have := HM17.out; dsimp only; omega⟩ HIB.out HIR.out HEQ.out (.slice A9 n6 c9))
                      have HNC := Lib.hid (own_nc HPR2.out.row)
                      have HOFF : Hid (∀ b, b < w.heap.size → OffB b A9 n6 G6) := Lib.hid (fin_off HPR2.out (show w.heap.size ≤ W.heap.size by have := HGW.out; have := HWB.out; omega) (x0 := ((gap : Int) + 1, Ai, m, ci, ms)) HFAR.out HEQ.out)
                      have HFQ : Hid (gsM G6 = formG (gsM gs) ms) := Lib.hid (by rw [HEQ.out, gsM_ins, HEC.out]; unfold formG; rw [HGP.out]; rfl)
                      clear K1 GB
                      go_wp2_with fail
                      exact bodyPost_ret (v := .tuple #[.agg #[.slice A9 n6 c9], .int .i64 ((gap : Int) + 1), .int .i64 0]) (results_cell_tmp2 Try.results34 _ _ _ _ _ _ rfl HP9.out.1 Try.underlying24 rfl (by kernel_rfl)) rfl ⟨A9, n6, c9, G6, by rw [HV.out], HNN.out, by rw [HV.out]; exact HFQ.out, HNC.out, HOFF.out, HP9.out.2⟩

end Go.Proofs.Ytglphgfaknofcaa
