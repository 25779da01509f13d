/-
  GangOwn's walk. No statement is proved here.
-/
import Derived.Test.YtglphgfaknofcaaGs
namespace Go.Proofs.Ytglphgfaknofcaa
open Go.RowKit Go.Maps

/-! ### a map of what was met -/
set_option maxRecDepth 100000 in
theorem bool_inv {v : Value} {x : Bool} {ps : List MemPlace} (h : plainElem (H := Unit) Try.prog 4 v = some (.lit (.bool x), ps)) : v = .bool x := by
  unfold plainElem at h
  rw [Try.underlying4] at h
  cases v <;> simp at h
  rw [h.1]
def HoldsB (D : DataW Unit) (L : List Int) : Prop := ∀ x : Int, D.atKey (.int .i64 x) (.lit (.bool false)) = .lit (.bool (decide (x ∈ L)))
theorem holdsB_empty : HoldsB (.map []) [] := fun l => atKey_of_not_has (by simp [has_eq]) _
theorem holdsB_put {D : DataW Unit} {L : List Int} {v : Int} (h : HoldsB D L) (hD : IsMap D) : HoldsB (D.put (.int .i64 v) (.lit (.bool true))) (L ++ [v]) := fun x => by
  by_cases e : v = x
  · subst e
    rw [atKey_put_same hD (by trivial)]
    simp
  · rw [atKey_put_other (by intro h; injection h with _ h; exact e h.symm), h x]
    congr 2
    exact decide_eq_decide.2 ⟨fun h => List.mem_append_left _ h, fun h => (List.mem_append.1 h).resolve_right (fun h2 => e (by simpa using h2 : x = v).symm)⟩
structure MB (w : World) (b : Nat) (L : List Int) : Prop where
  own : ∃ n D, n ≤ L.length ∧ w.ownsMap Try.prog 3 (plainElem (H := Unit) Try.prog 4) b n D ∧ HoldsB D L
section
variable {w w' : World} {b : Nat} {L : List Int}
theorem MB.made (w : World) : MB (w.alloc (.map #[] 0)) w.heap.size [] := ⟨0, .map [], Nat.le_refl _, World.ownsMap_made _ _ _ _, holdsB_empty⟩
theorem MB.lt (h : MB w b L) : b < w.heap.size := by obtain ⟨n, D, _, h1, _⟩ := h.own; exact h1.lt
theorem MB.alloc (h : MB w b L) (o : Obj) : MB (w.alloc o) b L := by obtain ⟨n, D, h0, h1, h2⟩ := h.own; exact ⟨n, D, h0, h1.alloc o, h2⟩
theorem MB.keep (h : MB w b L) (hh : w'.heap[b]? = w.heap[b]?) : MB w' b L := by
  obtain ⟨n, D, h0, ⟨es, clock, hh2, F, hs, hD⟩, h2⟩ := h.own
  exact ⟨n, D, h0, ⟨es, clock, hh.trans hh2, F, hs, hD⟩, h2⟩
theorem MB.below {B : Nat} (h : MB w b L) (hb : Below B w w') (hB : b < B) : MB w' b L := h.keep (hb.block b hB)
theorem MB.block (h : MB w b L) : ∃ es clock, w.heap[b]? = some (.map es clock) := by
  obtain ⟨_, _, _, ⟨es, clock, hh, _⟩, _⟩ := h.own
  exact ⟨es, clock, hh⟩
set_option maxRecDepth 100000 in
theorem MB.look (h : MB w b L) (x : Int) (hx : (Lit.int .i64 x).wf = true) : (Instr.lookup 56 (.map (some b)) (.int .i64 x) false).run Try.prog w = .ok (.bool (decide (x ∈ L))) w := by
  obtain ⟨n, D, h0, h1, h2⟩ := h.own
  obtain ⟨v, ps, hrun, hv⟩ := h1.lookup (int_keyed Try.underlying3) Try.underlying56 (bool_zero w) (plainElem_bool Try.underlying4 false) (keyOf_int_mk Try.underlying3 hx)
  rw [h2] at hv
  rw [hrun, bool_inv hv]
set_option maxRecDepth 100000 in
theorem MB.store (h : MB w b L) {v : Int} (hv : (Lit.int .i64 v).wf = true) (hl : L.length < maxLen) :
    ∃ w', (Instr.mapUpdate 56 (.map (some b)) (.int .i64 v) (.bool true)).run Try.prog w = .ok () w' ∧ MB w' b (L ++ [v]) ∧ w.grownBy w' (some b) := by
  obtain ⟨n, D, h0, h1, h2⟩ := h.own
  obtain ⟨w', hrun, r1, r2⟩ := h1.store (int_keyed Try.underlying3) Try.underlying56 (by omega) (keyOf_int_mk Try.underlying3 hv) (plainElem_bool Try.underlying4 true)
  exact ⟨w', hrun, ⟨⟨n + 1, _, by rw [List.length_append]; exact Nat.succ_le_succ h0, r1, holdsB_put h2 h1.isMap⟩⟩, r2.grown⟩
end

/-! ### with more to choose from -/
def Ext (cs cs' : List (List Int)) : Prop := cs'.length = cs.length ∧ ∀ (i : Nat) (row : List Int), cs[i]? = some row → ∃ row', cs'[i]? = some row' ∧ (∀ x ∈ row, x ∈ row') ∧ (rowOk row = true → rowOk row' = true)
theorem Ext.refl (cs : List (List Int)) : Ext cs cs := ⟨rfl, fun _ row h => ⟨row, h, fun _ h => h, id⟩⟩
theorem rowOk_more {row : List Int} {x : Int} (h : rowOk row = true) (hx : x ∉ row) (h0 : cpuB x = true) : rowOk (row ++ [x]) = true := by
  unfold rowOk goodI at *
  rw [Bool.and_eq_true, decide_eq_true_eq] at *
  exact ⟨by rw [List.all_append, h.1]; simp [h0], (nodup_snoc h.2).2 hx⟩
theorem Ext.more {cs cs' : List (List Int)} (h : Ext cs cs') {k : Nat} {row : List Int} {x : Int} (hk : cs[k]? = some row) (hk' : cs'[k]? = some row) (hx : x ∉ row) (h0 : cpuB x = true) : Ext cs (cs'.set k (row ++ [x])) := by
  refine ⟨by rw [List.length_set]; exact h.1, fun i r hi => ?_⟩
  by_cases e : k = i
  · subst e
    have hlt := (List.getElem?_eq_some_iff.1 hk').1
    obtain rfl : row = r := Option.some.inj (hk.symm.trans hi)
    exact ⟨row ++ [x], by rw [List.getElem?_set_self hlt], fun y hy => List.mem_append_left _ hy, fun hr => rowOk_more hr hx h0⟩
  · obtain ⟨r', h1, h2⟩ := h.2 i r hi
    exact ⟨r', by rw [List.getElem?_set_ne e]; exact h1, h2⟩
theorem ext_ok {cs cs' : List (List Int)} (h : Ext cs cs') (hc : choicesB cs = true) (hf : fitsB cs = true) : choicesB cs' = true ∧ fitsB cs' = true := by
  constructor
  · unfold choicesB at *
    rw [Bool.and_eq_true, decide_eq_true_eq, List.all_eq_true] at *
    refine ⟨by rw [h.1]; exact hc.1, fun row' hr => ?_⟩
    obtain ⟨i, hi⟩ := List.mem_iff_getElem?.1 hr
    have hlt := (List.getElem?_eq_some_iff.1 hi).1
    have hlt2 : i < cs.length := by rw [← h.1]; exact hlt
    obtain ⟨r', h1, _, h3⟩ := h.2 i cs[i] (List.getElem?_eq_getElem hlt2)
    rw [hi] at h1
    rw [Option.some.inj h1]
    exact h3 (hc.2 _ (List.getElem_mem hlt2))
  · unfold fitsB at *
    obtain ⟨M, hM⟩ := Option.isSome_iff_exists.1 hf
    obtain ⟨hl, hin, _, hnd⟩ := match_facts hM
    refine match_some (fun i => M.getD i 0) (fun i row' hi => ?_) (fun i _ hm => by cases hm) (fun i j hi hj e => ?_)
    · have hlt := (List.getElem?_eq_some_iff.1 hi).1
      have hlt2 : i < M.length := by rw [hl, ← h.1]; exact hlt
      obtain ⟨row, h1, h2⟩ := hin i M[i] (List.getElem?_eq_getElem hlt2)
      obtain ⟨r', h3, h4, _⟩ := h.2 i row h1
      rw [hi] at h3
      rw [Option.some.inj h3]
      show M.getD i 0 ∈ r'
      rw [List.getD_eq_getElem?_getD, List.getElem?_eq_getElem hlt2]
      exact h4 _ h2
    · have hi2 : i < M.length := by rw [hl, ← h.1]; exact hi
      have hj2 : j < M.length := by rw [hl, ← h.1]; exact hj
      have e : M.getD i 0 = M.getD j 0 := e
      rw [List.getD_eq_getElem?_getD, List.getD_eq_getElem?_getD, List.getElem?_eq_getElem hi2, List.getElem?_eq_getElem hj2] at e
      exact (List.getElem_inj hnd).1 e
theorem matchL_no {cs : List (List Int)} (h : (choicesB cs && fitsB cs) = false) : matchL cs = [] := by
  unfold matchL
  cases hc : choicesB cs with
  | false => rfl
  | true =>
    rw [hc, Bool.true_and] at h
    unfold fitsB at h
    cases hm : matchR cs [] with
    | none => rfl
    | some _ => rw [hm] at h; cases h

theorem own_not_map {w : World} {B s n b : Nat} {e : TypeId} {v : Value} {xs : List Value} {L : List Int} (h : w.ownsRow B e s v n xs) (m : MB w b L) : v.ownBlock ≠ some b := by
  obtain ⟨es, clock, hh⟩ := m.block
  rcases h.2 with ⟨rfl, _⟩ | ⟨g, cap, cur, rfl, _, hg, _⟩
  · simp [Value.ownBlock]
  · intro e
    have e : g = b := Option.some.inj e
    rw [e, hh] at hg
    cases hg
/-- the rows, while they are made longer -/
structure OS (cs : List (List Int)) (A : Option Addr) (n c mb : Nat) (M : List Int) (w0 : World) (k : Nat) (G : List Gg) (wr : World) : Prop where
  go : GO wr w0.heap.size A n c G
  ap : Apart G
  ext : Ext cs (gsI G)
  rest : ∀ i, k ≤ i → (gsI G)[i]? = cs[i]?
  ten : ∀ g ∈ G, g.2.1 ≤ 10
  mp : MB wr mb M
  bel : Below w0.heap.size w0 wr
section
variable {cs : List (List Int)} {A : Option Addr} {n c mb k : Nat} {M : List Int} {w0 : World} {G : List Gg} {W : World}
theorem OS.below (h : OS cs A n c mb M w0 k G W) {w' : World} (hb : Below W.heap.size W w') : OS cs A n c mb M w0 k G w' :=
  ⟨h.go.below hb, h.ap, h.ext, h.rest, h.ten, h.mp.below hb h.mp.lt, h.bel.trans (hb.mono h.bel.size)⟩
theorem OS.next (h : OS cs A n c mb M w0 k G W) : OS cs A n c mb M w0 (k + 1) G W := ⟨h.go, h.ap, h.ext, fun i hi => h.rest i (by omega), h.ten, h.mp, h.bel⟩
theorem OS.app (h : OS cs A n c mb M w0 k G W) (hk : k < n) {A2 : Option Addr} {m c2 : Nat} {is : List Int} (hg : G[k]? = some (A2, m, c2, is)) (hm : m ≤ 9) {x : Int} (hx : x ∉ is) (hx0 : cpuB x = true) {o : Obj} {w9 : World} {A9 : Option Addr} {c9 : Nat}
    (hgr : (W.alloc o).grownBy w9 (Value.slice A2 m c2).ownBlock) (hown : w9.ownsRow w0.heap.size 3 1 (.slice A9 (m + 1) c9) (m + 1) (vs (is ++ [x]))) (hw : (Value.slice A9 (m + 1) c9).ownBlock = (Value.slice A2 m c2).ownBlock ∨ (Value.slice A9 (m + 1) c9).ownBlock = some (W.alloc o).heap.size) :
    ∃ g, A = some ⟨g, 0, none⟩ ∧ w9.cell? ⟨g, k, none⟩ = some (.slice A2 m c2) ∧ w9.frozen? ⟨g, k, none⟩ = false ∧ OS cs A n c mb M w0 (k + 1) (G.set k (A9, m + 1, c9, is ++ [x])) (w9.setCell ⟨g, k, none⟩ (.slice A9 (m + 1) c9)) := by
  have hal : Below W.heap.size W (W.alloc o) := (Below.refl _ _).alloc (Nat.le_refl _) o
  have h' := h.below hal
  have hgm := List.mem_of_getElem? hg
  have hmem := h'.go.mem _ hgm
  have hrow9 : w9.ownsRow w0.heap.size 28 1 (.slice A n c) n (flat gv G) := own_other h'.go.row hgr (fun p q hp hq => (h'.go.ne _ hgm q p hq hp).symm)
  obtain ⟨g, cur, rfl, hBg, K, hnc, hcm, hsz, ht⟩ := blk_own hrow9 (by omega)
  rw [Nat.mul_one] at ht
  have hne0 : ∀ z ∈ G, ∀ p, (slG z).ownBlock = some p → p ≠ g := fun z hz p hp => h.go.ne z hz p g hp rfl
  have hnew : ∀ p, (Value.slice A9 (m + 1) c9).ownBlock = some p → p ≠ g := fun p hp => by
    rcases hw with e | e
    · rw [e] at hp; exact hne0 _ hgm p hp
    · rw [e] at hp
      have h1 := Option.some.inj hp
      have h2 := (h'.go.row.lt g rfl).2
      omega
  have hkG : k < G.length := (List.getElem?_eq_some_iff.1 hg).1
  have hcell : w9.cell? ⟨g, k, none⟩ = some (.slice A2 m c2) := by
    have h1 := flat_at gv length_gv hg 0 (by omega)
    rw [Nat.mul_one, Nat.add_zero, ← ht, List.getElem?_take_of_lt hk] at h1
    rw [K.cell]
    have e2 : (gv (A2, m, c2, is))[0]? = some (.slice A2 m c2) := rfl
    rw [e2] at h1
    simpa using h1
  have hmp : MB (w9.setCell ⟨g, k, none⟩ (.slice A9 (m + 1) c9)) mb M := by
    have h1 : MB w9 mb M := h'.mp.keep (hgr.block mb h'.mp.lt (fun e => own_not_map hmem h'.mp e.symm))
    refine h1.keep (Below.heap_setCell _ ⟨g, k, none⟩ _ mb (fun e => ?_))
    exact own_not_map hrow9 h1 (by show some g = some mb; rw [e])
  have hoth : ∀ i z, G[i]? = some z → i ≠ k → w9.ownsRow w0.heap.size 3 1 (slG z) z.2.1 (vs z.2.2.2) := fun i z hz hne => by
    refine own_other (h'.go.mem z (List.mem_of_getElem? hz)) hgr (fun p q hp hq => ?_)
    obtain ⟨hi, ei⟩ := List.getElem?_eq_some_iff.1 hz
    obtain ⟨hk2, ek⟩ := List.getElem?_eq_some_iff.1 hg
    have hap := List.pairwise_iff_getElem.1 h.ap
    rcases Nat.lt_or_gt_of_ne hne with hlt | hlt
    · have := hap i k hi hk2 hlt
      rw [ei, ek] at this
      exact this p q hp hq
    · have := hap k i hk2 hi hlt
      rw [ei, ek] at this
      exact (this q p hq hp).symm
  have hlt : ∀ z ∈ G, ∀ p, (slG z).ownBlock = some p → p < (W.alloc o).heap.size := fun z hz p hp => ((h'.go.mem z hz).lt p hp).2
  have hmset : ∀ z ∈ G.set k (A9, m + 1, c9, is ++ [x]), z = (A9, m + 1, c9, is ++ [x]) ∨ ∃ i, G[i]? = some z ∧ i ≠ k := fun z hz => by
    obtain ⟨i, hi⟩ := List.mem_iff_getElem?.1 hz
    by_cases e : k = i
    · subst e
      rw [List.getElem?_set_self hkG] at hi
      exact .inl (Option.some.inj hi).symm
    · rw [List.getElem?_set_ne e] at hi
      exact .inr ⟨i, hi, fun e2 => e e2.symm⟩
  refine ⟨g, rfl, hcell, K.frozen _, ⟨⟨?_, fun z hz => ?_, fun z hz p q hp hq => ?_⟩, ?_, ?_, fun i hi => ?_, fun z hz => ?_, hmp, ?_⟩⟩
  · refine own_blk (K.set_ k (.slice A9 (m + 1) c9)) hBg hcm (by rw [Array.size_setIfInBounds, hsz]) hnc ?_
    rw [Array.toList_setIfInBounds, Nat.mul_one, List.take_set, ht]
    exact flat_set G k (A9, m + 1, c9, is ++ [x])
  · rcases hmset z hz with rfl | ⟨i, hi, hne⟩
    · exact own_off hown hnew _ _
    · exact own_off (hoth i z hi hne) (hne0 z (List.mem_of_getElem? hi)) _ _
  · have e : g = q := Option.some.inj hq
    rcases hmset z hz with rfl | ⟨i, hi, hne⟩
    · rw [← e]; exact hnew p hp
    · rw [← e]; exact hne0 z (List.mem_of_getElem? hi) p hp
  · unfold Apart
    rw [List.pairwise_iff_getElem]
    intro i j hi hj hij p q hp hq
    rw [List.length_set] at hi hj
    have hap := List.pairwise_iff_getElem.1 h.ap i j hi hj hij
    have hnn : ∀ z ∈ G, ∀ i, G[i]? = some z → i ≠ k → ∀ p q, (slG z).ownBlock = some p → (Value.slice A9 (m + 1) c9).ownBlock = some q → p ≠ q := fun z hz i hzi hne p q hp hq => by
      rcases hw with e | e
      · rw [e] at hq
        obtain ⟨hi, ei⟩ := List.getElem?_eq_some_iff.1 hzi
        obtain ⟨hk2, ek⟩ := List.getElem?_eq_some_iff.1 hg
        have hap2 := List.pairwise_iff_getElem.1 h.ap
        rcases Nat.lt_or_gt_of_ne hne with hl | hl
        · have := hap2 i k hi hk2 hl
          rw [ei, ek] at this
          exact this p q hp hq
        · have := hap2 k i hk2 hi hl
          rw [ei, ek] at this
          exact (this q p hq hp).symm
      · rw [e] at hq
        have h1 := Option.some.inj hq
        have h2 := hlt z hz p hp
        omega
    by_cases e1 : k = i
    · subst e1
      rw [List.getElem_set_self] at hp
      rw [List.getElem_set_ne (by omega)] at hq
      exact (hnn _ (List.getElem_mem hj) j (List.getElem?_eq_getElem hj) (by omega) q p hq hp).symm
    · rw [List.getElem_set_ne e1] at hp
      by_cases e2 : k = j
      · subst e2
        rw [List.getElem_set_self] at hq
        exact hnn _ (List.getElem_mem hi) i (List.getElem?_eq_getElem hi) (by omega) p q hp hq
      · rw [List.getElem_set_ne e2] at hq
        exact hap p q hp hq
  · rw [gsI_set]
    have h1 := gsI_at hg
    exact h.ext.more (by rw [← h.rest k (Nat.le_refl _)]; exact h1) h1 hx hx0
  · rw [gsI_set, List.getElem?_set_ne (by omega)]
    exact h.rest i (by omega)
  · rcases hmset z hz with rfl | ⟨i, hi, _⟩
    · show m + 1 ≤ 10; omega
    · exact h.ten z (List.mem_of_getElem? hi)
  · exact (((h'.bel.grown hgr h'.bel.size (fun p hp => ((h.go.mem _ hgm).lt p hp).1)))).setCell (p := ⟨g, k, none⟩) hBg _
end

set_option maxRecDepth 100000 in
set_option maxHeartbeats 16000000 in
theorem own_walk (A : Option Addr) (n c : Nat) (gs : List Gg) (w : World) (hA : GA w A n gs) : Calls Try.prog 6 #[.slice A n c] w (Said (.bool true) w) := by
  have hmm := @run_makeMap Try.prog
  have HFw := Lib.hid (fun (u : World) (hu : Below w.heap.size w u) => few_any A n c gs u (hA.below hu))
  have HW := Lib.hid (wakes_any w)
  obtain ⟨cs, hcs⟩ : ∃ cs, fewL gs = cs := ⟨_, rfl⟩
  have HCS := Lib.hid hcs
  have HMM := Lib.hid hmm
  clear hA hcs hmm
  go_enter Try.func6, Try.ntmps6
  go_wp2_with fail
  refine HW.out.mono ?_
  rintro e w0 ⟨rfl, h0⟩
  have HB0 := Lib.hid h0
  clear h0
  go_wp2_with fail
  refine (HFw.out w0 HB0.out).mono ?_
  rintro e w1 ⟨A3, n3, c3, G3, rfl, S3, E3, M3, h3, b1, p3⟩
  rw [HCS.out] at E3
  have W3 := gw_own S3 (by omega) (fun g hg => by have := M3 g hg; omega)
  have HM := Lib.hid (match_any A3 n3 c3 G3 w1 W3 (own_nil S3.row))
  rw [E3] at HM
  have HB1 := Lib.hid (HB0.out.trans (b1.mono HB0.out.size))
  have HB01 := Lib.hid b1
  have HS3 := Lib.hid S3
  have HE3 := Lib.hid (And.intro E3 (And.intro M3 p3))
  have HW3 := Lib.hid W3
  have hn9 : n3 ≤ 9 := h3
  have HLC : Hid (cs.length = n3) := Lib.hid (by rw [← E3, gsI_len]; exact S3.len)
  clear S3 E3 M3 b1 W3 p3 h3
  go_wp2_with fail
  refine HM.out.mono ?_
  rintro e w2 ⟨A4, n4, c4, rfl, O4, b2⟩
  have HO4 := Lib.hid O4
  have HB2 := Lib.hid (HB1.out.trans (b2.mono HB1.out.size))
  have HB02 := Lib.hid (HB01.out.trans (b2.mono HB01.out.size))
  have HL4 : Hid ((matchL cs).length = n4) := Lib.hid (by have := O4.1; rw [length_vs] at this; omega)
  have HS4 := Lib.hid (HS3.out.below b2)
  have HW4 := Lib.hid (HW3.out.below b2)
  clear O4 b2
  cases hok : (choicesB cs && fitsB cs) with
  | false =>
    obtain rfl : n4 = 0 := by have := HL4.out; rw [matchL_no hok] at this; exact this.symm
    clear hok
    go_wp2_with fail
    go_ret
    exact ⟨rfl, HB2.out⟩
  | true =>
    have hok2 : choicesB cs = true ∧ fitsB cs = true := by simpa using hok
    obtain ⟨M, hM⟩ := Option.isSome_iff_exists.1 (show (matchR cs []).isSome = true from hok2.2)
    have hML : matchL cs = M := by unfold matchL; rw [if_pos hok2.1, hM]; rfl
    have hf := match_facts hM
    obtain rfl : n4 = n3 := by rw [← HL4.out, hML, hf.1, HLC.out]
    have HO4' := HO4.out
    rw [hML] at HO4'
    have HI4 : Hid (IR w2 A4 n4 (M)) := Lib.hid ⟨Reads.of_own HO4', by omega⟩
    have HF := Lib.hid hf
    have HOK := Lib.hid hok2
    have hmm2 := HMM.out
    have HB3 := Lib.hid ((Below.refl w2.heap.size w2).alloc (Nat.le_refl _) (.map #[] 0))
    have HM0 := Lib.hid (MB.made w2)
    have HCPU : Hid (∀ x ∈ M, 0 ≤ x ∧ x < 8) := Lib.hid (fun x hx => by
      obtain ⟨i, hi⟩ := List.mem_iff_getElem?.1 hx
      obtain ⟨row, h1, h2⟩ := hf.2.1 i x hi
      exact (choices_rows hok2.1).1 row (List.mem_of_getElem? h1) x h2)
    clear hok hok2 hM hML hf HO4'
    go_wp2_with fail
    clear hmm2
    generalize w2.alloc (.map #[] 0) = w3 at *
    go_loopw [28] (fun iv wr => ∃ k : Nat, k ≤ n4 ∧ iv = .int .i64 (k : Int) ∧ Hid (MB wr w2.heap.size (M.take k)) ∧ Below w2.heap.size w2 wr) (fun iv _ => n4 - (intOf iv).toNat)
    case atStart => exact ⟨0, by omega, rfl, HM0, HB3.out⟩
    case round =>
      obtain ⟨k, hk, rfl, HMk, hB⟩ := hrel
      have HB := Lib.hid hB
      by_cases hlt : k < n4
      · obtain ⟨x, hx⟩ := elem_at (l := M) (k := k) (by rw [HI4.out.len]; exact hlt)
        obtain ⟨ad, rfl, _, d0⟩ := (HI4.out.below hB).at_ hx
        obtain ⟨row, hrow, hxr⟩ := HF.out.2.1 k x hx
        have hrow' : (gsI G3)[k]? = some row := by rw [HE3.out.1]; exact hrow
        obtain ⟨g5, hg, hgi⟩ : ∃ g, G3[k]? = some g ∧ g.2.2.2 = row := by
          unfold gsI at hrow'
          rw [List.getElem?_map] at hrow'
          exact Option.map_eq_some_iff.1 hrow'
        obtain ⟨A5, m5, c5, is⟩ := g5
        have hgi : is = row := hgi
        subst hgi
        obtain ⟨ad3, rfl, _, e0⟩ := (HW4.out.below hB).at_ hg
        have hI := ((HW4.out.below hB).each _ (List.mem_of_getElem? hg)).1
        have HC := Lib.hid (contains_any A5 m5 c5 is x wr hI)
        rw [decide_eq_true hxr] at HC
        have hxb := HCPU.out x (List.mem_of_getElem? hx)
        have hwf : (Lit.int .i64 x).wf = true := WalkArith.wf_i64 (by omega)
        have hlook := HMk.out.look x hwf
        have hnew : x ∉ M.take k := fun hm => by
          have h2 : (M.take k ++ M.drop k).Nodup := by rw [List.take_append_drop]; exact HF.out.2.2.2
          rw [drop_cons hx, List.nodup_append] at h2
          exact h2.2.2 x hm x (by simp) rfl
        rw [decide_eq_false hnew] at hlook
        have HX := Lib.hid (show M.take (k + 1) = M.take k ++ [x] by rw [List.take_add_one, hx]; rfl)
        have HWF := Lib.hid hwf
        have HML : Hid ((M.take k).length < maxLen) := Lib.hid (by rw [List.length_take]; unfold maxLen; omega)
        have i1 : (0 : Int) ≤ (k : Int) := by omega
        have i2 : (k : Int) < (n4 : Int) := by omega
        clear hx hrow hxr hrow' hg hgi hI hxb hwf hnew hB
        go_wp2_with fail
        refine HC.out.mono ?_
        rintro e w5 ⟨rfl, b5⟩
        obtain ⟨w6, hst, M6, g6⟩ := (HMk.out.below b5 HMk.out.lt).store HWF.out HML.out
        have HM6 : Hid (MB w6 w2.heap.size (M.take (k + 1))) := Lib.hid (by rw [HX.out]; exact M6)
        have HB6 := Lib.hid ((HB.out.trans (b5.mono HB.out.size)).grown g6 (HB.out.trans (b5.mono HB.out.size)).size (fun j hj => by injection hj with hj; omega))
        clear d0 e0 hlook M6 g6 b5
        go_wp2_with fail
        go_roundw
        case rel => exact ⟨k + 1, by omega, by go_num, HM6, HB6.out⟩
        case measure => simp [intOf] <;> omega
      · obtain rfl : k = n4 := by omega
        have HMM2 : Hid (MB wr w2.heap.size M) := Lib.hid (by have := HMk.out; rwa [List.take_of_length_le (by rw [HI4.out.len]; exact Nat.le_refl _)] at this)
        have e1 : ((k : Int) == (k : Int)) = true := by simp
        have HLR : Hid (∀ row ∈ cs, row.length ≤ 9) := Lib.hid (fun row hr => by
          rw [← HE3.out.1] at hr
          obtain ⟨y, hy, rfl⟩ := List.mem_map.1 hr
          have h1 := HE3.out.2.1 y hy
          have h2 := (HS3.out.mem y hy).1
          rw [length_vs] at h2
          omega)
        have HOS : Hid (OS cs A3 k c3 w2.heap.size M w0 0 G3 wr) := Lib.hid ⟨HS4.out.below HB.out, HE3.out.2.2, by rw [HE3.out.1]; exact Ext.refl cs, fun i _ => by rw [HE3.out.1], fun g hg => by have := HE3.out.2.1 g hg; omega, HMM2.out, (HB02.out.trans (HB.out.mono HB02.out.size))⟩
        clear hB
        obtain ⟨wx, rfl⟩ : ∃ X, X = wr := ⟨_, rfl⟩
        obtain ⟨nn, rfl⟩ : ∃ X, X = k := ⟨_, rfl⟩
        go_wp2_with fail
        go_loopw [55] (fun iv wr => ∃ (k : Nat) (G : List Gg), k ≤ nn ∧ iv = .int .i64 (k : Int) ∧ Hid (OS cs A3 nn c3 w2.heap.size M w0 k G wr)) (fun iv _ => nn - (intOf iv).toNat)
        case atStart => exact ⟨0, G3, by omega, rfl, HOS⟩
        case round =>
          clear HOS
          obtain ⟨k, G, hk, rfl, HO⟩ := hrel
          by_cases hlt : k < nn
          · obtain ⟨g, cur, rfl, _, _⟩ := blk_own HO.out.go.row (by omega)
            obtain ⟨⟨A2, m, c2, is⟩, hg⟩ := elem_at (l := G) (k := k) (by rw [HO.out.go.len]; exact hlt)
            have hcsk : cs[k]? = some is := by rw [← HO.out.rest k (Nat.le_refl _)]; exact gsI_at hg
            have hm9 : m ≤ 9 := by
              have h1 := HLR.out is (List.mem_of_getElem? hcsk)
              have h2 := (HO.out.go.mem _ (List.mem_of_getElem? hg)).1
              rw [length_vs] at h2
              have h3 : is.length = m * 1 := h2
              omega
            have HGk := Lib.hid hg
            have i1 : (0 : Int) ≤ (k : Int) := by omega
            have i2 : (k : Int) < (nn : Int) := by omega
            clear hg hcsk
            obtain ⟨wk, rfl⟩ : ∃ X, X = wr := ⟨_, rfl⟩
            go_wp2_with fail
            go_loopw [58] (fun iv wr => ∃ q : Nat, q ≤ 8 ∧ iv = .int .i64 (q : Int) ∧ Hid (OS cs (some ⟨g, 0, none⟩) nn c3 w2.heap.size M w0 k G wr)) (fun iv _ => 8 - (intOf iv).toNat)
            case atStart => exact ⟨0, by omega, rfl, HO⟩
            case round =>
              clear HO
              obtain ⟨q, hq, rfl, HOq⟩ := hrel
              by_cases hq8 : q < 8
              · obtain ⟨i0, hi0, hz0, hz1, hz2⟩ := info_parts9 int_info
                have hrd := (Reads.of_own HOq.out.go.row).elem gv length_gv HGk.out (by omega)
                obtain ⟨ad', e', _, hcell⟩ := hrd
                obtain rfl : (⟨g, 0, none⟩ : Addr) = ad' := Option.some.inj e'
                have d0 : wr.cell? ⟨g, k, none⟩ = some (.slice A2 m c2) := by have := hcell 0 _ rfl; rw [Addr.add_lit] at this; simpa using this
                have hI : IR wr A2 m is := ⟨Reads.of_own (HOq.out.go.mem _ (List.mem_of_getElem? HGk.out)), by omega⟩
                have HC := Lib.hid (contains_any A2 m c2 is (q : Int) wr hI)
                have hwf : (Lit.int .i64 (q : Int)).wf = true := WalkArith.wf_i64 (by omega)
                have HWF := Lib.hid hwf
                have HQ8 := Lib.hid hq8
                have q1 : (q : Int) < 8 := by omega
                clear hcell hI hwf e'
                obtain ⟨a, ha⟩ : ∃ a, decide ((q : Int) ∈ is) = a := ⟨_, rfl⟩
                rw [ha] at HC
                obtain ⟨b, hb⟩ : ∃ b, decide ((q : Int) ∈ M) = b := ⟨_, rfl⟩
                have HAB := Lib.hid (And.intro ha hb)
                clear ha hb
                go_wp2_with fail
                refine HC.out.mono ?_
                rintro e w5 ⟨rfl, b5⟩
                have HO5 := Lib.hid (HOq.out.below b5)
                have hlook := HO5.out.mp.look (q : Int) HWF.out
                rw [HAB.out.2] at hlook
                have d5 : w5.cell? ⟨g, k, none⟩ = some (.slice A2 m c2) := (b5.cell (p := ⟨g, k, none⟩) ((HOq.out.go.row.lt g rfl).2)).trans d0
                clear b5 d0
                cases a with
                | true =>
                  go_wp2_with fail
                  go_roundw
                  case rel => exact ⟨q + 1, by omega, by go_num, HO5⟩
                  case measure => simp [intOf] <;> omega
                | false =>
                  cases b with
                  | true =>
                    go_wp2_with fail
                    go_roundw
                    case rel => exact ⟨q + 1, by omega, by go_num, HO5⟩
                    case measure => simp [intOf] <;> omega
                  | false =>
                    have HOM := Lib.hid (HO5.out.go.mem _ (List.mem_of_getElem? HGk.out))
                    have HSZ : Hid (w0.heap.size ≤ w5.heap.size) := Lib.hid HO5.out.bel.size
                    go_wp2_with (
                      at_builtin
                      refine wpList_append_any _ rfl (.tmp 79) (.tmp 81) 28 rfl w0.heap.size 3 i0 (.int .i64 0) 1 8 Try.underlying28 hi0 hz0 hz1 hz2 rfl (by decide) (.slice A2 m c2) m (vs is) rfl (HOM.out.alloc _) _ (some ⟨w5.heap.size, 0, none⟩) 1 1 (vs [(q : Int)]) rfl (reads_int1 _ _ (q : Int) rfl) (vs_ones _) (by simp only [maxLen]; omega) (by omega) (by have := HSZ.out; simp; omega) ?_
                      intro v9 w9 own9 grow9 hw9
                      rw [show vs is ++ vs [(q : Int)] = vs (is ++ [(q : Int)]) by unfold vs; rw [List.map_append]] at own9
                      obtain ⟨A9, c9, rfl, _, _⟩ := own_reads own9
                      obtain ⟨g', e9, x0, x1, hO9⟩ := HO5.out.app hlt HGk.out hm9 (x := (q : Int)) (of_decide_eq_false HAB.out.1) (cpuB_yes (by omega) (by have := HQ8.out; omega)) grow9 own9 hw9
                      obtain rfl : g = g' := by injection e9 with e9; injection e9
                      have HO9 := Lib.hid hO9
                      clear own9 grow9 hw9 hO9 e9)
                    go_roundw
                    case rel => exact ⟨k + 1, _, by omega, by go_num, HO9⟩
                    case measure => simp [intOf] <;> omega
              · obtain rfl : q = 8 := by omega
                have HO5 := Lib.hid HOq.out.next
                go_wp2
                go_roundw
                case rel => exact ⟨k + 1, _, by omega, by go_num, HO5⟩
                case measure => simp [intOf] <;> omega
          · obtain rfl : k = nn := by omega
            have hW : GW wr A3 k G := gw_own HO.out.go (by omega) (fun g hg => by have := HO.out.ten g hg; omega)
            have hM2 := match_any A3 k c3 G wr hW (own_nil HO.out.go.row)
            obtain ⟨e1, e2⟩ := ext_ok HO.out.ext HOK.out.1 HOK.out.2
            have HM2 := Lib.hid hM2
            unfold MatchSaid at HM2
            rw [e1, e2] at HM2
            have HBF := Lib.hid HO.out.bel
            clear hW hM2 e1 e2 HO
            go_wp2_with fail
            refine HM2.out.mono ?_
            rintro e w7 ⟨A7, n7, c7, rfl, _, b7⟩
            have HBE := Lib.hid (HB0.out.trans ((HBF.out.trans (b7.mono HBF.out.size)).mono HB0.out.size))
            clear b7
            go_wp2_with fail
            go_ret
            exact ⟨rfl, HBE.out⟩

end Go.Proofs.Ytglphgfaknofcaa
