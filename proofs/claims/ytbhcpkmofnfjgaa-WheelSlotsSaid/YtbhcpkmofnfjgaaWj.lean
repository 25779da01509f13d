/-
  The landed wheel: spotOf. No statement is proved here.
-/
import Derived.Test.YtbhcpkmofnfjgaaWi
import Derived.RangeFuncWrites
import Derived.Maps.AppendAt
namespace Go.Proofs.Ytbhcpkmofnfjgaa
open Go.RowKit Go.Shelf

attribute [local go_sem] Oper.semAt_some

/-- nine numbers as cells -/
def nine (F : Nat → Int) : Array Value := Array.ofFn (fun i : Fin 9 => Value.int .i64 (F i.val))
theorem nine_at (F : Nat → Int) (k : Fin 9) : (nine F)[k.val]? = some (.int .i64 (F k.val)) := by
  unfold nine
  rw [Array.getElem?_eq_getElem (by simp), Array.getElem_ofFn]
theorem nine_size (F : Nat → Int) : (nine F).size = 9 := by unfold nine; simp
theorem nine_set (F : Nat → Int) (k : Fin 9) (d : Int) : (nine F).setIfInBounds k.val (.int .i64 d) = nine (fun i => if i = k.val then d else F i) := by
  apply Array.ext
  · simp [nine]
  · intro i h1 h2
    have hi : i < 9 := by simpa [nine] using h2
    simp only [nine, Array.getElem_setIfInBounds, Array.getElem_ofFn, Array.size_ofFn, hi]
    by_cases e : k.val = i
    · subst e; simp
    · rw [if_neg e, if_neg (fun h => e h.symm)]
theorem spot_stop {now b : Int} : ∀ {m : Nat} {pre : List (Fin 9)} {k : Fin 9}, m ≤ 9 → (pre ++ [k]) <+: dn m → (∀ j ∈ pre, dgT b j.val = dgT now j.val) → dgT b k.val ≠ dgT now k.val → spotF now b m = ((k.val : Int), dgT b k.val)
  | 0, pre, k, _, h, _, _ => by
    have := h.length_le
    simp [dn] at this
  | m + 1, [], k, hm, h, _, hk => by
    rw [dn_succ (by omega)] at h
    obtain ⟨t, ht⟩ := h
    injection ht with e _
    subst e
    exact if_neg hk
  | m + 1, j :: pre, k, hm, h, hp, hk => by
    rw [dn_succ (by omega)] at h
    obtain ⟨t, ht⟩ := h
    injection ht with e e2
    subst e
    show (if dgT b m = dgT now m then spotF now b m else _) = _
    rw [if_pos (hp ⟨m, by omega⟩ (by simp))]
    exact spot_stop (by omega) ⟨t, e2⟩ (fun j hj => hp j (by simp [hj])) hk
theorem spot_done {now b : Int} : ∀ {m : Nat}, m ≤ 9 → (∀ j ∈ dn m, dgT b j.val = dgT now j.val) → spotF now b m = (0, 0)
  | 0, _, _ => rfl
  | m + 1, hm, h => by
    rw [dn_succ (by omega)] at h
    show (if dgT b m = dgT now m then spotF now b m else _) = _
    rw [if_pos (h ⟨m, by omega⟩ (by simp))]
    exact spot_done (by omega) (fun j hj => h j (by simp [hj]))

theorem own_b {β : Type} (g : Nat) (t : TypeId) (cs : Array Value) : Own (fun (_ : β) W => Blk W g t cs) := fun s X Y row hs hg hr => Blk.grown hs hg (fun e => by
  obtain ⟨o, ho, hc⟩ := hr g e.symm
  unfold Blk at hs
  rw [hs] at ho
  injection ho with ho
  subst ho
  cases hc)
theorem own_nine (g : Nat) (now : Int) : Own (fun (pre : List (Fin 9)) W => ∃ F : Nat → Int, Blk W g 83 (nine F) ∧ ∀ k ∈ pre, F k.val = dgT now k.val) := fun s X Y row ⟨F, hF, h⟩ hg hr => ⟨F, own_b g _ _ s X Y row hF hg hr, h⟩
theorem own_mark {β : Type} {B D : Nat} (hD : D < B) : OwnFrom B (fun (_ : β) W => W.heap[D]? = some (.deferred (some []))) := fun s X Y row hs hg hr => (hg.block D (Array.getElem?_eq_some_iff.1 hs).1 (fun e => by have := (hr D e.symm).1; omega)).trans hs

set_option maxRecDepth 100000 in
set_option maxHeartbeats 8000000 in
theorem spot_any (now a b : Int) (w : World) (h0 : 0 ≤ now) (hb0 : 0 ≤ b) :
    Calls Try.prog 37 #[.int .i64 now, .agg #[.int .i64 a, .int .i64 b]] w (Said (.agg #[.int .i64 (spotT now b).1, .int .i64 (spotT now b).2]) w) := by
  have H0 := Lib.hid h0
  have HB0 := Lib.hid hb0
  clear h0 hb0
  refine (callsIn_wide (n := 5)).1 ?_
  refine callsIn_of_wp_marks Try.func37 rfl trivial ?_ rfl
  simp only [Try.ntmps37, List.size_toArray, List.length_cons, List.length_nil, Nat.reduceAdd, Nat.reduceSub, Array.replicate_succ, Array.replicate_zero, List.push_toArray, List.append_toArray, List.nil_append, List.cons_append]
  gi_wp2_with (refine ⟨trivial, ?_⟩; gi_at_call 50; refine (digits_in (5 - 1) now _).mono ?_; rintro e w' ⟨rfl, rfl⟩)
  obtain ⟨KT, KS, KA, KN, GB⟩ := blks4 w 44 72 83 2 #[.int .i64 a, .int .i64 b] #[.int .i64 0, .int .i64 0] #[.int .i64 0, .int .i64 0, .int .i64 0, .int .i64 0, .int .i64 0, .int .i64 0, .int .i64 0, .int .i64 0, .int .i64 0] #[.int .i64 now]
  generalize ((((w.alloc (.cells #[.int .i64 a, .int .i64 b] 44)).alloc (.cells #[.int .i64 0, .int .i64 0] 72)).alloc (.cells #[.int .i64 0, .int .i64 0, .int .i64 0, .int .i64 0, .int .i64 0, .int .i64 0, .int .i64 0, .int .i64 0, .int .i64 0] 83)).alloc (.cells #[.int .i64 now] 2)) = V at KT KS KA KN GB ⊢
  replace KA : Blk V (w.heap.size + 1 + 1) 83 (nine (fun _ => 0)) := KA
  refine wpIn_rangeFunc_ownG rfl (by decide) (gf := 56) (lb := #[.pointer (some ⟨w.heap.size + 1 + 1 + 1, 0, none⟩)]) rfl trivial (enters_of Try.func56 (by kernel_rfl) rfl)
    (digits_stops (5 - 1) (by decide) (w.heap.size + 1 + 1 + 1) now H0.out V KN) keeps1_t (keeps1_b KN.lt) (Below.refl _ _) (fun _ => rfl)
    (fun pre W => (∃ F : Nat → Int, Blk W (w.heap.size + 1 + 1) 83 (nine F) ∧ ∀ k ∈ pre, F k.val = dgT now k.val) ∧ Blk W (w.heap.size) 44 #[.int .i64 a, .int .i64 b] ∧ Blk W (w.heap.size + 1) 72 #[.int .i64 0, .int .i64 0] ∧ Below w.heap.size w W)
    (fun _ _ _ => False)
    (OwnFrom.and (Own.from (own_nine _ _) _) (OwnFrom.and (Own.from (own_b _ _ _) _) (OwnFrom.and (Own.from (own_b _ _ _) _) (ownFrom_below (Nat.le_refl _) GB.size))))
    (fun _ _ _ _ _ hs _ _ => hs)
    ⟨⟨_, KA, fun k hk => by simp at hk⟩, KT, KS, GB⟩
    (fun k => { tmps := #[.int .i64 now, .agg #[.int .i64 a, .int .i64 b], undef, .pointer (some ⟨w.heap.size, 0, none⟩), .pointer (some ⟨w.heap.size + 1, 0, none⟩), .pointer (some ⟨w.heap.size + 1 + 1, 0, none⟩), .int .i64 (k.val : Int), .int .i64 (dgT now k.val), undef, undef, .int .i64 now, .func (.func 56) #[] #[.pointer (some ⟨w.heap.size + 1 + 1 + 1, 0, none⟩)], .int .i64 (k.val : Int), .int .i64 (dgT now k.val), undef, undef, undef, undef, undef, undef, undef, undef, undef, undef, undef, undef, undef, undef, undef, undef, undef], defers := [] }) ?assign ?body ?done ?stop
  case assign =>
    intro l x W K hK
    unfold encD
    gi_wp2
    exact hK
  case body =>
    rintro l pre k W ⟨⟨F, hA, hF⟩, hT, hS, hB⟩ _
    have c0 := (hA.cell k.val).trans (nine_at F k)
    have f0 := hA.frozen k.val
    have k0 : (0 : Int) ≤ (k.val : Int) := by omega
    have k1 : (k.val : Int) < 9 := by have := k.isLt; omega
    have k2 : k.val < 9 := k.isLt
    have HN := Lib.hid (hA.set_ k.val (.int .i64 (dgT now k.val)))
    rw [nine_set] at HN
    have HK := Lib.hid (KeepsOthers.setCell W ⟨w.heap.size + 1 + 1, k.val, none⟩ (.int .i64 (dgT now k.val)))
    have HKp : Hid (Keeps1 (w.heap.size + 1 + 1 + 1) W (W.setCell ⟨w.heap.size + 1 + 1, k.val, none⟩ (.int .i64 (dgT now k.val)))) := Lib.hid (Below.heap_setCell W _ _ _ (by simp))
    have HT := Lib.hid (hT.far (p := ⟨w.heap.size + 1 + 1, k.val, none⟩) (by dsimp only; omega) (.int .i64 (dgT now k.val)))
    have HS := Lib.hid (hS.far (p := ⟨w.heap.size + 1 + 1, k.val, none⟩) (by dsimp only; omega) (.int .i64 (dgT now k.val)))
    have HB := Lib.hid (hB.setCell (p := ⟨w.heap.size + 1 + 1, k.val, none⟩) (by dsimp only; omega) (.int .i64 (dgT now k.val)))
    have HF := Lib.hid hF
    clear hA hF hT hS hB
    gi_wp2
    refine ⟨HK.out.from _, HKp.out, ⟨⟨_, HN.out, fun j hj => ?_⟩, HT.out, HS.out, HB.out⟩⟩
    rcases List.mem_append.1 hj with hj | hj
    · by_cases e : j.val = k.val
      · simp [e]
      · simp [e]; exact HF.out j hj
    · simp at hj; subst hj; simp
  case done =>
    rintro D ys W hD rfl ⟨⟨F, hA, hF⟩, hT, hS, hB⟩ hK
    have hN : nine F = nine (dgT now) := by
      unfold nine
      congr 1
      funext i
      rw [hF i (dn_all i)]
    rw [hN] at hA
    have z1 := hT.cell 1
    clear hF hN
    gi_wp2_with (refine ⟨trivial, ?_⟩; gi_at_call 50; refine (digits_in (5 - 1) b _).mono ?_; rintro e w' ⟨rfl, rfl⟩)
    have KN2 := Blk.new W 2 #[.int .i64 b]
    have HDV : Hid (w.heap.size + 1 + 1 + 1 < V.heap.size ∧ V.heap.size ≤ D) := Lib.hid ⟨KN.lt, hD⟩
    have hsz : (W.alloc (.cells #[.int .i64 b] 2)).heap.size = W.heap.size + 1 := by simp
    have hDl : D < W.heap.size := (Array.getElem?_eq_some_iff.1 hK).1
    have hK2 : (W.alloc (.cells #[.int .i64 b] 2)).heap[D]? = some (.deferred (some [])) := (Below.heap_alloc W _ D hDl).trans hK
    have hA2 := hA.alloc (.cells #[.int .i64 b] 2)
    have hS2 := hS.alloc (.cells #[.int .i64 b] 2)
    have hBs := hB.size
    have hB2 := hB.alloc hB.size (.cells #[.int .i64 b] 2)
    have hAl := hA.lt
    have hSl := hS.lt
    obtain ⟨g2, hg2⟩ : ∃ g2, W.heap.size = g2 := ⟨_, rfl⟩
    generalize W.alloc (.cells #[.int .i64 b] 2) = V2 at KN2 hsz hK2 hA2 hS2 hB2 ⊢
    rw [hg2] at KN2 hsz hDl hAl hSl ⊢
    clear hA hS hB hT z1 hK hg2
    refine wpIn_rangeFunc_ownG rfl (by decide) (gf := 56) (lb := #[.pointer (some ⟨g2, 0, none⟩)]) rfl trivial (enters_of Try.func56 (by kernel_rfl) rfl)
      (digits_stops (5 - 1) (by decide) g2 b HB0.out V2 KN2) keeps1_t (keeps1_b KN2.lt) (Below.refl _ _) (fun _ => rfl)
      (fun pre W => (∀ k ∈ pre, dgT b k.val = dgT now k.val) ∧ Blk W (w.heap.size + 1 + 1) 83 (nine (dgT now)) ∧ Blk W (w.heap.size + 1) 72 #[.int .i64 0, .int .i64 0] ∧ W.heap[D]? = some (.deferred (some [])) ∧ Below w.heap.size w W)
      (fun c pre W => (c = .ret ∧ ∃ ini k, pre = ini ++ [k] ∧ (∀ j ∈ ini, dgT b j.val = dgT now j.val) ∧ dgT b k.val ≠ dgT now k.val ∧ Blk W (w.heap.size + 1) 72 #[.int .i64 (k.val : Int), .int .i64 (dgT b k.val)]) ∧ W.heap[D]? = some (.deferred (some [])) ∧ Below w.heap.size w W)
      (OwnFrom.and (fun _ _ _ _ h _ _ => h) (OwnFrom.and (Own.from (own_b _ _ _) _) (OwnFrom.and (Own.from (own_b _ _ _) _) (OwnFrom.and (own_mark (by omega)) (ownFrom_below (Nat.le_refl _) (by omega))))))
      (fun c => OwnFrom.and (Own.from (fun s X Y row hs hg hr => by obtain ⟨hc, ini, k, e1, e2, e3, e4⟩ := hs; exact ⟨hc, ini, k, e1, e2, e3, own_b _ _ _ s X Y row e4 hg hr⟩) _) (OwnFrom.and (own_mark (by omega)) (ownFrom_below (Nat.le_refl _) (by omega))))
      ⟨fun k hk => by simp at hk, hA2, hS2, hK2, hB2⟩
      (fun k => { tmps := #[.int .i64 now, .agg #[.int .i64 a, .int .i64 b], undef, .pointer (some ⟨w.heap.size, 0, none⟩), .pointer (some ⟨w.heap.size + 1, 0, none⟩), .pointer (some ⟨w.heap.size + 1 + 1, 0, none⟩), undef, undef, .int .i64 (k.val : Int), .int .i64 (dgT b k.val), .int .i64 now, .func (.func 56) #[] #[.pointer (some ⟨w.heap.size + 1 + 1 + 1, 0, none⟩)], undef, undef, undef, undef, undef, .pointer (some ⟨w.heap.size, 1, none⟩), .int .i64 b, .func (.func 56) #[] #[.pointer (some ⟨g2, 0, none⟩)], .int .i64 (k.val : Int), .int .i64 (dgT b k.val), undef, undef, undef, undef, undef, undef, undef, undef, undef], defers := [] }) ?assign2 ?body2 ?done2 ?stop2
    case assign2 =>
      intro l x W K hK
      unfold encD
      gi_wp2
      exact hK
    case body2 =>
      rintro l pre k W ⟨hF, hA, hS, hM, hB⟩ _
      have c0 := (hA.cell k.val).trans (nine_at (dgT now) k)
      have k0 : (0 : Int) ≤ (k.val : Int) := by omega
      have k1 : (k.val : Int) < 9 := by have := k.isLt; omega
      have k2 : k.val < 9 := k.isLt
      by_cases hd : dgT b k.val = dgT now k.val
      · have HF : Hid (∀ j ∈ pre ++ [k], dgT b j.val = dgT now j.val) := Lib.hid (fun j hj => by
          rcases List.mem_append.1 hj with hj | hj
          · exact hF j hj
          · simp at hj; subst hj; exact hd)
        rw [hd]
        have e0 : (dgT now k.val != dgT now k.val) = false := by simp
        clear hF hd
        gi_wp2
        exact ⟨KeepsFrom.refl _ _, rfl, HF.out, hA, hS, hM, hB⟩
      · have e0 : (dgT b k.val != dgT now k.val) = true := by simpa using hd
        have HF := Lib.hid (And.intro hF hd)
        have y0 := hS.cell 0
        have y1 := hS.cell 1
        have f0 := hS.frozen 0
        have f1 := hS.frozen 1
        have HP := Lib.hid (put2 (x := .int .i64 (k.val : Int)) (y := .int .i64 (dgT b k.val)) hS hB (by omega))
        have HK := Lib.hid ((KeepsOthers.setCell W ⟨w.heap.size + 1, 0, none⟩ (.int .i64 (k.val : Int))).trans (KeepsOthers.setCell _ ⟨w.heap.size + 1, 1, none⟩ (.int .i64 (dgT b k.val))))
        have HM := Lib.hid hM
        clear hF hd hS hA hM hB
        gi_wp2
        exact ⟨HK.out.from _, ⟨rfl, pre, k, rfl, HF.out.1, HF.out.2, HP.out.1⟩, HK.out.same D _ HM.out rfl, HP.out.2⟩
    case done2 =>
      rintro D2 ys W hD2 rfl ⟨hF, hA, hS, hM, hB⟩ hK
      have HV : Hid (spotT now b = (0, 0)) := Lib.hid (spot_done (Nat.le_refl _) hF)
      have y0 := hS.cell 0
      have y1 := hS.cell 1
      have f0 := hS.frozen 0
      have f1 := hS.frozen 1
      have HP := Lib.hid (put2 (x := .int .i64 0) (y := .int .i64 0) hS hB (by omega))
      have HKO := (KeepsOthers.setCell W ⟨w.heap.size + 1, 0, none⟩ (.int .i64 0)).trans (KeepsOthers.setCell _ ⟨w.heap.size + 1, 1, none⟩ (.int .i64 0))
      have hK' := Lib.hid (HKO.same D2 _ hK rfl)
      have hM' := Lib.hid (HKO.same D _ hM rfl)
      clear hF hA hS hM hB hK HKO
      gi_wp2
      have hne : D ≠ D2 := by omega
      have hsp : w.heap.size + 1 ≠ D2 ∧ w.heap.size + 1 ≠ D := ⟨by omega, by have := HDV.out; omega⟩
      obtain ⟨Wf, hWf⟩ : ∃ Wf, ((W.setCell ⟨w.heap.size + 1, 0, none⟩ (.int .i64 0)).setCell ⟨w.heap.size + 1, 1, none⟩ (.int .i64 0)) = Wf := ⟨_, rfl⟩
      rw [hWf] at HP hK' hM' ⊢
      have hm2 := (World.putObj_heap_other (w := Wf) (o := .deferred none) hne).trans hM'.out
      have hsl : ((Wf.putObj D2 (.deferred none)).putObj D (.deferred none)).heap[w.heap.size + 1]? = some (.cells #[.int .i64 0, .int .i64 0] 72 (0, 0)) := (World.putObj_heap_other hsp.2).trans ((World.putObj_heap_other hsp.1).trans HP.out.1)
      have hbl : Below w.heap.size w ((Wf.putObj D2 (.deferred none)).putObj D (.deferred none)) := (HP.out.2.trans (belowK_b (w := w) (Nat.le_refl _) Wf D2 _ _ (by have := HDV.out; omega) hK'.out rfl rfl)).trans (belowK_b (w := w) (Nat.le_refl _) _ D _ _ (by have := HDV.out; omega) hm2 rfl rfl)
      refine ⟨by simp, .inl ⟨_, _, rfl, run_takeDeferred hK'.out, ⟨by simp, .inl ⟨_, _, rfl, run_takeDeferred hm2, ?_⟩⟩⟩⟩
      exact ⟨_, results_cell_row Try.results37 _ _ _ _ _ _ rfl hsl Try.underlying72 rfl (by kernel_rfl), by rw [HV.out], hbl⟩
    case stop2 =>
      rintro D2 c pre W hD2 hpre ⟨⟨rfl, ini, k, rfl, e2, e3, e4⟩, hM, hB⟩ hK
      have HV : Hid (spotT now b = ((k.val : Int), dgT b k.val)) := Lib.hid (spot_stop (Nat.le_refl _) hpre e2 e3)
      have HP := Lib.hid (And.intro e4 hB)
      have hK' := Lib.hid hK
      have hM' := Lib.hid hM
      clear e2 e3 e4 hpre hB hK hM
      gi_wp2
      have hne : D ≠ D2 := by omega
      have hsp : w.heap.size + 1 ≠ D2 ∧ w.heap.size + 1 ≠ D := ⟨by omega, by have := HDV.out; omega⟩
      obtain ⟨Wf, hWf⟩ : ∃ Wf, W = Wf := ⟨_, rfl⟩
      rw [hWf] at HP hK' hM' ⊢
      have hm2 := (World.putObj_heap_other (w := Wf) (o := .deferred none) hne).trans hM'.out
      have hsl : ((Wf.putObj D2 (.deferred none)).putObj D (.deferred none)).heap[w.heap.size + 1]? = some (.cells #[.int .i64 (k.val : Int), .int .i64 (dgT b k.val)] 72 (0, 0)) := (World.putObj_heap_other hsp.2).trans ((World.putObj_heap_other hsp.1).trans HP.out.1)
      have hbl : Below w.heap.size w ((Wf.putObj D2 (.deferred none)).putObj D (.deferred none)) := (HP.out.2.trans (belowK_b (w := w) (Nat.le_refl _) Wf D2 _ _ (by have := HDV.out; omega) hK'.out rfl rfl)).trans (belowK_b (w := w) (Nat.le_refl _) _ D _ _ (by have := HDV.out; omega) hm2 rfl rfl)
      refine ⟨by simp, .inl ⟨_, _, rfl, run_takeDeferred hK'.out, ⟨by simp, .inl ⟨_, _, rfl, run_takeDeferred hm2, ?_⟩⟩⟩⟩
      exact ⟨_, results_cell_row Try.results37 _ _ _ _ _ _ rfl hsl Try.underlying72 rfl (by kernel_rfl), by rw [HV.out], hbl⟩
  case stop =>
    rintro D c pre W _ _ h _
    exact h.elim

end Go.Proofs.Ytbhcpkmofnfjgaa
