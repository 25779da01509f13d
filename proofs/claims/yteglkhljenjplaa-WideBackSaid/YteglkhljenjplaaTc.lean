/-
  The contract of the closure that lays a number's digits, and calls itself. No statement is proved here.
-/
import Derived.Test.YteglkhljenjplaaTb
import Derived.Laws.EntriesVeiled
import Derived.Laws.Cover4
import Derived.Deep.AppendLies
import Derived.OneCell
namespace Go.Proofs.Yteglkhljenjplaa
open Go.RowKit

/-- the closure, as it lies in its variable -/
def clo (bL bD : Nat) : Value := .func (.func 39) #[] #[.pointer (some ⟨bL, 0, none⟩), .pointer (some ⟨bD, 0, none⟩)]
theorem info_rune : (Try.prog.info? 21).map (fun i => (i.zero, i.size, i.bytes)) = some (some (.int .i32 0), 1, 4) := by kernel_rfl
def LaySaid (bL bD base : Nat) (n : Nat) (xs : List Value) (ds : List Nat) (w : World) (e : Ending) (w' : World) : Prop :=
  e = .returned (.tuple #[]) ∧ ∃ v', Blk w' bL 72 #[clo bL bD] ∧ Blk w' bD 71 #[v'] ∧ w'.ownsRow base 21 1 v' (n + ds.length) (xs ++ ds.map fun d => .int .i32 ((48 + d : Nat) : Int)) ∧ Below bD w w'

theorem zero_yes {g : Nat → Nat} (h : valQ g = 0) : true = true ↔ ∀ i, i < 4 → g i = (fun _ : Nat => (0 : Nat)) i := by
  rw [valQ_def] at h
  refine ⟨fun _ i hi => ?_, fun _ => rfl⟩
  have : i = 0 ∨ i = 1 ∨ i = 2 ∨ i = 3 := by omega
  rcases this with rfl | rfl | rfl | rfl
  · show g 0 = 0; omega
  · show g 1 = 0; omega
  · show g 2 = 0; omega
  · show g 3 = 0; omega
theorem zero_no {g : Nat → Nat} (h : 1 ≤ valQ g) : false = true ↔ ∀ i, i < 4 → g i = (fun _ : Nat => (0 : Nat)) i := by
  rw [valQ_def] at h
  refine ⟨fun h => (by cases h), fun h2 => ?_⟩
  have h0 := h2 0 (by omega)
  have h1 := h2 1 (by omega)
  have h3 := h2 2 (by omega)
  have h4 := h2 3 (by omega)
  simp only at h0 h1 h3 h4
  rw [h0, h1, h3, h4] at h
  omega

section
variable {w w' : World} {base n g : Nat} {e : TypeId} {size : Nat} {v : Value} {xs : List Value} {cs' : Array Value}
theorem own_below (h : w.ownsRow base e size v n xs) (hb : Below w.heap.size w w') : w'.ownsRow base e size v n xs :=
  ⟨h.1, h.2.imp id fun ⟨g, cap, cur, h1, h2, h3, h4⟩ => ⟨g, cap, cur, h1, h2, (hb.block g (lt_of_block h3)).trans h3, h4⟩⟩
theorem own_from (h : w.ownsRow base e size v n xs) {k : Nat} (hk : v.ownBlock = some k) : base ≤ k := by
  rcases h.2 with ⟨rfl, _⟩ | ⟨g, cap, cur, rfl, h2, _⟩
  · cases hk
  · simp [Value.ownBlock] at hk; omega
theorem own_ne (h : w.ownsRow base e size v n xs) : v.ownBlock ≠ some w.heap.size := by
  rcases h.2 with ⟨rfl, _⟩ | ⟨g, cap, cur, rfl, h2, h3, _⟩
  · simp [Value.ownBlock]
  · have := lt_of_block h3
    simp [Value.ownBlock]; omega
theorem own_row (h : w.ownsRow base e size v n xs) (hg : v.ownBlock ≠ some g) : (w.setRow g cs').ownsRow base e size v n xs :=
  ⟨h.1, h.2.imp id fun ⟨g2, cap, cur, h1, h2, h3, h4⟩ => ⟨g2, cap, cur, h1, h2, by
    subst h1
    simp only [World.setRow, Array.getElem?_modify]
    rw [if_neg (by simp [Value.ownBlock] at hg; omega)]
    exact h3, h4⟩⟩
theorem news_one (W : World) (u : Value) (t : TypeId) : ∀ (j : Nat) (x : Value), [u][j]? = some x → (W.alloc (.cells #[u] t)).cell? ((⟨W.heap.size, 0, none⟩ : Addr).add j) = some x := by
  intro j x hj
  match j, hj with
  | 0, hj =>
    simp at hj
    subst hj
    exact (Blk.new W t #[u]).cell 0
end
theorem lay_end {bL bD base m : Nat} {V w4 a : World} {o : Obj} {c : Value} {v v4 : Value} {ys zs : List Value} (hLD : bD < bL) (hb : bL < base) (hsz : base ≤ V.heap.size) (FL : Blk V bL 72 #[c]) (FD : Blk V bD 71 #[v]) (own : V.ownsRow base 21 1 v m ys) (own4 : w4.ownsRow base 21 1 v4 (m + 1) zs)
    (hg : (V.alloc o).grownBy w4 v.ownBlock) (GB : Below bD a V) :
    w4.cell? ⟨bD, 0, none⟩ = some v ∧ w4.frozen? ⟨bD, 0, none⟩ = false ∧ Blk (w4.setCell ⟨bD, 0, none⟩ v4) bL 72 #[c] ∧ Blk (w4.setCell ⟨bD, 0, none⟩ v4) bD 71 #[v4] ∧ (w4.setCell ⟨bD, 0, none⟩ v4).ownsRow base 21 1 v4 (m + 1) zs ∧ Below bD a (w4.setCell ⟨bD, 0, none⟩ v4) := by
  have hB : Below base V w4 := ((Below.refl base V).alloc hsz o).grown hg (by simp; omega) (fun k hk => own_from own hk)
  have FL4 := FL.below hB hb
  have FD4 := FD.below hB (by omega)
  exact ⟨FD4.cell 0, FD4.frozen 0, FL4.far (by show bL ≠ bD; omega) v4, one_setCell FD4, ownsRow_setCell_below own4 (by show bD < base; omega) v4, (GB.trans (hB.mono (by omega))).setCell (Nat.le_refl _) v4⟩

set_option maxHeartbeats 4000000 in
set_option maxRecDepth 100000 in
theorem lay_one (bL bD base : Nat) (hLD : bD < bL) (hb : bL < base) (f : Nat → Nat) (hf : ∀ k, k < 4 → f k < 4294967296) (h10 : valQ f < 10) 
    (v : Value) (n : Nat) (xs : List Value) (w : World) (FL : Blk w bL 72 #[clo bL bD]) (FD : Blk w bD 71 #[v]) (own : w.ownsRow base 21 1 v n xs) (hbase : base ≤ w.heap.size) (hn : n ≤ 1000) :
    Calls Try.prog 39 #[.agg (qs f), .pointer (some ⟨bL, 0, none⟩), .pointer (some ⟨bD, 0, none⟩)] w (LaySaid bL bD base n xs [valQ f] w) := by
  obtain ⟨i0, hi, hz0, hz1, hz2⟩ := info_parts info_rune
  have hto := tenth_val f
  have HT := Lib.hid (fun u => tenth_any f hf u)
  have hgl : ∀ k, k < 4 → gk f k < 4294967296 := fun k hk => gk_lt (hf k hk)
  obtain ⟨x, hx⟩ : ∃ x, lk f 4 = x := ⟨_, rfl⟩
  rw [hx] at HT hto
  have hx10 : x < 10 := by rw [← hto.2]; exact Nat.mod_lt _ (by omega)
  have HV := Lib.hid (show valQ (gk f) = 0 by rw [← hto.1]; omega)
  have HR := Lib.hid (show valQ f = x by have := hto.2; omega)
  obtain ⟨x48, hx48⟩ : ∃ y, 48 + x = y := ⟨_, rfl⟩
  rw [hx48] at HT
  have H48 := Lib.hid hx48
  have HLD := Lib.hid (And.intro hLD (And.intro hb (And.intro hbase hn)))
  have F3 := Blk.new w 62 (qs f)
  have GB := (Below.refl w.heap.size w).alloc (Nat.le_refl _) (.cells (qs f) 62)
  replace own := own.alloc (.cells (qs f) 62)
  have lL := FL.lt
  have lD := FD.lt
  replace FL := FL.alloc (.cells (qs f) 62)
  replace FD := FD.alloc (.cells (qs f) 62)
  have HB := Lib.hid (And.intro own (And.intro FL (And.intro FD GB)))
  clear hto hgl hx hx10 hx48 own FL FD GB hLD hb hbase hn hf h10
  go_enter Try.func39, Try.ntmps39
  go_wp2_with (refine BigFrame.wpList_want rfl (fun K hK => wp_load_row 62 (.tmp 3) rfl _ rfl _ _ (0, 0) _ F3 Try.underlying62 rfl (info_qs f) (hK _ _ ?_)))
  refine (HT.out _).mono ?_
  rintro e w2 ⟨rfl, h2⟩
  obtain ⟨own, FL, FD, GB⟩ := HB.out
  replace own := own_below own h2
  replace FL := FL.below h2 FL.lt
  replace FD := FD.below h2 FD.lt
  replace GB := GB.trans (h2.mono GB.size)
  have sz := GB.size
  clear h2 F3 HB HT
  have F4 := Blk.new w2 62 #[.int .u32 0, .int .u32 0, .int .u32 0, .int .u32 0]
  have HG := Lib.hid (And.intro (own_row (own.alloc (.cells #[.int .u32 0, .int .u32 0, .int .u32 0, .int .u32 0] 62)) (g := w2.heap.size) (cs' := qs (gk f)) (own_ne own)) (And.intro ((FL.alloc (.cells #[.int .u32 0, .int .u32 0, .int .u32 0, .int .u32 0] 62)).other (g' := w2.heap.size) (cs' := qs (gk f)) (by have := FL.lt; omega))
    (And.intro ((FD.alloc (.cells #[.int .u32 0, .int .u32 0, .int .u32 0, .int .u32 0] 62)).other (g' := w2.heap.size) (cs' := qs (gk f)) (by have := FD.lt; omega))
    (And.intro (below_row (g' := w2.heap.size) (cs' := qs (gk f)) (GB.alloc sz (.cells #[.int .u32 0, .int .u32 0, .int .u32 0, .int .u32 0] 62)) sz) (F4.row (cs' := qs (gk f)))))))
  clear own FL FD GB sz
  go_upto_region 2 with (refine wpList_store_row rfl 62 (.tmp 4) (.tmp 9) rfl _ _ rfl rfl _ _ F4 (info_qs (gk f)) rfl (one_qs (gk f)) ?_)
  obtain ⟨own, FL, FD, GB, F4'⟩ := HG.out
  clear HG F4
  generalize (w2.alloc (.cells #[.int .u32 0, .int .u32 0, .int .u32 0, .int .u32 0] 62)).setRow w2.heap.size (qs (gk f)) = V at own FL FD GB F4' ⊢
  generalize w2.heap.size = g4 at F4' ⊢
  go_upto_region 4 with (first
    | (refine BigFrame.wpList_want rfl (fun K hK => wp_load_row 62 (.tmp 4) rfl _ rfl _ _ (0, 0) _ F4' Try.underlying62 rfl (info_qs (gk f)) (hK _ _ ?_)))
    | (refine BigFrame.wpList_want rfl (fun K hK => wp_neq_qs (.tmp 11) (.tmp 12) 62 rfl _ (fun _ => 0) rfl rfl (zero_yes HV.out) (hK _ _ ?_))))
  have FL3 := FL
  have FD3 := FD
  have own3 := own
  replace GB := GB.mono (Nat.le_of_lt lD)
  have hds := HLD.out.2.2.2
  clear FL FD own F4' HV
  have c2 : V.cell? ⟨bD, 0, none⟩ = some v := FD3.cell 0
  have hsz : base ≤ V.heap.size := by have := HLD.out.2.2.1; have := GB.size; omega
  have hlt := FD3.lt
  go_wp2_with (at_builtin; refine wpList_append_own _ rfl (.tmp 17) (.tmp 19) 71 rfl base 21 i0 (.int .i32 0) 1 4 Try.underlying71 hi hz0 hz1 hz2 rfl (by decide) _ _ _ rfl (own3.alloc _) ⟨V.heap.size, 0, none⟩ 1 1 [.int .i32 (x48 : Int)] rfl rfl (news_one _ _ _) (by intro u hu; simp at hu; subst hu; rfl) (by unfold maxLen; omega) (by omega) (by simp; omega) ?_; intro v4 w4 own4 hgrow hnil; clear hnil; obtain ⟨gv, cp, rfl, hgv⟩ := own4.form (by omega); clear hgv; have HE := Lib.hid (lay_end HLD.out.1 HLD.out.2.1 hsz FL3 FD3 own3 own4 hgrow GB); have c3 := HE.out.1; have f3 := HE.out.2.1; clear hgrow own4)
  clear FL3 FD3 own3 GB c2 hlt c3 f3
  go_end0
  refine ⟨rfl, _, HE.out.2.2.1, HE.out.2.2.2.1, ?_, HE.out.2.2.2.2.2⟩
  have := HE.out.2.2.2.2.1
  rw [← H48.out, ← HR.out] at this
  simpa using this

set_option maxHeartbeats 4000000 in
set_option maxRecDepth 100000 in
theorem lay_more (bL bD base : Nat) (hLD : bD < bL) (hb : bL < base) (f : Nat → Nat) (hf : ∀ k, k < 4 → f k < 4294967296) (h10 : 10 ≤ valQ f) (ds : List Nat) 
    (v : Value) (n : Nat) (xs : List Value)
    (IH : ∀ w : World, Blk w bL 72 #[clo bL bD] → Blk w bD 71 #[v] → w.ownsRow base 21 1 v n xs → base ≤ w.heap.size →
      Calls Try.prog 39 #[.agg (qs (gk f)), .pointer (some ⟨bL, 0, none⟩), .pointer (some ⟨bD, 0, none⟩)] w (LaySaid bL bD base n xs ds w)) (w : World) (FL : Blk w bL 72 #[clo bL bD]) (FD : Blk w bD 71 #[v]) (own : w.ownsRow base 21 1 v n xs) (hbase : base ≤ w.heap.size) (hn : n ≤ 1000) (hds : n + ds.length ≤ 1000) :
    Calls Try.prog 39 #[.agg (qs f), .pointer (some ⟨bL, 0, none⟩), .pointer (some ⟨bD, 0, none⟩)] w (LaySaid bL bD base n xs (ds ++ [valQ f % 10]) w) := by
  obtain ⟨i0, hi, hz0, hz1, hz2⟩ := info_parts info_rune
  have hto := tenth_val f
  have HT := Lib.hid (fun u => tenth_any f hf u)
  have hgl : ∀ k, k < 4 → gk f k < 4294967296 := fun k hk => gk_lt (hf k hk)
  obtain ⟨x, hx⟩ : ∃ x, lk f 4 = x := ⟨_, rfl⟩
  rw [hx] at HT hto
  have hx10 : x < 10 := by rw [← hto.2]; exact Nat.mod_lt _ (by omega)
  have HV := Lib.hid (show 1 ≤ valQ (gk f) by rw [← hto.1]; omega)
  have HR := Lib.hid (show valQ f % 10 = x from hto.2)
  obtain ⟨x48, hx48⟩ : ∃ y, 48 + x = y := ⟨_, rfl⟩
  rw [hx48] at HT
  have H48 := Lib.hid hx48
  have HLD := Lib.hid (And.intro hLD (And.intro hb (And.intro hbase hn)))
  have F3 := Blk.new w 62 (qs f)
  have GB := (Below.refl w.heap.size w).alloc (Nat.le_refl _) (.cells (qs f) 62)
  replace own := own.alloc (.cells (qs f) 62)
  have lL := FL.lt
  have lD := FD.lt
  replace FL := FL.alloc (.cells (qs f) 62)
  replace FD := FD.alloc (.cells (qs f) 62)
  have HB := Lib.hid (And.intro own (And.intro FL (And.intro FD GB)))
  clear hto hgl hx hx10 hx48 own FL FD GB hLD hb hbase hn hf h10
  go_enter Try.func39, Try.ntmps39
  go_wp2_with (refine BigFrame.wpList_want rfl (fun K hK => wp_load_row 62 (.tmp 3) rfl _ rfl _ _ (0, 0) _ F3 Try.underlying62 rfl (info_qs f) (hK _ _ ?_)))
  refine (HT.out _).mono ?_
  rintro e w2 ⟨rfl, h2⟩
  obtain ⟨own, FL, FD, GB⟩ := HB.out
  replace own := own_below own h2
  replace FL := FL.below h2 FL.lt
  replace FD := FD.below h2 FD.lt
  replace GB := GB.trans (h2.mono GB.size)
  have sz := GB.size
  clear h2 F3 HB HT
  have F4 := Blk.new w2 62 #[.int .u32 0, .int .u32 0, .int .u32 0, .int .u32 0]
  have HG := Lib.hid (And.intro (own_row (own.alloc (.cells #[.int .u32 0, .int .u32 0, .int .u32 0, .int .u32 0] 62)) (g := w2.heap.size) (cs' := qs (gk f)) (own_ne own)) (And.intro ((FL.alloc (.cells #[.int .u32 0, .int .u32 0, .int .u32 0, .int .u32 0] 62)).other (g' := w2.heap.size) (cs' := qs (gk f)) (by have := FL.lt; omega))
    (And.intro ((FD.alloc (.cells #[.int .u32 0, .int .u32 0, .int .u32 0, .int .u32 0] 62)).other (g' := w2.heap.size) (cs' := qs (gk f)) (by have := FD.lt; omega))
    (And.intro (below_row (g' := w2.heap.size) (cs' := qs (gk f)) (GB.alloc sz (.cells #[.int .u32 0, .int .u32 0, .int .u32 0, .int .u32 0] 62)) sz) (F4.row (cs' := qs (gk f)))))))
  clear own FL FD GB sz
  go_upto_region 2 with (refine wpList_store_row rfl 62 (.tmp 4) (.tmp 9) rfl _ _ rfl rfl _ _ F4 (info_qs (gk f)) rfl (one_qs (gk f)) ?_)
  obtain ⟨own, FL, FD, GB, F4'⟩ := HG.out
  clear HG F4
  generalize (w2.alloc (.cells #[.int .u32 0, .int .u32 0, .int .u32 0, .int .u32 0] 62)).setRow w2.heap.size (qs (gk f)) = V at own FL FD GB F4' ⊢
  generalize w2.heap.size = g4 at F4' ⊢
  have cL : V.cell? ⟨bL, 0, none⟩ = some (clo bL bD) := FL.cell 0
  unfold clo at cL
  go_wp2_with (first
    | (refine BigFrame.wpList_want rfl (fun K hK => wp_load_row 62 (.tmp 4) rfl _ rfl _ _ (0, 0) _ F4' Try.underlying62 rfl (info_qs (gk f)) (hK _ _ ?_)))
    | (refine BigFrame.wpList_want rfl (fun K hK => wp_neq_qs (.tmp 11) (.tmp 12) 62 rfl _ (fun _ => 0) rfl rfl (zero_no HV.out) (hK _ _ ?_))))
  refine (IH V FL FD own (by have := HLD.out.2.2.1; have := GB.size; omega)).mono ?_
  rintro e w3 ⟨rfl, v', FL3, FD3, own3, h3⟩
  clear FL FD own F4' cL
  replace GB := (GB.mono (Nat.le_of_lt lD)).trans h3
  clear h3 HV IH
  obtain ⟨m, hm⟩ : ∃ m, n + ds.length = m := ⟨_, rfl⟩
  rw [hm] at own3 hds
  have HM := Lib.hid hm
  clear hm
  have c2 : w3.cell? ⟨bD, 0, none⟩ = some v' := FD3.cell 0
  have hsz : base ≤ w3.heap.size := by have := HLD.out.2.2.1; have := GB.size; omega
  have hlt := FD3.lt
  go_wp2_with (at_builtin; refine wpList_append_own _ rfl (.tmp 17) (.tmp 19) 71 rfl base 21 i0 (.int .i32 0) 1 4 Try.underlying71 hi hz0 hz1 hz2 rfl (by decide) _ _ _ rfl (own3.alloc _) ⟨w3.heap.size, 0, none⟩ 1 1 [.int .i32 (x48 : Int)] rfl rfl (news_one _ _ _) (by intro u hu; simp at hu; subst hu; rfl) (by unfold maxLen; omega) (by omega) (by simp; omega) ?_; intro v4 w4 own4 hgrow hnil; clear hnil; obtain ⟨gv, cp, rfl, hgv⟩ := own4.form (by omega); clear hgv; have HE := Lib.hid (lay_end HLD.out.1 HLD.out.2.1 hsz FL3 FD3 own3 own4 hgrow GB); have c3 := HE.out.1; have f3 := HE.out.2.1; clear hgrow own4)
  clear FL3 FD3 own3 GB c2 hlt c3 f3
  go_end0
  refine ⟨rfl, _, HE.out.2.2.1, HE.out.2.2.2.1, ?_, HE.out.2.2.2.2.2⟩
  have e1 : n + (ds ++ [valQ f % 10]).length = m + 1 := by have := HM.out; simp; omega
  have e2 : (xs ++ (ds ++ [valQ f % 10]).map fun d => Value.int .i32 ((48 + d : Nat) : Int)) = (xs ++ ds.map fun d => Value.int .i32 ((48 + d : Nat) : Int)) ++ [Value.int .i32 (x48 : Int)] := by
    rw [List.map_append, ← List.append_assoc, ← H48.out, ← HR.out]
    rfl
  rw [e1, e2]
  exact HE.out.2.2.2.2.1

/-- a number's digits, the highest first, k at most -/
def dg : Nat → Nat → List Nat
  | 0, _ => []
  | k + 1, N => if N < 10 then [N] else dg k (N / 10) ++ [N % 10]
theorem dg_small {k N : Nat} (h : N < 10) : dg (k + 1) N = [N] := if_pos h
theorem dg_big {k N : Nat} (h : 10 ≤ N) : dg (k + 1) N = dg k (N / 10) ++ [N % 10] := if_neg (by omega)
theorem dg_len (k : Nat) : ∀ N, (dg k N).length ≤ k := by
  induction k with
  | zero => intro N; exact Nat.le_refl _
  | succ k ih =>
    intro N
    by_cases h : N < 10
    · rw [dg_small h]; simp
    · rw [dg_big (by omega)]
      have := ih (N / 10)
      simp
      omega

theorem lay_any (bL bD base : Nat) (hLD : bD < bL) (hb : bL < base) (k : Nat) : ∀ (f : Nat → Nat) (v : Value) (n : Nat) (xs : List Value) (w : World), (∀ j, j < 4 → f j < 4294967296) → valQ f < 10 ^ (k + 1) → n + (k + 1) ≤ 1000 →
    Blk w bL 72 #[clo bL bD] → Blk w bD 71 #[v] → w.ownsRow base 21 1 v n xs → base ≤ w.heap.size →
    Calls Try.prog 39 #[.agg (qs f), .pointer (some ⟨bL, 0, none⟩), .pointer (some ⟨bD, 0, none⟩)] w (LaySaid bL bD base n xs (dg (k + 1) (valQ f)) w) := by
  induction k with
  | zero =>
    intro f v n xs w hf hN hn FL FD own hbase
    rw [dg_small (by omega)]
    exact lay_one bL bD base hLD hb f hf (by omega) v n xs w FL FD own hbase (by omega)
  | succ k ih =>
    intro f v n xs w hf hN hn FL FD own hbase
    by_cases h : valQ f < 10
    · rw [dg_small h]
      exact lay_one bL bD base hLD hb f hf h v n xs w FL FD own hbase (by omega)
    · have hg : valQ f / 10 = valQ (gk f) := (tenth_val f).1
      rw [dg_big (by omega), hg]
      have hlen := dg_len (k + 1) (valQ (gk f))
      refine lay_more bL bD base hLD hb f hf (by omega) _ v n xs (fun w' h1 h2 h3 h4 => ?_) w FL FD own hbase (by omega) (by omega)
      exact ih (gk f) v n xs w' (fun j hj => gk_lt (hf j hj)) (by rw [← hg]; rw [Nat.pow_succ] at hN; omega) (by omega) h1 h2 h3 h4

end Go.Proofs.Yteglkhljenjplaa
