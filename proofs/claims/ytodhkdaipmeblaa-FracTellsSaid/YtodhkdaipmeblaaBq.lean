/-
  The contract of the document's quotient. No statement is proved here.
-/
import Derived.Test.YtodhkdaipmeblaaBp
namespace Go.Proofs.Ytodhkdaipmeblaa
open Go.RowKit

theorem less_c (a b : Nat) (w : World) (ha : a < 2 ^ 256) (hb : b < 2 ^ 256) : Calls Try.prog 34 #[.agg (cellsOf a.testBit), .agg (cellsOf b.testBit)] w fun e w' => e = .returned (.bool (decide (a < b))) ∧ Below w.heap.size w w' := less_any a b w ha hb
theorem take_c (a b : Nat) (w : World) (hba : b ≤ a) (ha : a < 2 ^ 256) : Calls Try.prog 38 #[.agg (cellsOf a.testBit), .agg (cellsOf b.testBit)] w (Row (cellsOf (a - b).testBit) w) := take_any a b w hba ha

theorem step_load_row {P : Program} {ops : Array Oper} {o : Oper} {a : Act} {w : World} {K : Act → World → Prop} {Q : Exit → Act → World → Prop} {E : Prop} (hgd : o.guard = none) (ty : TypeId) (x : Operand) (ho : o.op = .load ty x)
    (g : Nat) (hx : a.eval x = .pointer (some ⟨g, 0, none⟩)) (t : TypeId) (cs : Array Value) (fr : Nat × Nat) (d : TypeDesc) (hg : w.heap[g]? = some (.cells cs t fr))
    (hu : P.underlying ty = some d) (hd : (match d with | .struct _ | .array _ _ => true | _ => false) = true) (hi : (P.info? ty).map (·.size) = some cs.size)
    (h : K (a.put o.dst (.agg cs)) w) : if Region.wanted o (yielded ops a.tmps) = true then Oper.wp P o a w K Q else E := by
  rw [if_pos (by simp [Region.wanted, hgd])]
  exact wp_load_row ty x ho g hx t cs fr d hg hu hd hi h
theorem step_store_row {P : Program} {ops : Array Oper} {o : Oper} {a : Act} {w : World} {K : Act → World → Prop} {Q : Exit → Act → World → Prop} {E : Prop} (hgd : o.guard = none) (ty : TypeId) (x y : Operand) (ho : o.op = .store ty x y)
    (g : Nat) (cells : Array Value) (hx : a.eval x = .pointer (some ⟨g, 0, none⟩)) (hy : a.eval y = .agg cells)
    (t : TypeId) (old : Array Value) (hg : w.heap[g]? = some (.cells old t (0, 0))) (hi : (P.info? ty).map (·.size) = some cells.size)
    (hold : old.size = cells.size) (h1 : cells.all (·.oneCell') = true)
    (h : K (a.put o.dst undef) (w.setRow g cells)) : if Region.wanted o (yielded ops a.tmps) = true then Oper.wp P o a w K Q else E := by
  rw [if_pos (by simp [Region.wanted, hgd])]
  exact wp_store_row ty x y ho g cells hx hy t old hg hi hold h1 h
theorem results_cell_row2 {P : Program} {fn : Func} {p q : Tmp} {ty : TypeId} (h : fn.results = #[.cell p ty, .cell q ty]) (tmps : Array Value) (w : World) (g g' : Nat) (t t' : TypeId) (cs cs' : Array Value) (d : TypeDesc)
    (hp : tmps.getD p undef = .pointer (some ⟨g, 0, none⟩)) (hq : tmps.getD q undef = .pointer (some ⟨g', 0, none⟩)) (hg : w.heap[g]? = some (.cells cs t (0, 0))) (hg' : w.heap[g']? = some (.cells cs' t' (0, 0)))
    (hu : P.underlying ty = some d) (hd : (match d with | .struct _ | .array _ _ => true | _ => false) = true) (hi : (P.info? ty).map (·.size) = some cs.size) (hi' : (P.info? ty).map (·.size) = some cs'.size) :
    (results fn tmps).run P w = .ok (.tuple #[.agg cs, .agg cs']) w := by
  have hp' : tmps[p]?.getD undef = .pointer (some ⟨g, 0, none⟩) := by simpa using hp
  have hq' : tmps[q]?.getD undef = .pointer (some ⟨g', 0, none⟩) := by simpa using hq
  simp [results, h, hp', hq', asAddr, run_loadVar_row w g t ty cs (0, 0) d hg hu hd hi, run_loadVar_row w g' t' ty cs' (0, 0) d hg' hu hd hi']
theorem bit_low {R : Nat} {b : Bool} : cellsOf (fun i => if i = 0 then b else (2 * R).testBit i) = cellsOf (2 * R + b.toNat).testBit := cellsOf_congr fun i _ => by
  cases i with
  | zero => cases b <;> simp [Nat.testBit_zero] <;> omega
  | succ i =>
    rw [if_neg (by omega), Nat.testBit_succ, Nat.testBit_succ]
    congr 1
    cases b <;> simp <;> omega
theorem bit_high {q j : Nat} : cellsOf (fun i => if i = j then true else (q * 2 ^ (j + 1)).testBit i) = cellsOf ((2 * q + 1) * 2 ^ j).testBit := cellsOf_congr fun i _ => by
  have e : (2 * q + 1) * 2 ^ j = 2 ^ (j + 1) * q + 2 ^ j := by rw [Nat.pow_succ, Nat.add_mul, Nat.one_mul]; congr 1; rw [Nat.mul_comm 2 q, Nat.mul_assoc, Nat.mul_comm q, Nat.mul_comm 2]
  rw [e, Nat.testBit_two_pow_mul_add _ (Nat.pow_lt_pow_right (by omega) (by omega)), Nat.mul_comm q, show 2 ^ (j + 1) * q = 2 ^ (j + 1) * q + 0 from rfl, Nat.testBit_two_pow_mul_add _ (Nat.two_pow_pos _)]
  by_cases h1 : i = j
  · subst h1
    rw [if_pos rfl, if_pos (by omega), Nat.testBit_two_pow_self]
  · rw [if_neg h1]
    by_cases h2 : i < j + 1
    · rw [if_pos h2, if_pos h2, Nat.testBit_two_pow_of_ne (by omega)]
      simp
    · rw [if_neg h2, if_neg h2]
theorem quo_parts {a d j : Nat} {b : Bool} (hb : a.testBit j = b) : a / 2 ^ j = 2 * (a / 2 ^ (j + 1) % d) + b.toNat + d * (2 * (a / 2 ^ (j + 1) / d)) ∧ True := by
  have e : a / 2 ^ (j + 1) = a / 2 ^ j / 2 := by rw [Nat.div_div_eq_div_mul, ← Nat.pow_succ]
  rw [Nat.testBit_eq_decide_div_mod_eq] at hb
  have h1 : a / 2 ^ j = 2 * (a / 2 ^ (j + 1)) + b.toNat := by
    rw [e, ← hb]
    generalize a / 2 ^ j = x
    by_cases h : x % 2 = 1
    · simp [h]; omega
    · simp [h]; omega
  refine ⟨?_, trivial⟩
  have h2 := Nat.div_add_mod (a / 2 ^ (j + 1)) d
  rw [Nat.mul_left_comm]
  omega
theorem quo_less {a d j : Nat} {b : Bool} (hb : a.testBit j = b) (h : 2 * (a / 2 ^ (j + 1) % d) + b.toNat < d) : a / 2 ^ j % d = 2 * (a / 2 ^ (j + 1) % d) + b.toNat ∧ a / 2 ^ j / d * 2 ^ j = a / 2 ^ (j + 1) / d * 2 ^ (j + 1) := by
  obtain ⟨h1, h2⟩ := quo_parts (d := d) hb
  have h3 : a / 2 ^ j / d = 2 * (a / 2 ^ (j + 1) / d) ∧ a / 2 ^ j % d = 2 * (a / 2 ^ (j + 1) % d) + b.toNat := by
    rw [Nat.div_mod_unique (by omega)]
    exact ⟨by rw [h1], h⟩
  refine ⟨h3.2, ?_⟩
  rw [h3.1, Nat.pow_succ, Nat.mul_comm 2, Nat.mul_assoc, Nat.mul_comm 2]
theorem quo_more {a d j : Nat} {b : Bool} (hd : 0 < d) (hb : a.testBit j = b) (h : ¬ 2 * (a / 2 ^ (j + 1) % d) + b.toNat < d) : a / 2 ^ j % d = 2 * (a / 2 ^ (j + 1) % d) + b.toNat - d ∧ a / 2 ^ j / d * 2 ^ j = (2 * (a / 2 ^ (j + 1) / d) + 1) * 2 ^ j := by
  obtain ⟨h1, h2⟩ := quo_parts (d := d) hb
  have h3 : a / 2 ^ j / d = 2 * (a / 2 ^ (j + 1) / d) + 1 ∧ a / 2 ^ j % d = 2 * (a / 2 ^ (j + 1) % d) + b.toNat - d := by
    rw [Nat.div_mod_unique hd]
    have hm := Nat.mod_lt (a / 2 ^ (j + 1)) hd
    have hbb : b.toNat ≤ 1 := by cases b <;> simp
    refine ⟨?_, by omega⟩
    rw [h1, Nat.mul_add, Nat.mul_one]
    omega
  refine ⟨h3.2, ?_⟩
  rw [h3.1]

set_option maxHeartbeats 8000000 in
set_option maxRecDepth 100000 in
theorem quotient_any (a d : Nat) (w : World) (ha : a < 2 ^ 256) (hd0 : 0 < d) (hd : d ≤ 2 ^ 255) : Calls Try.prog 17 #[.agg (bv a), .agg (bv d)] w fun e w' => e = .returned (.tuple #[.agg (bv (a / d)), .agg (bv (a % d))]) ∧ Below w.heap.size w w' := by
  have hz := zero_bits
  have HA := Lib.hid ha
  have HD0 := Lib.hid hd0
  have HD := Lib.hid hd
  clear ha hd0 hd
  unfold bv
  go_enter Try.func17, Try.ntmps17
  go_wp2_with fail
  go_loopw [8] (fun i wr => ∃ (k : Nat) (i0 : Int), k ≤ 256 ∧ i = .int .i64 i0 ∧ i0 = (k : Int) - 1 ∧ Blk wr (w.heap.size) 38 (cellsOf a.testBit) ∧ Blk wr (w.heap.size + 1) 38 (cellsOf d.testBit) ∧
    Blk wr (w.heap.size + 1 + 1) 38 (cellsOf none_) ∧ Blk wr (w.heap.size + 1 + 1 + 1) 38 (cellsOf none_) ∧ Blk wr (w.heap.size + 1 + 1 + 1 + 1) 38 (cellsOf (a / 2 ^ k / d * 2 ^ k).testBit) ∧ Blk wr (w.heap.size + 1 + 1 + 1 + 1 + 1) 38 (cellsOf (a / 2 ^ k % d).testBit) ∧ Below w.heap.size w wr) (fun i _ => (intOf i + 1).toNat)
  case atStart =>
    obtain ⟨b1, b2, b3, b4, b5, b6, hb⟩ := blks6 w 38 (cellsOf a.testBit) (cellsOf d.testBit) (cellsOf none_) (cellsOf none_) (cellsOf none_) (cellsOf none_)
    have e : cellsOf (0 : Nat).testBit = cellsOf none_ := cellsOf_congr (fun i _ => by simp [none_])
    refine ⟨256, 255, by omega, rfl, by omega, b1, b2, b3, b4, ?_, ?_, hb⟩
    · rw [Nat.div_eq_of_lt HA.out, Nat.zero_div, Nat.zero_mul, e]; exact b5
    · rw [Nat.div_eq_of_lt HA.out, Nat.zero_mod, e]; exact b6
  case round =>
    obtain ⟨k, i0, hk, rfl, hi0, B1, B2, B3, B4, B5, B6, hB⟩ := hrel
    rcases k with _ | j
    · obtain rfl : i0 = -1 := by omega
      rw [Nat.pow_zero, Nat.div_one, Nat.mul_one] at B5
      rw [Nat.pow_zero, Nat.div_one] at B6
      clear hi0
      obtain ⟨V, hV⟩ : ∃ V, a / d = V := ⟨_, rfl⟩
      obtain ⟨S, hS⟩ : ∃ S, a % d = S := ⟨_, rfl⟩
      rw [hV] at B5
      rw [hS] at B6
      have HVS := Lib.hid (And.intro hV hS)
      clear hV hS
      obtain ⟨cv, hcv⟩ : ∃ cv, cellsOf V.testBit = cv := ⟨_, rfl⟩
      obtain ⟨cs, hcs⟩ : ∃ cs, cellsOf S.testBit = cs := ⟨_, rfl⟩
      have sv : cv.size = 256 := by rw [← hcv]; exact cellsOf_size _
      have ss : cs.size = 256 := by rw [← hcs]; exact cellsOf_size _
      have ov : cv.all (·.oneCell') = true := by rw [← hcv]; exact cellsOf_one _
      have os : cs.all (·.oneCell') = true := by rw [← hcs]; exact cellsOf_one _
      rw [hcv] at B5
      rw [hcs] at B6
      have HCC := Lib.hid (And.intro hcv hcs)
      clear hcv hcs
      have HH := Lib.hid (And.intro B3 (And.intro B4 (And.intro B5 (And.intro B6 (And.intro ov (And.intro os (And.intro sv ss)))))))
      clear B1 B2 B3 B4 B5 B6 ov os sv ss hk
      go_wp2_with fail
      obtain ⟨X3, X4, X5, X6, ov, os, sv, ss⟩ := HH.out
      refine wp_region_any (by kernel_rfl) ?_
      change wpAny _ _ _ _ _ _ _ (World.drew _)
      have Y3 : Blk wr.drew _ _ _ := X3
      have Y4 : Blk wr.drew _ _ _ := X4
      have Y5 : Blk wr.drew _ _ _ := X5
      have Y6 : Blk wr.drew _ _ _ := X6
      have hBW : Below w.heap.size w wr.drew := hB.trans ⟨rfl, rfl, rfl, Nat.le_refl _, fun _ _ => rfl⟩
      clear X3 X4 X5 X6 HH hB
      generalize wr.drew = W at Y3 Y4 Y5 Y6 hBW ⊢
      have HE := Lib.hid (And.intro ((Y3.row (cs' := cv)).other (g' := w.heap.size + 1 + 1 + 1) (cs' := cs) (by omega)) (And.intro ((Y4.other (g' := w.heap.size + 1 + 1) (cs' := cv) (by omega)).row (cs' := cs)) (below_row (g' := w.heap.size + 1 + 1 + 1) (cs' := cs) (below_row (g' := w.heap.size + 1 + 1) (cs' := cv) hBW (by omega)) (by omega))))
      clear hBW
      refine wpAny_ready (rs := [0, 1]) (by kernel_rfl) (by simp) ?_
      refine AllReady.cons rfl (fun K hK => ?_) (AllReady.cons rfl (fun K hK => ?_) AllReady.nil)
      · skip
        refine step_load_row rfl 38 (.tmp 6) rfl _ rfl _ _ (0, 0) _ Y5 Try.underlying38 rfl (by rw [sv]; kernel_rfl) (hK _ _ ?_)
        clear hK K
        refine wpAny_ready (rs := [1, 2]) (by kernel_rfl) (by simp) ?_
        refine AllReady.cons rfl (fun K hK => ?_) (AllReady.cons rfl (fun K hK => ?_) AllReady.nil)
        · skip
          refine step_load_row rfl 38 (.tmp 7) rfl _ rfl _ _ (0, 0) _ Y6 Try.underlying38 rfl (by rw [ss]; kernel_rfl) (hK _ _ ?_)
          clear hK K
          refine wpAny_ready (rs := [2]) (by kernel_rfl) (by simp) ?_
          refine AllReady.cons rfl (fun K hK => ?_) AllReady.nil
          refine step_store_row rfl 38 (.tmp 4) (.tmp 28) rfl _ _ rfl rfl _ _ Y3 (by rw [sv]; kernel_rfl) (by rw [cellsOf_size, sv]) ov (hK _ _ ?_)
          clear hK K
          refine wpAny_ready (rs := [3]) (by kernel_rfl) (by simp) ?_
          refine AllReady.cons rfl (fun K hK => ?_) AllReady.nil
          refine step_store_row rfl 38 (.tmp 5) (.tmp 29) rfl _ _ rfl rfl _ _ (Y4.other (by omega)) (by rw [ss]; kernel_rfl) (by rw [cellsOf_size, ss]) os (hK _ _ ?_)
          clear hK K
          refine wpAny_done (by kernel_rfl) ?_ _
          generalize (W.setRow (w.heap.size + 1 + 1) cv).setRow (w.heap.size + 1 + 1 + 1) cs = Z at HE ⊢
          clear Y3 Y4 Y5 Y6
          go_wp2_with fail
          exact bodyPost_ret (v := .tuple #[.agg cv, .agg cs]) (results_cell_row2 Try.results17 _ _ _ _ _ _ _ _ _ rfl rfl HE.out.1 HE.out.2.1 Try.underlying38 rfl (by rw [sv]; kernel_rfl) (by rw [ss]; kernel_rfl)) rfl ⟨by rw [HVS.out.1, HVS.out.2, HCC.out.1, HCC.out.2], HE.out.2.2⟩
        · skip
          refine step_store_row rfl 38 (.tmp 4) (.tmp 28) rfl _ _ rfl rfl _ _ Y3 (by rw [sv]; kernel_rfl) (by rw [cellsOf_size, sv]) ov (hK _ _ ?_)
          clear hK K
          refine wpAny_ready (rs := [1]) (by kernel_rfl) (by simp) ?_
          refine AllReady.cons rfl (fun K hK => ?_) AllReady.nil
          refine step_load_row rfl 38 (.tmp 7) rfl _ rfl _ _ (0, 0) _ (Y6.other (by omega)) Try.underlying38 rfl (by rw [ss]; kernel_rfl) (hK _ _ ?_)
          clear hK K
          refine wpAny_ready (rs := [3]) (by kernel_rfl) (by simp) ?_
          refine AllReady.cons rfl (fun K hK => ?_) AllReady.nil
          refine step_store_row rfl 38 (.tmp 5) (.tmp 29) rfl _ _ rfl rfl _ _ (Y4.other (by omega)) (by rw [ss]; kernel_rfl) (by rw [cellsOf_size, ss]) os (hK _ _ ?_)
          clear hK K
          refine wpAny_done (by kernel_rfl) ?_ _
          generalize (W.setRow (w.heap.size + 1 + 1) cv).setRow (w.heap.size + 1 + 1 + 1) cs = Z at HE ⊢
          clear Y3 Y4 Y5 Y6
          go_wp2_with fail
          exact bodyPost_ret (v := .tuple #[.agg cv, .agg cs]) (results_cell_row2 Try.results17 _ _ _ _ _ _ _ _ _ rfl rfl HE.out.1 HE.out.2.1 Try.underlying38 rfl (by rw [sv]; kernel_rfl) (by rw [ss]; kernel_rfl)) rfl ⟨by rw [HVS.out.1, HVS.out.2, HCC.out.1, HCC.out.2], HE.out.2.2⟩
      · skip
        refine step_load_row rfl 38 (.tmp 7) rfl _ rfl _ _ (0, 0) _ Y6 Try.underlying38 rfl (by rw [ss]; kernel_rfl) (hK _ _ ?_)
        clear hK K
        refine wpAny_ready (rs := [0]) (by kernel_rfl) (by simp) ?_
        refine AllReady.cons rfl (fun K hK => ?_) AllReady.nil
        refine step_load_row rfl 38 (.tmp 6) rfl _ rfl _ _ (0, 0) _ Y5 Try.underlying38 rfl (by rw [sv]; kernel_rfl) (hK _ _ ?_)
        clear hK K
        refine wpAny_ready (rs := [2]) (by kernel_rfl) (by simp) ?_
        refine AllReady.cons rfl (fun K hK => ?_) AllReady.nil
        refine step_store_row rfl 38 (.tmp 4) (.tmp 28) rfl _ _ rfl rfl _ _ Y3 (by rw [sv]; kernel_rfl) (by rw [cellsOf_size, sv]) ov (hK _ _ ?_)
        clear hK K
        refine wpAny_ready (rs := [3]) (by kernel_rfl) (by simp) ?_
        refine AllReady.cons rfl (fun K hK => ?_) AllReady.nil
        refine step_store_row rfl 38 (.tmp 5) (.tmp 29) rfl _ _ rfl rfl _ _ (Y4.other (by omega)) (by rw [ss]; kernel_rfl) (by rw [cellsOf_size, ss]) os (hK _ _ ?_)
        clear hK K
        refine wpAny_done (by kernel_rfl) ?_ _
        generalize (W.setRow (w.heap.size + 1 + 1) cv).setRow (w.heap.size + 1 + 1 + 1) cs = Z at HE ⊢
        clear Y3 Y4 Y5 Y6
        go_wp2_with fail
        exact bodyPost_ret (v := .tuple #[.agg cv, .agg cs]) (results_cell_row2 Try.results17 _ _ _ _ _ _ _ _ _ rfl rfl HE.out.1 HE.out.2.1 Try.underlying38 rfl (by rw [sv]; kernel_rfl) (by rw [ss]; kernel_rfl)) rfl ⟨by rw [HVS.out.1, HVS.out.2, HCC.out.1, HCC.out.2], HE.out.2.2⟩
    · obtain rfl : i0 = (j : Int) := by omega
      have hji : (j : Int) ≤ 255 := by omega
      have hjn : j < 256 := by omega
      obtain ⟨q, hq⟩ : ∃ q, a / 2 ^ (j + 1) / d = q := ⟨_, rfl⟩
      obtain ⟨R, hR⟩ : ∃ R, a / 2 ^ (j + 1) % d = R := ⟨_, rfl⟩
      have hRd : R < d := by rw [← hR]; exact Nat.mod_lt _ HD0.out
      rw [hq] at B5
      rw [hR] at B6
      obtain ⟨b, hb⟩ : ∃ b, a.testBit j = b := ⟨_, rfl⟩
      have c1 := (B1.cell j).trans (cellsOf_at _ hjn)
      rw [hb] at c1
      have hbb : b.toNat ≤ 1 := by cases b <;> simp
      have hR2 : 2 * R + b.toNat < 2 ^ 256 := by have := HD.out; omega
      have HL := Lib.hid (fun u => less_c (2 * R + b.toNat) d u hR2 (by have := HD.out; omega))
      have HTK := Lib.hid (fun (h : ¬ 2 * R + b.toNat < d) u => take_c (2 * R + b.toNat) d u (by omega) hR2)
      have HQL : 2 * R + b.toNat < d → a / 2 ^ j % d = 2 * R + b.toNat ∧ a / 2 ^ j / d * 2 ^ j = q * 2 ^ (j + 1) := fun h => by
        rw [← hR, ← hq]
        exact quo_less hb (by rw [hR]; exact h)
      have HQM : ¬ 2 * R + b.toNat < d → a / 2 ^ j % d = 2 * R + b.toNat - d ∧ a / 2 ^ j / d * 2 ^ j = (2 * q + 1) * 2 ^ j := fun h => by
        rw [← hR, ← hq]
        exact quo_more HD0.out hb (by rw [hR]; exact h)
      have HQL := Lib.hid HQL
      have HQM := Lib.hid HQM
      have HQ := Lib.hid hq
      have HR := Lib.hid hR
      have HT := Lib.hid (fun u => twice_c R u)
      clear hi0 hk hq hR hRd hR2 hb hbb
      go_wp2_with (refine wpList_load_row rfl 38 (.tmp 7) rfl _ rfl _ _ (0, 0) _ B6 Try.underlying38 rfl (size_bits _) ?_)
      refine (HT.out _).mono ?_
      rintro e w2 ⟨rfl, h2⟩
      have C1 := B1.below h2 B1.lt
      have C2 := B2.below h2 B2.lt
      have C3 := B3.below h2 B3.lt
      have C4 := B4.below h2 B4.lt
      have C5 := B5.below h2 B5.lt
      have C6 := B6.below h2 B6.lt
      have c1' : w2.cell? ⟨w.heap.size, j, none⟩ = some (.bool b) := (h2.cell (p := ⟨w.heap.size, j, none⟩) B1.lt).trans c1
      have hB2 := hB.trans (h2.mono hB.size)
      clear B1 B2 B3 B4 B5 B6 h2 hB c1
      have D6 := C6.row (cs' := cellsOf (2 * R).testBit)
      have D1 := C1.other (g' := w.heap.size + 1 + 1 + 1 + 1 + 1) (cs' := cellsOf (2 * R).testBit) (by omega)
      have D2 := C2.other (g' := w.heap.size + 1 + 1 + 1 + 1 + 1) (cs' := cellsOf (2 * R).testBit) (by omega)
      have D3 := C3.other (g' := w.heap.size + 1 + 1 + 1 + 1 + 1) (cs' := cellsOf (2 * R).testBit) (by omega)
      have D4 := C4.other (g' := w.heap.size + 1 + 1 + 1 + 1 + 1) (cs' := cellsOf (2 * R).testBit) (by omega)
      have D5 := C5.other (g' := w.heap.size + 1 + 1 + 1 + 1 + 1) (cs' := cellsOf (2 * R).testBit) (by omega)
      have hB3 := below_row (g' := w.heap.size + 1 + 1 + 1 + 1 + 1) (cs' := cellsOf (2 * R).testBit) hB2 (by omega)
      have x1 := (D1.cell j).trans ((C1.cell j).symm.trans c1')
      have x6 := (D6.cell 0).trans (cellsOf_at _ (by omega))
      have f6 := D6.frozen 0
      have E6 := D6.set_ 0 (.bool b)
      rw [cellsOf_set _ (by omega), bit_low] at E6
      have E1 := D1.far (p := ⟨w.heap.size + 1 + 1 + 1 + 1 + 1, 0, none⟩) (by simp <;> omega) (.bool b)
      have E2 := D2.far (p := ⟨w.heap.size + 1 + 1 + 1 + 1 + 1, 0, none⟩) (by simp <;> omega) (.bool b)
      have E3 := D3.far (p := ⟨w.heap.size + 1 + 1 + 1 + 1 + 1, 0, none⟩) (by simp <;> omega) (.bool b)
      have E4 := D4.far (p := ⟨w.heap.size + 1 + 1 + 1 + 1 + 1, 0, none⟩) (by simp <;> omega) (.bool b)
      have E5 := D5.far (p := ⟨w.heap.size + 1 + 1 + 1 + 1 + 1, 0, none⟩) (by simp) (.bool b)
      have hB4 := hB3.setCell (p := ⟨w.heap.size + 1 + 1 + 1 + 1 + 1, 0, none⟩) (by simp; omega) (.bool b)
      have HC6 := Lib.hid C6
      clear C1 C2 C3 C4 C5 C6 D1 D2 D3 D4 D5 D6 hB2 hB3 c1'
      obtain ⟨Z, hZ⟩ : ∃ Z, 2 * R + b.toNat = Z := ⟨_, rfl⟩
      rw [hZ] at E6 HL HTK HQL HQM
      have HZ := Lib.hid hZ
      clear hZ
      go_wp2_with (first
        | (refine wpList_store_row rfl 38 (.tmp 7) (.tmp 14) rfl _ _ rfl rfl _ _ HC6.out (size_bits _) (by rw [cellsOf_size, cellsOf_size]) (cellsOf_one _) ?_)
        | (refine wpList_load_row rfl 38 (.tmp 7) rfl _ rfl _ _ (0, 0) _ E6 Try.underlying38 rfl (size_bits _) ?_)
        | (refine wpList_load_row rfl 38 (.tmp 3) rfl _ rfl _ _ (0, 0) _ E2 Try.underlying38 rfl (size_bits _) ?_))
      clear HC6 x1 x6 f6
      generalize ((w2.setRow (w.heap.size + 1 + 1 + 1 + 1 + 1) (cellsOf (2 * R).testBit)).setCell ⟨w.heap.size + 1 + 1 + 1 + 1 + 1, 0, none⟩ (.bool b)) = U at *
      refine (HL.out _).mono ?_
      rintro e w3 ⟨rfl, h3⟩
      have A1 := E1.below h3 E1.lt
      have A2 := E2.below h3 E2.lt
      have A3 := E3.below h3 E3.lt
      have A4 := E4.below h3 E4.lt
      have A5 := E5.below h3 E5.lt
      have A6 := E6.below h3 E6.lt
      have hB5 := hB4.trans (h3.mono hB4.size)
      clear E1 E2 E3 E4 E5 E6 hB4 h3
      by_cases hlt : Z < d
      · have hltB : decide (Z < d) = true := decide_eq_true hlt
        have HG := Lib.hid (HQL.out hlt)
        clear hlt
        go_wp2
        go_roundw
        case rel => exact ⟨j, _, by omega, rfl, by omega, A1, A2, A3, A4, by rw [HG.out.2]; exact A5, by rw [HG.out.1]; exact A6, hB5⟩
        case measure => simp [intOf]
      · have hltB : decide (Z < d) = false := decide_eq_false hlt
        have HG := Lib.hid (HQM.out hlt)
        have HTT := Lib.hid (HTK.out hlt)
        clear hlt
        go_wp2_with (first
          | (refine wpList_load_row rfl 38 (.tmp 7) rfl _ rfl _ _ (0, 0) _ A6 Try.underlying38 rfl (size_bits _) ?_)
          | (refine wpList_load_row rfl 38 (.tmp 3) rfl _ rfl _ _ (0, 0) _ A2 Try.underlying38 rfl (size_bits _) ?_))
        refine (HTT.out _).mono ?_
        rintro e w4 ⟨rfl, h4⟩
        have I1 := A1.below h4 A1.lt
        have I2 := A2.below h4 A2.lt
        have I3 := A3.below h4 A3.lt
        have I4 := A4.below h4 A4.lt
        have I5 := A5.below h4 A5.lt
        have I6 := A6.below h4 A6.lt
        have hB6 := hB5.trans (h4.mono hB5.size)
        clear A1 A2 A3 A4 A5 A6 hB5 h4
        have J6 := I6.row (cs' := cellsOf (Z - d).testBit)
        have J1 := I1.other (g' := w.heap.size + 1 + 1 + 1 + 1 + 1) (cs' := cellsOf (Z - d).testBit) (by omega)
        have J2 := I2.other (g' := w.heap.size + 1 + 1 + 1 + 1 + 1) (cs' := cellsOf (Z - d).testBit) (by omega)
        have J3 := I3.other (g' := w.heap.size + 1 + 1 + 1 + 1 + 1) (cs' := cellsOf (Z - d).testBit) (by omega)
        have J4 := I4.other (g' := w.heap.size + 1 + 1 + 1 + 1 + 1) (cs' := cellsOf (Z - d).testBit) (by omega)
        have J5 := I5.other (g' := w.heap.size + 1 + 1 + 1 + 1 + 1) (cs' := cellsOf (Z - d).testBit) (by omega)
        have hB7 := below_row (g' := w.heap.size + 1 + 1 + 1 + 1 + 1) (cs' := cellsOf (Z - d).testBit) hB6 (by omega)
        have x5 := (J5.cell j).trans (cellsOf_at _ hjn)
        have f5 := J5.frozen j
        have K5 := J5.set_ j (.bool true)
        rw [cellsOf_set _ hjn, bit_high] at K5
        have K1 := J1.far (p := ⟨w.heap.size + 1 + 1 + 1 + 1, j, none⟩) (by simp <;> omega) (.bool true)
        have K2 := J2.far (p := ⟨w.heap.size + 1 + 1 + 1 + 1, j, none⟩) (by simp <;> omega) (.bool true)
        have K3 := J3.far (p := ⟨w.heap.size + 1 + 1 + 1 + 1, j, none⟩) (by simp <;> omega) (.bool true)
        have K4 := J4.far (p := ⟨w.heap.size + 1 + 1 + 1 + 1, j, none⟩) (by simp) (.bool true)
        have K6 := J6.far (p := ⟨w.heap.size + 1 + 1 + 1 + 1, j, none⟩) (by simp) (.bool true)
        have hB8 := hB7.setCell (p := ⟨w.heap.size + 1 + 1 + 1 + 1, j, none⟩) (by simp; omega) (.bool true)
        have HI6 := Lib.hid I6
        have HK := Lib.hid (And.intro K1 (And.intro K2 (And.intro K3 (And.intro K4 (And.intro K5 (And.intro K6 hB8))))))
        clear I1 I2 I3 I4 I5 I6 J1 J2 J3 J4 J5 J6 K1 K2 K3 K4 K5 K6 hB6 hB7 hB8
        go_wp2_with (refine wpList_store_row rfl 38 (.tmp 7) (.tmp 25) rfl _ _ rfl rfl _ _ HI6.out (size_bits _) (by rw [cellsOf_size, cellsOf_size]) (cellsOf_one _) ?_)
        go_roundw
        case rel => exact ⟨j, _, by omega, rfl, by omega, HK.out.1, HK.out.2.1, HK.out.2.2.1, HK.out.2.2.2.1, by rw [HG.out.2]; exact HK.out.2.2.2.2.1, by rw [HG.out.1]; exact HK.out.2.2.2.2.2.1, HK.out.2.2.2.2.2.2⟩
        case measure => simp [intOf]

end Go.Proofs.Ytodhkdaipmeblaa
