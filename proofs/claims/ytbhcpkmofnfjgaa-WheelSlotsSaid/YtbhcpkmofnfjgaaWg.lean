/-
  The landed wheel: the closures that are asked, parted (once for each), laid. No statement is proved here.
-/
import Derived.Test.YtbhcpkmofnfjgaaWc
import Derived.Test.YtbhcpkmofnfjgaaWd
import Derived.Test.YtbhcpkmofnfjgaaWj
namespace Go.Proofs.Ytbhcpkmofnfjgaa
open Go.RowKit

theorem reads_tm (w : World) (a b : Int) : Reads (w.alloc (.cells #[.int .i64 a, .int .i64 b] 44)) (w.alloc (.cells #[.int .i64 a, .int .i64 b] 44)).heap.size 2 (some ⟨w.heap.size, 0, none⟩) 1 (flat tv [(a, b)]) :=
  reads_blk (Blk.new w _ _) (by rfl) (by rfl)

set_option maxRecDepth 100000 in
set_option maxHeartbeats 1000000 in
theorem passcl_any (a b tm : Int) (g : Nat) (w : World) (K : Blk w g 2 #[.int .i64 tm]) : Calls Try.prog 35 #[.agg #[.int .i64 a, .int .i64 b], .pointer (some ⟨g, 0, none⟩)] w (Said (.bool (decide (b ≤ tm))) w) := by
  obtain ⟨K0, GB⟩ := box1 w 44 #[.int .i64 a, .int .i64 b]
  have z1 := K0.cell 1
  have y0 := (K.alloc (.cells #[.int .i64 a, .int .i64 b] 44)).cell 0
  go_enter Try.func35, Try.ntmps35
  go_wp2
  go_ret
  exact ⟨rfl, GB⟩

set_option maxRecDepth 100000 in
set_option maxHeartbeats 4000000 in
theorem slotcl_any (now : Int) (A : Option Addr) (n c : Nat) (a b lv sl : Int) (gw gl gs : Nat) (w : World) (KW : Blk w gw 24 #[.int .i64 now, .slice A n c]) (KL : Blk w gl 3 #[.int .i64 lv]) (KS : Blk w gs 3 #[.int .i64 sl]) (h0 : 0 ≤ now) (hb : 0 ≤ b) :
    Calls Try.prog 40 #[.agg #[.int .i64 a, .int .i64 b], .pointer (some ⟨gw, 0, none⟩), .pointer (some ⟨gl, 0, none⟩), .pointer (some ⟨gs, 0, none⟩)] w (Said (.bool (decide (spotT now b = (lv, sl)))) w) := by
  obtain ⟨K0, GB⟩ := box1 w 44 #[.int .i64 a, .int .i64 b]
  replace KW := KW.alloc (.cells #[.int .i64 a, .int .i64 b] 44)
  replace KL := KL.alloc (.cells #[.int .i64 a, .int .i64 b] 44)
  replace KS := KS.alloc (.cells #[.int .i64 a, .int .i64 b] 44)
  have HSp := Lib.hid (fun (u : World) => spot_any now a b u h0 hb)
  obtain ⟨p, q, hpq⟩ : ∃ p q, spotT now b = (p, q) := ⟨_, _, rfl⟩
  rw [hpq] at HSp ⊢
  obtain ⟨bb, hbb⟩ : ∃ bb, (decide (p = lv) && decide (q = sl)) = bb := ⟨_, rfl⟩
  have HE := Lib.hid hbb
  clear hpq hbb h0 hb
  go_enter Try.func40, Try.ntmps40
  go_upto_region 1 with fail
  replace KW : Blk (w.alloc (.cells #[.int .i64 a, .int .i64 b] 44)).drew _ _ _ := KW
  replace KL : Blk (w.alloc (.cells #[.int .i64 a, .int .i64 b] 44)).drew _ _ _ := KL
  replace KS : Blk (w.alloc (.cells #[.int .i64 a, .int .i64 b] 44)).drew _ _ _ := KS
  replace K0 : Blk (w.alloc (.cells #[.int .i64 a, .int .i64 b] 44)).drew _ _ _ := K0
  replace GB := GB.drew
  refine wp_region_held_drew (S := fun u => Below w.heap.size w u ∧ Blk u gw 24 #[.int .i64 now, .slice A n c] ∧ Blk u gl 3 #[.int .i64 lv] ∧ Blk u gs 3 #[.int .i64 sl] ∧ Blk u w.heap.size 44 #[.int .i64 a, .int .i64 b]) (by kernel_rfl) ⟨GB, KW, KL, KS, K0⟩ (fun hS => ?_)
  generalize (w.alloc (.cells #[.int .i64 a, .int .i64 b] 44)).drew = V at GB KW KL KS K0 hS ⊢
  refine wpAnyH_take (i := 0) (v := .pointer (some ⟨gw, 0, none⟩)) rfl (by kernel_rfl) (by kernel_rfl) (by kernel_rfl) (fun _ _ _ h => h) (Or.inl ⟨by kernel_rfl, fun u hSw => (by go_simp)⟩) hS ?_
  change wpAnyH _ _ _ _ _ _ _ (Act.put _ (some 6) _) _
  simp only [Act.put]
  try simp only [List.setIfInBounds_toArray, List.set_cons_zero, List.set_cons_succ]
  refine wpAnyH_take (i := 1) (v := .int .i64 now) rfl (by kernel_rfl) (by kernel_rfl) (by kernel_rfl) (fun _ _ _ h => h) (Or.inl ⟨by kernel_rfl, fun u hSw => (by have q0 := hSw.2.1.cell 0; go_simp)⟩) hS ?_
  change wpAnyH _ _ _ _ _ _ _ (Act.put _ (some 7) _) _
  simp only [Act.put]
  try simp only [List.setIfInBounds_toArray, List.set_cons_zero, List.set_cons_succ]
  refine wpAnyH_take (i := 2) (v := .agg #[.int .i64 a, .int .i64 b]) rfl (by kernel_rfl) (by kernel_rfl) (by kernel_rfl) (fun _ _ _ h => h) (Or.inl ⟨by kernel_rfl, fun u hSw => (by have q0 := hSw.2.2.2.2.cell 0; have q1 := hSw.2.2.2.2.cell 1; go_simp)⟩) hS ?_
  change wpAnyH _ _ _ _ _ _ _ (Act.put _ (some 8) _) _
  simp only [Act.put]
  try simp only [List.setIfInBounds_toArray, List.set_cons_zero, List.set_cons_succ]
  refine wpAnyH_take (i := 4) (v := .int .i64 lv) rfl (by kernel_rfl) (by kernel_rfl) (by kernel_rfl) (fun _ _ _ h => h) (Or.inl ⟨by kernel_rfl, fun u hSw => (by have q0 := hSw.2.2.1.cell 0; go_simp)⟩) hS ?_
  change wpAnyH _ _ _ _ _ _ _ (Act.put _ (some 10) _) _
  simp only [Act.put]
  try simp only [List.setIfInBounds_toArray, List.set_cons_zero, List.set_cons_succ]
  refine wpAnyH_take (i := 5) (v := .int .i64 sl) rfl (by kernel_rfl) (by kernel_rfl) (by kernel_rfl) (fun _ _ _ h => h) (Or.inl ⟨by kernel_rfl, fun u hSw => (by have q0 := hSw.2.2.2.1.cell 0; go_simp)⟩) hS ?_
  change wpAnyH _ _ _ _ _ _ _ (Act.put _ (some 11) _) _
  simp only [Act.put]
  try simp only [List.setIfInBounds_toArray, List.set_cons_zero, List.set_cons_succ]
  refine wpAnyH_take (i := 6) (v := .agg #[.int .i64 lv, .int .i64 sl]) rfl (by kernel_rfl) (by kernel_rfl) (by kernel_rfl) (fun _ _ _ h => h) (Or.inl ⟨by kernel_rfl, fun u hSw => (by go_simp)⟩) hS ?_
  change wpAnyH _ _ _ _ _ _ _ (Act.put _ (some 12) _) _
  simp only [Act.put]
  try simp only [List.setIfInBounds_toArray, List.set_cons_zero, List.set_cons_succ]
  refine wpAnyH_ready (rs := [3]) (by kernel_rfl) (by simp) ?_
  refine AllReadyH.cons rfl (fun K hK => ?_) AllReadyH.nil
  go_simp
  refine (HSp.out _).mono ?_
  rintro e1 w1 ⟨rfl, h9⟩
  replace KW := KW.below h9 KW.lt
  replace KL := KL.below h9 KL.lt
  replace KS := KS.below h9 KS.lt
  replace K0 := K0.below h9 K0.lt
  replace GB := GB.trans (h9.mono GB.size)
  clear h9
  refine hK.out _ _ ⟨GB, KW, KL, KS, K0⟩ (fun hS => ?_)
  clear hK K
  refine wpAnyH_take (i := 7) (v := .bool bb) rfl (by kernel_rfl) (by kernel_rfl) (by kernel_rfl) (fun _ _ _ h => h) (Or.inl ⟨by kernel_rfl, fun u hSw => (by go_simp; rw [← HE.out]; by_cases e1 : p = lv <;> by_cases e2 : q = sl <;> simp [e1, e2])⟩) hS ?_
  change wpAnyH _ _ _ _ _ _ _ (Act.put _ (some 13) _) _
  simp only [Act.put]
  try simp only [List.setIfInBounds_toArray, List.set_cons_zero, List.set_cons_succ]
  refine wpAnyH_take (i := 8) (v := .bool bb) rfl (by kernel_rfl) (by kernel_rfl) (by kernel_rfl) (fun _ _ _ h => h) (Or.inl ⟨by kernel_rfl, fun u hSw => (by go_simp)⟩) hS ?_
  change wpAnyH _ _ _ _ _ _ _ (Act.put _ (some 5) _) _
  simp only [Act.put]
  try simp only [List.setIfInBounds_toArray, List.set_cons_zero, List.set_cons_succ]
  refine wpAnyH_done (by kernel_rfl) ?_ _
  clear hS
  go_wp2_with fail
  go_ret
  exact ⟨retB HE.out.symm, GB⟩

/-- two rows of a call's own -/
def Parts (ps qs : List Tm) (w : World) (e : Ending) (w' : World) : Prop :=
  ∃ A1 n1 c1 A2 n2 c2, e = .returned (.tuple #[.slice A1 n1 c1, .slice A2 n2 c2]) ∧ ps.length = n1 ∧ qs.length = n2 ∧ w'.ownsRow w.heap.size 44 2 (.slice A1 n1 c1) n1 (flat tv ps) ∧ w'.ownsRow w.heap.size 44 2 (.slice A2 n2 c2) n2 (flat tv qs) ∧ Below w.heap.size w w'
theorem filter_step {p : Tm → Bool} {l : List Tm} {k : Nat} {x : Tm} (h : l[k]? = some x) : (l.take (k + 1)).filter p = (l.take k).filter p ++ if p x = true then [x] else [] := by
  rw [List.take_add_one, h, List.filter_append]
  cases hp : p x <;> simp [hp]
theorem own_len9 {w : World} {b n : Nat} {v : Value} {ts : List Tm} (h : w.ownsRow b 44 2 v n (flat tv ts)) : ts.length = n := by
  have := h.1
  rw [length_flat tv length_tv] at this
  omega

set_option maxRecDepth 100000 in
set_option maxHeartbeats 8000000 in
theorem ppart_any (g : Nat) (A : Option Addr) (n c : Nat) (ts : List Tm) (p : Tm → Bool) (w : World) (hQ : WR w A n ts)
    (hC : ∀ (a b : Int) (u : World), (a, b) ∈ ts → Below w.heap.size w u → Calls Try.prog 35 #[.agg #[.int .i64 a, .int .i64 b], .pointer (some ⟨g, 0, none⟩)] u (Said (.bool (p (a, b))) u)) :
    Calls Try.prog 34 #[.slice A n c, .func (.func 35) #[] #[.pointer (some ⟨g, 0, none⟩)]] w (Parts (ts.filter p) (ts.filter fun t => !p t) w) := by
  obtain ⟨i0, hi0, hz0, hz1, hz2⟩ := info_parts9 tm_info
  have HC := Lib.hid hC
  have hn := hQ.small
  have HL := Lib.hid hQ.len
  have HQ := Lib.hid hQ
  clear hQ hC
  go_enter Try.func34, Try.ntmps34
  go_wp2_with fail
  go_loopw [4, 5, 10] (fun sv tvv iv wr => ∃ (k : Nat) (A1 : Option Addr) (n1 c1 : Nat) (A2 : Option Addr) (n2 c2 : Nat), k ≤ n ∧ n1 ≤ k ∧ n2 ≤ k ∧ sv = .slice A1 n1 c1 ∧ tvv = .slice A2 n2 c2 ∧ iv = .int .i64 (k : Int) ∧ Hid (wr.ownsRow w.heap.size 44 2 (.slice A1 n1 c1) n1 (flat tv ((ts.take k).filter p)) ∧ wr.ownsRow w.heap.size 44 2 (.slice A2 n2 c2) n2 (flat tv ((ts.take k).filter fun t => !p t)) ∧ ∀ j j', (Value.slice A1 n1 c1).ownBlock = some j → (Value.slice A2 n2 c2).ownBlock = some j' → j ≠ j') ∧ Below w.heap.size w wr) (fun _ _ iv _ => n - (intOf iv).toNat)
  case atStart => exact ⟨0, none, 0, 0, none, 0, 0, Nat.zero_le _, Nat.le_refl _, Nat.le_refl _, rfl, rfl, rfl, Lib.hid ⟨World.ownsRow_nil _ _ _ _, World.ownsRow_nil _ _ _ _, fun j j' h _ => by simp [Value.ownBlock] at h⟩, Below.refl _ _⟩
  case round =>
    obtain ⟨k, A1, n1, c1, A2, n2, c2, hk, hn1, hn2, rfl, rfl, rfl, HO, GB⟩ := hrel
    by_cases hlt : k < n
    · obtain ⟨⟨a, b⟩, hx⟩ := elem_at (l := ts) (k := k) (by rw [HL.out]; exact hlt)
      obtain ⟨ad, rfl, hb, q0, q1⟩ := tm_at (HQ.out.below GB).row hx
      have HX := Lib.hid hx
      have j0 : (0 : Int) ≤ (k : Int) := by omega
      have j1 : (k : Int) < (n : Int) := by omega
      have l1 : decide ((k : Int) < (n : Int)) = true := decide_eq_true j1
      have KB := Blk.new wr 44 #[.int .i64 a, .int .i64 b]
      have GB1 := GB.alloc GB.size (.cells #[.int .i64 a, .int .i64 b] 44)
      have HCx := Lib.hid (HC.out a b _ (List.mem_of_getElem? hx) GB1)
      have O1 := HO.out.1.alloc (.cells #[.int .i64 a, .int .i64 b] 44)
      have O2 := HO.out.2.1.alloc (.cells #[.int .i64 a, .int .i64 b] 44)
      have HNE := Lib.hid HO.out.2.2
      have y0 := KB.cell 0
      have y1 := KB.cell 1
      clear hx hb GB HO
      cases hp : p (a, b) with
      | true =>
        have HF1 : Hid ((ts.take k).filter p ++ [(a, b)] = (ts.take (k + 1)).filter p) := Lib.hid (by rw [filter_step HX.out, if_pos hp])
        have HF2 : Hid ((ts.take k).filter (fun t => !p t) = (ts.take (k + 1)).filter (fun t => !p t)) := Lib.hid (by rw [filter_step HX.out, if_neg (by simp [hp]), List.append_nil])
        rw [hp] at HCx
        clear hp
        go_wp2_with fail
        refine HCx.out.mono ?_
        rintro e w2 ⟨rfl, h9⟩
        replace O1 := own_below O1 h9
        replace O2 := own_below O2 h9
        replace KB := KB.below h9 KB.lt
        replace GB1 := GB1.trans (h9.mono GB1.size)
        clear h9 y0 y1 q0 q1
        have y0 := KB.cell 0
        have y1 := KB.cell 1
        go_wp2_with (
          at_builtin
          refine wpList_append_any _ rfl (.tmp 17) (.tmp 19) 22 rfl w.heap.size 44 i0 (.agg #[.int .i64 0, .int .i64 0]) 2 16 Try.underlying22 hi0 hz0 hz1 hz2 rfl (by decide) (.slice A1 n1 c1) n1 (flat tv ((ts.take k).filter p)) rfl (O1.alloc (.cells #[.int .i64 a, .int .i64 b] 44)) _ (some ⟨w2.heap.size, 0, none⟩) 1 1 (flat tv [(a, b)]) rfl (reads_tm w2 a b) (tv_ones _) (by simp only [maxLen]; omega) (by omega) (Nat.le_trans GB1.size (by simp)) ?_
          intro v9 w9 own9 grow9 hw9
          rw [← flat_append] at own9
          have GB9 := (GB1.alloc GB1.size (.cells #[.int .i64 a, .int .i64 b] 44)).grown grow9 (Nat.le_trans GB1.size (by simp)) (fun g hg => (O1.lt g hg).1)
          obtain ⟨A9, c9, rfl, _, _⟩ := own_reads own9
          have HT := Lib.hid (And.intro own9 (And.intro grow9 (And.intro hw9 GB9)))
          clear own9 grow9 hw9 GB9)
        have HR := Lib.hid (And.intro (HF1.out ▸ HT.out.1) (And.intro (HF2.out ▸ own_other (O2.alloc (.cells #[.int .i64 a, .int .i64 b] 44)) HT.out.2.1 (fun j j' h h' e => HNE.out j' j h' h e.symm)) (fun j j' h h' => (ne_other (O2.alloc (.cells #[.int .i64 a, .int .i64 b] 44)) (fun j j' h h' e => HNE.out j' j h' h e.symm) HT.out.2.2.1 j' j h' h).symm)))
        have GB9 := HT.out.2.2.2
        clear O1 O2 HT KB y0 y1 HCx
        go_roundw
        case rel => exact ⟨k + 1, A9, n1 + 1, c9, A2, n2, c2, by omega, by omega, by omega, rfl, rfl, by go_num, HR, GB9⟩
        case measure => simp [intOf] <;> omega
      | false =>
        have HF1 : Hid ((ts.take k).filter p = (ts.take (k + 1)).filter p) := Lib.hid (by rw [filter_step HX.out, if_neg (by simp [hp]), List.append_nil])
        have HF2 : Hid ((ts.take k).filter (fun t => !p t) ++ [(a, b)] = (ts.take (k + 1)).filter (fun t => !p t)) := Lib.hid (by rw [filter_step HX.out, if_pos (by simp [hp])])
        rw [hp] at HCx
        clear hp
        go_wp2_with fail
        refine HCx.out.mono ?_
        rintro e w2 ⟨rfl, h9⟩
        replace O1 := own_below O1 h9
        replace O2 := own_below O2 h9
        replace KB := KB.below h9 KB.lt
        replace GB1 := GB1.trans (h9.mono GB1.size)
        clear h9 y0 y1 q0 q1
        have y0 := KB.cell 0
        have y1 := KB.cell 1
        go_wp2_with (
          at_builtin
          refine wpList_append_any _ rfl (.tmp 21) (.tmp 23) 22 rfl w.heap.size 44 i0 (.agg #[.int .i64 0, .int .i64 0]) 2 16 Try.underlying22 hi0 hz0 hz1 hz2 rfl (by decide) (.slice A2 n2 c2) n2 (flat tv ((ts.take k).filter fun t => !p t)) rfl (O2.alloc (.cells #[.int .i64 a, .int .i64 b] 44)) _ (some ⟨w2.heap.size, 0, none⟩) 1 1 (flat tv [(a, b)]) rfl (reads_tm w2 a b) (tv_ones _) (by simp only [maxLen]; omega) (by omega) (Nat.le_trans GB1.size (by simp)) ?_
          intro v9 w9 own9 grow9 hw9
          rw [← flat_append] at own9
          have GB9 := (GB1.alloc GB1.size (.cells #[.int .i64 a, .int .i64 b] 44)).grown grow9 (Nat.le_trans GB1.size (by simp)) (fun g hg => (O2.lt g hg).1)
          obtain ⟨A9, c9, rfl, _, _⟩ := own_reads own9
          have HT := Lib.hid (And.intro own9 (And.intro grow9 (And.intro hw9 GB9)))
          clear own9 grow9 hw9 GB9)
        have HR := Lib.hid (And.intro (HF1.out ▸ own_other (O1.alloc (.cells #[.int .i64 a, .int .i64 b] 44)) HT.out.2.1 HNE.out) (And.intro (HF2.out ▸ HT.out.1) (ne_other (O1.alloc (.cells #[.int .i64 a, .int .i64 b] 44)) HNE.out HT.out.2.2.1)))
        have GB9 := HT.out.2.2.2
        clear O1 O2 HT KB y0 y1 HCx
        go_roundw
        case rel => exact ⟨k + 1, A1, n1, c1, A9, n2 + 1, c9, by omega, by omega, by omega, rfl, rfl, by go_num, HR, GB9⟩
        case measure => simp [intOf] <;> omega
    · obtain rfl : k = n := by omega
      have l1 : decide ((k : Int) < (k : Int)) = false := decide_eq_false (by omega)
      have e1 : ts.take k = ts := by rw [← HL.out]; exact List.take_length
      rw [e1] at HO
      go_wp2
      go_ret2
      exact ⟨A1, n1, c1, A2, n2, c2, rfl, own_len9 HO.out.1, own_len9 HO.out.2.1, HO.out.1, HO.out.2.1, GB⟩

set_option maxRecDepth 100000 in
set_option maxHeartbeats 8000000 in
theorem spart_any (gw gl gs : Nat) (A : Option Addr) (n c : Nat) (ts : List Tm) (p : Tm → Bool) (w : World) (hQ : WR w A n ts)
    (hC : ∀ (a b : Int) (u : World), (a, b) ∈ ts → Below w.heap.size w u → Calls Try.prog 40 #[.agg #[.int .i64 a, .int .i64 b], .pointer (some ⟨gw, 0, none⟩), .pointer (some ⟨gl, 0, none⟩), .pointer (some ⟨gs, 0, none⟩)] u (Said (.bool (p (a, b))) u)) :
    Calls Try.prog 34 #[.slice A n c, .func (.func 40) #[] #[.pointer (some ⟨gw, 0, none⟩), .pointer (some ⟨gl, 0, none⟩), .pointer (some ⟨gs, 0, none⟩)]] w (Parts (ts.filter p) (ts.filter fun t => !p t) w) := by
  obtain ⟨i0, hi0, hz0, hz1, hz2⟩ := info_parts9 tm_info
  have HC := Lib.hid hC
  have hn := hQ.small
  have HL := Lib.hid hQ.len
  have HQ := Lib.hid hQ
  clear hQ hC
  go_enter Try.func34, Try.ntmps34
  go_wp2_with fail
  go_loopw [4, 5, 10] (fun sv tvv iv wr => ∃ (k : Nat) (A1 : Option Addr) (n1 c1 : Nat) (A2 : Option Addr) (n2 c2 : Nat), k ≤ n ∧ n1 ≤ k ∧ n2 ≤ k ∧ sv = .slice A1 n1 c1 ∧ tvv = .slice A2 n2 c2 ∧ iv = .int .i64 (k : Int) ∧ Hid (wr.ownsRow w.heap.size 44 2 (.slice A1 n1 c1) n1 (flat tv ((ts.take k).filter p)) ∧ wr.ownsRow w.heap.size 44 2 (.slice A2 n2 c2) n2 (flat tv ((ts.take k).filter fun t => !p t)) ∧ ∀ j j', (Value.slice A1 n1 c1).ownBlock = some j → (Value.slice A2 n2 c2).ownBlock = some j' → j ≠ j') ∧ Below w.heap.size w wr) (fun _ _ iv _ => n - (intOf iv).toNat)
  case atStart => exact ⟨0, none, 0, 0, none, 0, 0, Nat.zero_le _, Nat.le_refl _, Nat.le_refl _, rfl, rfl, rfl, Lib.hid ⟨World.ownsRow_nil _ _ _ _, World.ownsRow_nil _ _ _ _, fun j j' h _ => by simp [Value.ownBlock] at h⟩, Below.refl _ _⟩
  case round =>
    obtain ⟨k, A1, n1, c1, A2, n2, c2, hk, hn1, hn2, rfl, rfl, rfl, HO, GB⟩ := hrel
    by_cases hlt : k < n
    · obtain ⟨⟨a, b⟩, hx⟩ := elem_at (l := ts) (k := k) (by rw [HL.out]; exact hlt)
      obtain ⟨ad, rfl, hb, q0, q1⟩ := tm_at (HQ.out.below GB).row hx
      have HX := Lib.hid hx
      have j0 : (0 : Int) ≤ (k : Int) := by omega
      have j1 : (k : Int) < (n : Int) := by omega
      have l1 : decide ((k : Int) < (n : Int)) = true := decide_eq_true j1
      have KB := Blk.new wr 44 #[.int .i64 a, .int .i64 b]
      have GB1 := GB.alloc GB.size (.cells #[.int .i64 a, .int .i64 b] 44)
      have HCx := Lib.hid (HC.out a b _ (List.mem_of_getElem? hx) GB1)
      have O1 := HO.out.1.alloc (.cells #[.int .i64 a, .int .i64 b] 44)
      have O2 := HO.out.2.1.alloc (.cells #[.int .i64 a, .int .i64 b] 44)
      have HNE := Lib.hid HO.out.2.2
      have y0 := KB.cell 0
      have y1 := KB.cell 1
      clear hx hb GB HO
      cases hp : p (a, b) with
      | true =>
        have HF1 : Hid ((ts.take k).filter p ++ [(a, b)] = (ts.take (k + 1)).filter p) := Lib.hid (by rw [filter_step HX.out, if_pos hp])
        have HF2 : Hid ((ts.take k).filter (fun t => !p t) = (ts.take (k + 1)).filter (fun t => !p t)) := Lib.hid (by rw [filter_step HX.out, if_neg (by simp [hp]), List.append_nil])
        rw [hp] at HCx
        clear hp
        go_wp2_with fail
        refine HCx.out.mono ?_
        rintro e w2 ⟨rfl, h9⟩
        replace O1 := own_below O1 h9
        replace O2 := own_below O2 h9
        replace KB := KB.below h9 KB.lt
        replace GB1 := GB1.trans (h9.mono GB1.size)
        clear h9 y0 y1 q0 q1
        have y0 := KB.cell 0
        have y1 := KB.cell 1
        go_wp2_with (
          at_builtin
          refine wpList_append_any _ rfl (.tmp 17) (.tmp 19) 22 rfl w.heap.size 44 i0 (.agg #[.int .i64 0, .int .i64 0]) 2 16 Try.underlying22 hi0 hz0 hz1 hz2 rfl (by decide) (.slice A1 n1 c1) n1 (flat tv ((ts.take k).filter p)) rfl (O1.alloc (.cells #[.int .i64 a, .int .i64 b] 44)) _ (some ⟨w2.heap.size, 0, none⟩) 1 1 (flat tv [(a, b)]) rfl (reads_tm w2 a b) (tv_ones _) (by simp only [maxLen]; omega) (by omega) (Nat.le_trans GB1.size (by simp)) ?_
          intro v9 w9 own9 grow9 hw9
          rw [← flat_append] at own9
          have GB9 := (GB1.alloc GB1.size (.cells #[.int .i64 a, .int .i64 b] 44)).grown grow9 (Nat.le_trans GB1.size (by simp)) (fun g hg => (O1.lt g hg).1)
          obtain ⟨A9, c9, rfl, _, _⟩ := own_reads own9
          have HT := Lib.hid (And.intro own9 (And.intro grow9 (And.intro hw9 GB9)))
          clear own9 grow9 hw9 GB9)
        have HR := Lib.hid (And.intro (HF1.out ▸ HT.out.1) (And.intro (HF2.out ▸ own_other (O2.alloc (.cells #[.int .i64 a, .int .i64 b] 44)) HT.out.2.1 (fun j j' h h' e => HNE.out j' j h' h e.symm)) (fun j j' h h' => (ne_other (O2.alloc (.cells #[.int .i64 a, .int .i64 b] 44)) (fun j j' h h' e => HNE.out j' j h' h e.symm) HT.out.2.2.1 j' j h' h).symm)))
        have GB9 := HT.out.2.2.2
        clear O1 O2 HT KB y0 y1 HCx
        go_roundw
        case rel => exact ⟨k + 1, A9, n1 + 1, c9, A2, n2, c2, by omega, by omega, by omega, rfl, rfl, by go_num, HR, GB9⟩
        case measure => simp [intOf] <;> omega
      | false =>
        have HF1 : Hid ((ts.take k).filter p = (ts.take (k + 1)).filter p) := Lib.hid (by rw [filter_step HX.out, if_neg (by simp [hp]), List.append_nil])
        have HF2 : Hid ((ts.take k).filter (fun t => !p t) ++ [(a, b)] = (ts.take (k + 1)).filter (fun t => !p t)) := Lib.hid (by rw [filter_step HX.out, if_pos (by simp [hp])])
        rw [hp] at HCx
        clear hp
        go_wp2_with fail
        refine HCx.out.mono ?_
        rintro e w2 ⟨rfl, h9⟩
        replace O1 := own_below O1 h9
        replace O2 := own_below O2 h9
        replace KB := KB.below h9 KB.lt
        replace GB1 := GB1.trans (h9.mono GB1.size)
        clear h9 y0 y1 q0 q1
        have y0 := KB.cell 0
        have y1 := KB.cell 1
        go_wp2_with (
          at_builtin
          refine wpList_append_any _ rfl (.tmp 21) (.tmp 23) 22 rfl w.heap.size 44 i0 (.agg #[.int .i64 0, .int .i64 0]) 2 16 Try.underlying22 hi0 hz0 hz1 hz2 rfl (by decide) (.slice A2 n2 c2) n2 (flat tv ((ts.take k).filter fun t => !p t)) rfl (O2.alloc (.cells #[.int .i64 a, .int .i64 b] 44)) _ (some ⟨w2.heap.size, 0, none⟩) 1 1 (flat tv [(a, b)]) rfl (reads_tm w2 a b) (tv_ones _) (by simp only [maxLen]; omega) (by omega) (Nat.le_trans GB1.size (by simp)) ?_
          intro v9 w9 own9 grow9 hw9
          rw [← flat_append] at own9
          have GB9 := (GB1.alloc GB1.size (.cells #[.int .i64 a, .int .i64 b] 44)).grown grow9 (Nat.le_trans GB1.size (by simp)) (fun g hg => (O2.lt g hg).1)
          obtain ⟨A9, c9, rfl, _, _⟩ := own_reads own9
          have HT := Lib.hid (And.intro own9 (And.intro grow9 (And.intro hw9 GB9)))
          clear own9 grow9 hw9 GB9)
        have HR := Lib.hid (And.intro (HF1.out ▸ own_other (O1.alloc (.cells #[.int .i64 a, .int .i64 b] 44)) HT.out.2.1 HNE.out) (And.intro (HF2.out ▸ HT.out.1) (ne_other (O1.alloc (.cells #[.int .i64 a, .int .i64 b] 44)) HNE.out HT.out.2.2.1)))
        have GB9 := HT.out.2.2.2
        clear O1 O2 HT KB y0 y1 HCx
        go_roundw
        case rel => exact ⟨k + 1, A1, n1, c1, A9, n2 + 1, c9, by omega, by omega, by omega, rfl, rfl, by go_num, HR, GB9⟩
        case measure => simp [intOf] <;> omega
    · obtain rfl : k = n := by omega
      have l1 : decide ((k : Int) < (k : Int)) = false := decide_eq_false (by omega)
      have e1 : ts.take k = ts := by rw [← HL.out]; exact List.take_length
      rw [e1] at HO
      go_wp2
      go_ret2
      exact ⟨A1, n1, c1, A2, n2, c2, rfl, own_len9 HO.out.1, own_len9 HO.out.2.1, HO.out.1, HO.out.2.1, GB⟩

/-- a row of a call's own -/
def Row (ps : List Tm) (w : World) (e : Ending) (w' : World) : Prop :=
  ∃ A n c, e = .returned (.slice A n c) ∧ ps.length = n ∧ w'.ownsRow w.heap.size 44 2 (.slice A n c) n (flat tv ps) ∧ Below w.heap.size w w'
set_option maxRecDepth 100000 in
set_option maxHeartbeats 8000000 in
theorem laid_any (A : Option Addr) (n c : Nat) (ts : List Tm) (w : World) (hQ : WR w A n ts) (hM : ∀ t ∈ ts, 0 ≤ t.2 ∧ t.2 ≤ 1125899906842624) :
    Calls Try.prog 36 #[.slice A n c] w (Row (laidL ts) w) := by
  have hn := hQ.small
  have HL := Lib.hid hQ.len
  have HQ := Lib.hid hQ
  have HM := Lib.hid hM
  clear hQ hM
  go_enter Try.func36, Try.ntmps36
  go_wp2_with fail
  go_loopw [3, 10] (fun sv iv wr => ∃ (k : Nat) (A1 : Option Addr) (c1 : Nat), k ≤ n ∧ sv = .slice A1 k c1 ∧ iv = .int .i64 (k : Int) ∧ Hid (wr.ownsRow w.heap.size 44 2 (.slice A1 k c1) k (flat tv (laidL (ts.take k)))) ∧ Below w.heap.size w wr) (fun _ iv _ => n - (intOf iv).toNat)
  case atStart => exact ⟨0, none, 0, Nat.zero_le _, rfl, rfl, Lib.hid (World.ownsRow_nil _ _ _ _), Below.refl _ _⟩
  case round =>
    obtain ⟨k, A1, c1, hk, rfl, rfl, HO, GB⟩ := hrel
    by_cases hlt : k < n
    · obtain ⟨⟨a, b⟩, hx⟩ := elem_at (l := ts) (k := k) (by rw [HL.out]; exact hlt)
      obtain ⟨ad, rfl, hb, q0, q1⟩ := tm_at (HQ.out.below GB).row hx
      have hbm : 0 ≤ b ∧ b ≤ 1125899906842624 := HM.out _ (List.mem_of_getElem? hx)
      have HW : Hid (wrap64 (b + 1) = b + 1) := Lib.hid (by unfold wrap64; omega)
      have w1 := HW.out
      have HS := Lib.hid (laid_step hx)
      have j0 : (0 : Int) ≤ (k : Int) := by omega
      have j1 : (k : Int) < (n : Int) := by omega
      have l1 : decide ((k : Int) < (n : Int)) = true := decide_eq_true j1
      have KB := Blk.new wr 44 #[.int .i64 a, .int .i64 b]
      have GB1 := GB.alloc GB.size (.cells #[.int .i64 a, .int .i64 b] 44)
      have O1 := HO.out.alloc (.cells #[.int .i64 a, .int .i64 b] 44)
      have HF := Lib.hid (jfind_any A1 k c1 (laidL (ts.take k)) (b + 1) _ (WR.of_own O1 (by omega)) (laid_sort _))
      obtain ⟨i, hi⟩ : ∃ i, lowK (·.2) (laidL (ts.take k)) (b + 1) = i := ⟨_, rfl⟩
      have hik : i ≤ k := by rw [← hi]; have := low_le (·.2) (laidL (ts.take k)) (b + 1); rw [own_len9 O1] at this; exact this
      have HI : Hid ((laidL (ts.take k)).take i ++ (a, b) :: (laidL (ts.take k)).drop i = laidL (ts.take (k + 1))) := Lib.hid (by rw [HS.out, ← hi]; rfl)
      rw [hi] at HF
      generalize metK (·.2) (laidL (ts.take k)) (b + 1) = mt at HF
      have y0 := KB.cell 0
      have y1 := KB.cell 1
      clear hx hb GB HO hi hbm HS
      go_wp2_with fail
      refine HF.out.mono ?_
      rintro e w2 ⟨rfl, h9⟩
      replace O1 := own_below O1 h9
      replace KB := KB.below h9 KB.lt
      replace GB1 := GB1.trans (h9.mono GB1.size)
      clear h9 y0 y1 q0 q1 HF w1
      have y0 := KB.cell 0
      have y1 := KB.cell 1
      have KV := Blk.new w2 44 #[.int .i64 a, .int .i64 b]
      have O2 := O1.alloc (.cells #[.int .i64 a, .int .i64 b] 44)
      have GB2 := GB1.alloc GB1.size (.cells #[.int .i64 a, .int .i64 b] 44)
      have HIn := Lib.hid (tinsert_any w.heap.size k c1 i A1 (laidL (ts.take k)) w2.heap.size (a, b) _ O2 GB2.size KV (fun j hj e => by have := (O1.lt j hj).2; omega) (own_len9 O1) hik (by omega))
      clear O1 KB
      go_wp2_with fail
      refine HIn.out.mono ?_
      rintro e w3 ⟨⟨A3, c3, rfl, o3, -⟩, gd⟩
      have GB3 := GB2.grown gd GB2.size (fun g hg => (O2.lt g hg).1)
      rw [HI.out] at o3
      have HO3 := Lib.hid o3
      clear o3 gd O2 GB2 KV HIn GB1 y0 y1
      go_wp2
      go_roundw
      case rel => exact ⟨k + 1, A3, c3, by omega, rfl, by go_num, HO3, GB3⟩
      case measure => simp [intOf] <;> omega
    · obtain rfl : k = n := by omega
      have l1 : decide ((k : Int) < (k : Int)) = false := decide_eq_false (by omega)
      have e1 : ts.take k = ts := by rw [← HL.out]; exact List.take_length
      rw [e1] at HO
      go_wp2
      go_ret
      exact ⟨A1, k, c1, rfl, own_len9 HO.out, HO.out, GB⟩

end Go.Proofs.Ytbhcpkmofnfjgaa
