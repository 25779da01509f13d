/-
  The landed pool: Move's closure; changed. No statement is proved here.
-/
import Derived.Test.YtnckfgnhlnichaaDoorPh
namespace Go.Proofs.YtnckfgnhlnichaaDoor
open Go.RowKit

theorem Row.lt {w : World} {b : Nat} {p : Addr} {n c : Nat} {l : List Nat} (h : Row w b p n c l) : ∀ j, (p.add j).block < w.heap.size := by
  intro j
  have := h.own.lt p.block rfl
  rw [block_of_add]
  exact this.2

set_option maxRecDepth 100000 in
set_option maxHeartbeats 8000000 in
theorem lmovedo_any (b : Nat) (p : Addr) (n c j t bw bc bt x y x2 y2 : Nat) (k : Int) (l : List Nat) (w : World) (hRow : Row w b p n c l) (hj : l[j]? = some x) (ht : l[t]? = some y) (hjt : j ≠ t)
    (kw : w.cell? ⟨bw, 0, none⟩ = some (.int .i64 (j : Int))) (kc : w.cell? ⟨bc, 0, none⟩ = some (.int .i64 k)) (kt : w.cell? ⟨bt, 0, none⟩ = some (.int .i64 (t : Int)))
    (hbw : bw < b) (hbc : bc < b) (hbt : bt < b) (hn : n ≤ 1000) (hx : x < 4294967296) (hy : y < 4294967296) (ho : outV (x : Int) k = ((x2 : Int), 0)) (hw : withV (y : Int) k = ((y2 : Int), 0)) :
    Calls Tryd.prog 23 #[.slice (some p) n c, .pointer (some ⟨bw, 0, none⟩), .pointer (some ⟨bc, 0, none⟩), .pointer (some ⟨bt, 0, none⟩)] w (Does b ((l.set j x2).set t y2) w) := by
  have hl := hRow.len
  have hjl := (List.getElem?_eq_some_iff.1 hj).1
  have htl := (List.getElem?_eq_some_iff.1 ht).1
  have j0 : (0 : Int) ≤ (j : Int) := by omega
  have j1 : (j : Int) < (n : Int) := by omega
  have t0 : (0 : Int) ≤ (t : Int) := by omega
  have t1 : (t : Int) < (n : Int) := by omega
  have HOut := Lib.hid (fun u => out_any (x : Int) k u (by omega) (by omega))
  have HWi := Lib.hid (fun u => with_any (y : Int) k u (by omega) (by omega))
  rw [ho] at HOut
  rw [hw] at HWi
  have HKs := Lib.hid (fun (u : World) (h : Below b w u) => And.intro ((h.cell (p := ⟨bw, 0, none⟩) hbw).trans kw) (And.intro ((h.cell (p := ⟨bc, 0, none⟩) hbc).trans kc) ((h.cell (p := ⟨bt, 0, none⟩) hbt).trans kt)))
  have HL : Hid (((l.set j x2).set t y2).length = n) := Lib.hid (by simp; omega)
  have HT2 : Hid ((l.set j x2)[t]? = some y) := Lib.hid (by rw [List.getElem?_set_ne hjt]; exact ht)
  have HJ := Lib.hid hj
  have R0 := hRow.drew
  have B0 := (Below.refl b w).drew
  have n9 : n ≤ 1000 := hn
  clear hRow hl hjl htl hj ht kw kc kt hbw hbc hbt hn hx hy ho hw hjt
  go_enter Tryd.func23, Tryd.ntmps23
  go_upto_region 1 with fail
  refine wp_region_held_drew (S := fun u => Below b w u) (by kernel_rfl) B0 (fun hS => ?_)
  generalize w.drew = V at R0 B0 hS ⊢
  refine wpAnyH_take (i := 0) (v := .slice (some p) n c) rfl (by kernel_rfl) (by kernel_rfl) (by kernel_rfl) (fun _ _ _ h => h) (Or.inl ⟨by kernel_rfl, fun u hSw => (by go_simp)⟩) hS ?_
  try simp only [Act.put]
  refine wpAnyH_take (i := 1) (v := .int .i64 (j : Int)) rfl (by kernel_rfl) (by kernel_rfl) (by kernel_rfl) (fun _ _ _ h => h) (Or.inl ⟨by kernel_rfl, fun u hSw => (by have q := (HKs.out u hSw).1; go_simp)⟩) hS ?_
  try simp only [Act.put]
  refine wpAnyH_take (i := 2) (v := .slice (some p) n c) rfl (by kernel_rfl) (by kernel_rfl) (by kernel_rfl) (fun _ _ _ h => h) (Or.inl ⟨by kernel_rfl, fun u hSw => (by go_simp)⟩) hS ?_
  try simp only [Act.put]
  refine wpAnyH_take (i := 3) (v := .int .i64 (j : Int)) rfl (by kernel_rfl) (by kernel_rfl) (by kernel_rfl) (fun _ _ _ h => h) (Or.inl ⟨by kernel_rfl, fun u hSw => (by have q := (HKs.out u hSw).1; go_simp)⟩) hS ?_
  try simp only [Act.put]
  refine wpAnyH_take (i := 4) (v := .pointer (some (p.add j))) rfl (by kernel_rfl) (by kernel_rfl) (by kernel_rfl) (fun _ _ _ h => h) (Or.inl ⟨by kernel_rfl, fun u hSw => (by go_simp)⟩) hS ?_
  try simp only [Act.put]
  refine wpAnyH_take (i := 6) (v := .int .i64 k) rfl (by kernel_rfl) (by kernel_rfl) (by kernel_rfl) (fun _ _ _ h => h) (Or.inl ⟨by kernel_rfl, fun u hSw => (by have q := (HKs.out u hSw).2.1; go_simp)⟩) hS ?_
  try simp only [Act.put]
  refine wpAnyH_ready (rs := [5]) (by kernel_rfl) (by simp) ?_
  refine AllReadyH.cons rfl (fun K hK => ?_) AllReadyH.nil
  have q5 := R0.cell HJ.out
  go_simp
  refine hK.out _ _ B0 (fun hS => ?_)
  clear hK K q5
  try simp only [Act.put]
  refine wpAnyH_ready (rs := [7]) (by kernel_rfl) (by simp) ?_
  refine AllReadyH.cons rfl (fun K hK => ?_) AllReadyH.nil
  go_simp
  refine (HOut.out _).mono ?_
  rintro e w1 ⟨rfl, rfl⟩
  refine hK.out _ _ B0 (fun hS => ?_)
  clear hK K
  refine wpAnyH_take (i := 8) (v := .tuple #[.int .u32 (x2 : Int), .int .i64 0]) rfl (by kernel_rfl) (by kernel_rfl) (by kernel_rfl) (fun _ _ _ h => h) (Or.inl ⟨by kernel_rfl, fun u hSw => (by go_simp)⟩) hS ?_
  try simp only [Act.put]
  refine wpAnyH_take (i := 9) (v := .int .u32 (x2 : Int)) rfl (by kernel_rfl) (by kernel_rfl) (by kernel_rfl) (fun _ _ _ h => h) (Or.inl ⟨by kernel_rfl, fun u hSw => (by go_simp)⟩) hS ?_
  try simp only [Act.put]
  refine wpAnyH_take (i := 10) (v := .int .i64 0) rfl (by kernel_rfl) (by kernel_rfl) (by kernel_rfl) (fun _ _ _ h => h) (Or.inl ⟨by kernel_rfl, fun u hSw => (by go_simp)⟩) hS ?_
  try simp only [Act.put]
  refine wpAnyH_take (i := 11) (v := .pointer (some (p.add j))) rfl (by kernel_rfl) (by kernel_rfl) (by kernel_rfl) (fun _ _ _ h => h) (Or.inl ⟨by kernel_rfl, fun u hSw => (by go_simp)⟩) hS ?_
  try simp only [Act.put]
  refine wpAnyH_ready (rs := [12]) (by kernel_rfl) (by simp) ?_
  refine AllReadyH.cons rfl (fun K hK => ?_) AllReadyH.nil
  have q5 := R0.cell HJ.out
  have q6 := R0.frozen j
  go_simp
  have R1 := R0.put j x2
  have B1 := R0.down B0 j x2
  refine hK.out _ _ B1 (fun hS => ?_)
  clear hK K q5 q6 R0 B0
  generalize V.setCell (p.add j) (.int .u32 (x2 : Int)) = V1 at R1 B1 hS ⊢
  refine wpAnyH_done (by kernel_rfl) ?_ _
  clear hS
  have R2 := Lib.hid R1.drew
  have B2 := Lib.hid B1.drew
  clear R1 B1
  go_upto_region 2 with fail
  refine wp_region_held_drew (S := fun u => Below b w u) (by kernel_rfl) B2.out (fun hS => ?_)
  generalize V1.drew = V2 at R2 B2 hS ⊢
  refine wpAnyH_take (i := 0) (v := .slice (some p) n c) rfl (by kernel_rfl) (by kernel_rfl) (by kernel_rfl) (fun _ _ _ h => h) (Or.inl ⟨by kernel_rfl, fun u hSw => (by go_simp)⟩) hS ?_
  try simp only [Act.put]
  refine wpAnyH_take (i := 1) (v := .int .i64 (t : Int)) rfl (by kernel_rfl) (by kernel_rfl) (by kernel_rfl) (fun _ _ _ h => h) (Or.inl ⟨by kernel_rfl, fun u hSw => (by have q := (HKs.out u hSw).2.2; go_simp)⟩) hS ?_
  try simp only [Act.put]
  refine wpAnyH_take (i := 2) (v := .slice (some p) n c) rfl (by kernel_rfl) (by kernel_rfl) (by kernel_rfl) (fun _ _ _ h => h) (Or.inl ⟨by kernel_rfl, fun u hSw => (by go_simp)⟩) hS ?_
  try simp only [Act.put]
  refine wpAnyH_take (i := 3) (v := .int .i64 (t : Int)) rfl (by kernel_rfl) (by kernel_rfl) (by kernel_rfl) (fun _ _ _ h => h) (Or.inl ⟨by kernel_rfl, fun u hSw => (by have q := (HKs.out u hSw).2.2; go_simp)⟩) hS ?_
  try simp only [Act.put]
  refine wpAnyH_take (i := 4) (v := .pointer (some (p.add t))) rfl (by kernel_rfl) (by kernel_rfl) (by kernel_rfl) (fun _ _ _ h => h) (Or.inl ⟨by kernel_rfl, fun u hSw => (by go_simp)⟩) hS ?_
  try simp only [Act.put]
  refine wpAnyH_take (i := 6) (v := .int .i64 k) rfl (by kernel_rfl) (by kernel_rfl) (by kernel_rfl) (fun _ _ _ h => h) (Or.inl ⟨by kernel_rfl, fun u hSw => (by have q := (HKs.out u hSw).2.1; go_simp)⟩) hS ?_
  try simp only [Act.put]
  refine wpAnyH_ready (rs := [5]) (by kernel_rfl) (by simp) ?_
  refine AllReadyH.cons rfl (fun K hK => ?_) AllReadyH.nil
  have q5 := R2.out.cell HT2.out
  go_simp
  refine hK.out _ _ B2.out (fun hS => ?_)
  clear hK K q5
  try simp only [Act.put]
  refine wpAnyH_ready (rs := [7]) (by kernel_rfl) (by simp) ?_
  refine AllReadyH.cons rfl (fun K hK => ?_) AllReadyH.nil
  go_simp
  refine (HWi.out _).mono ?_
  rintro e w1 ⟨rfl, rfl⟩
  refine hK.out _ _ B2.out (fun hS => ?_)
  clear hK K
  refine wpAnyH_take (i := 8) (v := .tuple #[.int .u32 (y2 : Int), .int .i64 0]) rfl (by kernel_rfl) (by kernel_rfl) (by kernel_rfl) (fun _ _ _ h => h) (Or.inl ⟨by kernel_rfl, fun u hSw => (by go_simp)⟩) hS ?_
  try simp only [Act.put]
  refine wpAnyH_take (i := 9) (v := .int .u32 (y2 : Int)) rfl (by kernel_rfl) (by kernel_rfl) (by kernel_rfl) (fun _ _ _ h => h) (Or.inl ⟨by kernel_rfl, fun u hSw => (by go_simp)⟩) hS ?_
  try simp only [Act.put]
  refine wpAnyH_take (i := 10) (v := .int .i64 0) rfl (by kernel_rfl) (by kernel_rfl) (by kernel_rfl) (fun _ _ _ h => h) (Or.inl ⟨by kernel_rfl, fun u hSw => (by go_simp)⟩) hS ?_
  try simp only [Act.put]
  refine wpAnyH_take (i := 11) (v := .pointer (some (p.add t))) rfl (by kernel_rfl) (by kernel_rfl) (by kernel_rfl) (fun _ _ _ h => h) (Or.inl ⟨by kernel_rfl, fun u hSw => (by go_simp)⟩) hS ?_
  try simp only [Act.put]
  refine wpAnyH_ready (rs := [12]) (by kernel_rfl) (by simp) ?_
  refine AllReadyH.cons rfl (fun K hK => ?_) AllReadyH.nil
  have q5 := R2.out.cell HT2.out
  have q6 := R2.out.frozen t
  go_simp
  have R3 := R2.out.put t y2
  have B3 := R2.out.down B2.out t y2
  refine hK.out _ _ B3 (fun hS => ?_)
  clear hK K q5 q6 R2 B2
  generalize V2.setCell (p.add t) (.int .u32 (y2 : Int)) = V3 at R3 B3 hS ⊢
  refine wpAnyH_done (by kernel_rfl) ?_ _
  clear hS
  have HE := Lib.hid (And.intro R3 B3)
  clear R3 B3
  go_wp2
  go_ret
  exact ⟨some p, c, by rw [HL.out]; rfl, by rw [HL.out]; exact HE.out.1.own, HE.out.2⟩

/-- the row of a struct's own, made by a closure out of a copy -/
def DoesOkSplit (q1 q2 : Value) (l L' : List Nat) (w : World) : Prop :=
  ∀ (b : Nat) (p : Addr) (n c : Nat) (u : World), w.heap.size ≤ b → b ≤ u.heap.size → Below w.heap.size w u → n ≤ c → Row u b p n c l → Calls Tryd.prog 21 #[.slice (some p) n c, q1, q2] u (Does b L' u)

set_option maxRecDepth 100000 in
set_option maxHeartbeats 4000000 in
theorem lchangedSplit_any {G : World → Prop} (hG : Steady G) (A : Option Addr) (n c : Nat) (l L' : List Nat) (q1 q2 : Value) (w : World) (hAt : PAt G w A n c l) (h1 : 1 ≤ n) (hdo : DoesOkSplit q1 q2 l L' w) :
    Calls Tryd.prog 20 #[.agg #[.slice A n c], .func (.func 21) #[] #[q1, q2]] w (GivesP L' w) := by
  have HL := Lib.hid hAt.len
  obtain ⟨ad, x0, rfl, _, _, _⟩ := uset_at hAt.1 (k := 0) (by omega)
  have HCl := Lib.hid (fun (u : World) (h : Below w.heap.size w u) => lclone_any ad n c l u (hAt.below hG h).1 hAt.2.2.1)
  obtain ⟨K1, K2, B⟩ := blks2 w 26 26 #[.slice (some ad) n c] #[.slice none 0 0]
  have k1 := K1.cell 0
  have HK := Lib.hid (And.intro K2 B)
  have HD := Lib.hid hdo
  have H1 := Lib.hid h1
  clear hAt hG hdo K1 K2 B h1
  go_enter Tryd.func20, Tryd.ntmps20
  go_wp2_with fail
  refine (HCl.out _ HK.out.2).mono ?_
  rintro e w2 ⟨A2, c2, rfl, own2, h2⟩
  rw [HL.out] at own2 ⊢
  have hp : ∃ p, A2 = some p ∧ n ≤ c2 := by
    obtain ⟨A3, c3, e3, hc, hr⟩ := own_reads own2
    injection e3 with e4 e5 e6
    subst e4 e6
    obtain ⟨ad4, _, e7, _, _, _⟩ := uset_at hr (k := 0) (by have := H1.out; omega)
    exact ⟨ad4, e7, hc⟩
  obtain ⟨p, rfl, hnc⟩ := hp
  have B2 := HK.out.2.trans (h2.mono HK.out.2.size)
  have K2 := HK.out.1.below h2 HK.out.1.lt
  have hsz : ((w.alloc (.cells #[.slice (some ad) n c] 26)).alloc (.cells #[.slice none 0 0] 26)).heap.size = w.heap.size + 1 + 1 := by simp
  have HX := Lib.hid (HD.out _ p n c2 w2 (by rw [hsz]; omega) h2.size B2 hnc (Row.of own2))
  rw [hsz] at HX
  have HS := Lib.hid (show w.heap.size + 1 + 1 ≤ w2.heap.size by rw [← hsz]; exact h2.size)
  clear own2 hnc h2 k1
  go_wp2_with fail
  refine HX.out.mono ?_
  rintro e w3 ⟨A3, c3, rfl, own3, h3⟩
  have K3 := K2.below h3 (by omega)
  have B3 := B2.trans (h3.mono (show w.heap.size ≤ w.heap.size + 1 + 1 by omega))
  have k3 := K3.cell 0
  have f3 := K3.frozen 0
  have HKF := Lib.hid (put1 (x := .slice A3 L'.length c3) K3 B3 (by omega))
  have HO := Lib.hid (own_set own3 (g := w.heap.size + 1) (by omega) 0 (.slice A3 L'.length c3))
  clear K2 B2 K3 B3 own3 h3 HX
  go_wp2_with fail
  exact bodyPost_ret (v := .agg #[.slice A3 L'.length c3]) (results_cell_row Tryd.results20 _ _ _ _ _ _ _ rfl HKF.out.1 Tryd.underlying26 rfl (by kernel_rfl)) rfl ⟨A3, c3, rfl, own_down HO.out (by omega), HKF.out.2⟩

/-- the row of a struct's own, made by a closure out of a copy -/
def DoesOkJoin (q1 q2 : Value) (l L' : List Nat) (w : World) : Prop :=
  ∀ (b : Nat) (p : Addr) (n c : Nat) (u : World), w.heap.size ≤ b → b ≤ u.heap.size → Below w.heap.size w u → n ≤ c → Row u b p n c l → Calls Tryd.prog 30 #[.slice (some p) n c, q1, q2] u (Does b L' u)

set_option maxRecDepth 100000 in
set_option maxHeartbeats 4000000 in
theorem lchangedJoin_any {G : World → Prop} (hG : Steady G) (A : Option Addr) (n c : Nat) (l L' : List Nat) (q1 q2 : Value) (w : World) (hAt : PAt G w A n c l) (h1 : 1 ≤ n) (hdo : DoesOkJoin q1 q2 l L' w) :
    Calls Tryd.prog 20 #[.agg #[.slice A n c], .func (.func 30) #[] #[q1, q2]] w (GivesP L' w) := by
  have HL := Lib.hid hAt.len
  obtain ⟨ad, x0, rfl, _, _, _⟩ := uset_at hAt.1 (k := 0) (by omega)
  have HCl := Lib.hid (fun (u : World) (h : Below w.heap.size w u) => lclone_any ad n c l u (hAt.below hG h).1 hAt.2.2.1)
  obtain ⟨K1, K2, B⟩ := blks2 w 26 26 #[.slice (some ad) n c] #[.slice none 0 0]
  have k1 := K1.cell 0
  have HK := Lib.hid (And.intro K2 B)
  have HD := Lib.hid hdo
  have H1 := Lib.hid h1
  clear hAt hG hdo K1 K2 B h1
  go_enter Tryd.func20, Tryd.ntmps20
  go_wp2_with fail
  refine (HCl.out _ HK.out.2).mono ?_
  rintro e w2 ⟨A2, c2, rfl, own2, h2⟩
  rw [HL.out] at own2 ⊢
  have hp : ∃ p, A2 = some p ∧ n ≤ c2 := by
    obtain ⟨A3, c3, e3, hc, hr⟩ := own_reads own2
    injection e3 with e4 e5 e6
    subst e4 e6
    obtain ⟨ad4, _, e7, _, _, _⟩ := uset_at hr (k := 0) (by have := H1.out; omega)
    exact ⟨ad4, e7, hc⟩
  obtain ⟨p, rfl, hnc⟩ := hp
  have B2 := HK.out.2.trans (h2.mono HK.out.2.size)
  have K2 := HK.out.1.below h2 HK.out.1.lt
  have hsz : ((w.alloc (.cells #[.slice (some ad) n c] 26)).alloc (.cells #[.slice none 0 0] 26)).heap.size = w.heap.size + 1 + 1 := by simp
  have HX := Lib.hid (HD.out _ p n c2 w2 (by rw [hsz]; omega) h2.size B2 hnc (Row.of own2))
  rw [hsz] at HX
  have HS := Lib.hid (show w.heap.size + 1 + 1 ≤ w2.heap.size by rw [← hsz]; exact h2.size)
  clear own2 hnc h2 k1
  go_wp2_with fail
  refine HX.out.mono ?_
  rintro e w3 ⟨A3, c3, rfl, own3, h3⟩
  have K3 := K2.below h3 (by omega)
  have B3 := B2.trans (h3.mono (show w.heap.size ≤ w.heap.size + 1 + 1 by omega))
  have k3 := K3.cell 0
  have f3 := K3.frozen 0
  have HKF := Lib.hid (put1 (x := .slice A3 L'.length c3) K3 B3 (by omega))
  have HO := Lib.hid (own_set own3 (g := w.heap.size + 1) (by omega) 0 (.slice A3 L'.length c3))
  clear K2 B2 K3 B3 own3 h3 HX
  go_wp2_with fail
  exact bodyPost_ret (v := .agg #[.slice A3 L'.length c3]) (results_cell_row Tryd.results20 _ _ _ _ _ _ _ rfl HKF.out.1 Tryd.underlying26 rfl (by kernel_rfl)) rfl ⟨A3, c3, rfl, own_down HO.out (by omega), HKF.out.2⟩

/-- the row of a struct's own, made by a closure out of a copy -/
def DoesOkMove (q1 q2 q3 : Value) (l L' : List Nat) (w : World) : Prop :=
  ∀ (b : Nat) (p : Addr) (n c : Nat) (u : World), w.heap.size ≤ b → b ≤ u.heap.size → Below w.heap.size w u → n ≤ c → Row u b p n c l → Calls Tryd.prog 23 #[.slice (some p) n c, q1, q2, q3] u (Does b L' u)

set_option maxRecDepth 100000 in
set_option maxHeartbeats 4000000 in
theorem lchangedMove_any {G : World → Prop} (hG : Steady G) (A : Option Addr) (n c : Nat) (l L' : List Nat) (q1 q2 q3 : Value) (w : World) (hAt : PAt G w A n c l) (h1 : 1 ≤ n) (hdo : DoesOkMove q1 q2 q3 l L' w) :
    Calls Tryd.prog 20 #[.agg #[.slice A n c], .func (.func 23) #[] #[q1, q2, q3]] w (GivesP L' w) := by
  have HL := Lib.hid hAt.len
  obtain ⟨ad, x0, rfl, _, _, _⟩ := uset_at hAt.1 (k := 0) (by omega)
  have HCl := Lib.hid (fun (u : World) (h : Below w.heap.size w u) => lclone_any ad n c l u (hAt.below hG h).1 hAt.2.2.1)
  obtain ⟨K1, K2, B⟩ := blks2 w 26 26 #[.slice (some ad) n c] #[.slice none 0 0]
  have k1 := K1.cell 0
  have HK := Lib.hid (And.intro K2 B)
  have HD := Lib.hid hdo
  have H1 := Lib.hid h1
  clear hAt hG hdo K1 K2 B h1
  go_enter Tryd.func20, Tryd.ntmps20
  go_wp2_with fail
  refine (HCl.out _ HK.out.2).mono ?_
  rintro e w2 ⟨A2, c2, rfl, own2, h2⟩
  rw [HL.out] at own2 ⊢
  have hp : ∃ p, A2 = some p ∧ n ≤ c2 := by
    obtain ⟨A3, c3, e3, hc, hr⟩ := own_reads own2
    injection e3 with e4 e5 e6
    subst e4 e6
    obtain ⟨ad4, _, e7, _, _, _⟩ := uset_at hr (k := 0) (by have := H1.out; omega)
    exact ⟨ad4, e7, hc⟩
  obtain ⟨p, rfl, hnc⟩ := hp
  have B2 := HK.out.2.trans (h2.mono HK.out.2.size)
  have K2 := HK.out.1.below h2 HK.out.1.lt
  have hsz : ((w.alloc (.cells #[.slice (some ad) n c] 26)).alloc (.cells #[.slice none 0 0] 26)).heap.size = w.heap.size + 1 + 1 := by simp
  have HX := Lib.hid (HD.out _ p n c2 w2 (by rw [hsz]; omega) h2.size B2 hnc (Row.of own2))
  rw [hsz] at HX
  have HS := Lib.hid (show w.heap.size + 1 + 1 ≤ w2.heap.size by rw [← hsz]; exact h2.size)
  clear own2 hnc h2 k1
  go_wp2_with fail
  refine HX.out.mono ?_
  rintro e w3 ⟨A3, c3, rfl, own3, h3⟩
  have K3 := K2.below h3 (by omega)
  have B3 := B2.trans (h3.mono (show w.heap.size ≤ w.heap.size + 1 + 1 by omega))
  have k3 := K3.cell 0
  have f3 := K3.frozen 0
  have HKF := Lib.hid (put1 (x := .slice A3 L'.length c3) K3 B3 (by omega))
  have HO := Lib.hid (own_set own3 (g := w.heap.size + 1) (by omega) 0 (.slice A3 L'.length c3))
  clear K2 B2 K3 B3 own3 h3 HX
  go_wp2_with fail
  exact bodyPost_ret (v := .agg #[.slice A3 L'.length c3]) (results_cell_row Tryd.results20 _ _ _ _ _ _ _ rfl HKF.out.1 Tryd.underlying26 rfl (by kernel_rfl)) rfl ⟨A3, c3, rfl, own_down HO.out (by omega), HKF.out.2⟩

end Go.Proofs.YtnckfgnhlnichaaDoor
