/-
  The landed vtime: changed, once for each closure. No statement is proved here.
-/
import Derived.Test.YtfgabmelmopgdaaVd
import Derived.Test.YtfgabmelmopgdaaKg
namespace Go.Proofs.Ytfgabmelmopgdaa
open Go.RowKit

/-- what lies below B is as it was, but for one block -/
structure But (gm : Option Nat) (B : Nat) (w w' : World) : Prop where
  os : w'.os = w.os
  tape : w'.tape = w.tape
  output : w'.output = w.output
  size : w.heap.size ≤ w'.heap.size
  block : ∀ k, k < B → some k ≠ gm → w'.heap[k]? = w.heap[k]?
theorem below_but {B : Nat} {w w' : World} (h : Below B w w') (gm : Option Nat) : But gm B w w' := ⟨h.os, h.tape, h.output, h.size, fun k hk _ => h.block k hk⟩
theorem But.trans {gm : Option Nat} {B : Nat} {a b c : World} (h : But gm B a b) (k : But gm B b c) : But gm B a c := ⟨k.os.trans h.os, k.tape.trans h.tape, k.output.trans h.output, Nat.le_trans h.size k.size, fun i hi hn => (k.block i hi hn).trans (h.block i hi hn)⟩
theorem But.mono {gm : Option Nat} {B B' : Nat} {w w' : World} (h : But gm B w w') (hB : B' ≤ B) : But gm B' w w' := ⟨h.os, h.tape, h.output, h.size, fun k hk hn => h.block k (Nat.lt_of_lt_of_le hk hB) hn⟩
theorem But.below {gm : Option Nat} {B B' : Nat} {w w' : World} (h : But gm B w w') (hB : B' ≤ B) (hg : ∀ g, gm = some g → B' ≤ g) : Below B' w w' := ⟨h.os, h.tape, h.output, h.size, fun k hk => h.block k (Nat.lt_of_lt_of_le hk hB) (fun e => by have := hg k e.symm; omega)⟩
theorem But.blk {gm : Option Nat} {B g : Nat} {w w' : World} {t : TypeId} {cs : Array Value} (h : But gm B w w') (K : Blk w g t cs) (hg : g < B) (hn : some g ≠ gm) : Blk w' g t cs := (h.block g hg hn).trans K
theorem But.setCell {gm : Option Nat} {B : Nat} {a w : World} (h : But gm B a w) {p : Addr} (hp : gm = some p.block ∨ B ≤ p.block) (u : Value) : But gm B a (w.setCell p u) :=
  ⟨h.os, h.tape, h.output, by simpa [World.setCell] using h.size, fun k hk hn => (Below.heap_setCell w p u k (fun e => by subst e; rcases hp with hp | hp; exact hn hp.symm; omega)).trans (h.block k hk hn)⟩
theorem But.alloc {gm : Option Nat} {B : Nat} {a w : World} (h : But gm B a w) (hB : B ≤ w.heap.size) (o : Obj) : But gm B a (w.alloc o) := h.trans (below_but ((Below.refl B w).alloc hB o) gm)

/-- what a closure makes of a copy: a row of its own, or an error; one older block may have turned; X holds in the end -/
structure DoesR (gm : Option Nat) (b : Nat) (r : List Rn × Int) (X : World → Prop) (w : World) (e : Ending) (w' : World) : Prop where
  out : ∃ A n c, e = .returned (.tuple #[.slice A n c, .int .i64 r.2]) ∧ (r.2 = 0 → r.1.length = n ∧ w'.ownsRow b 40 5 (.slice A n c) n (flat rv r.1))
  but : But gm b w w'
  more : X w'
structure DoesQ (gm : Option Nat) (b : Nat) (r : List Rn × Int) (X : World → Prop) (w : World) (e : Ending) (w' : World) : Prop where
  out : ∃ A n c, e = .returned (.tuple #[.agg #[.slice A n c], .int .i64 r.2]) ∧ r.1.length = n ∧ w'.ownsRow b 40 5 (.slice A n c) n (flat rv r.1)
  but : But gm b w w'
  more : X w'
theorem putB1 {gm : Option Nat} {w w1 : World} {g b : Nat} {t : TypeId} {p x : Value} (K : Blk w1 g t #[p]) (B : But gm b w w1) (hg : b ≤ g) : Blk (w1.setCell ⟨g, 0, none⟩ x) g t #[x] ∧ But gm b w (w1.setCell ⟨g, 0, none⟩ x) := by
  refine ⟨?_, B.setCell (p := ⟨g, 0, none⟩) (.inr hg) x⟩
  have := K.set_ 0 x
  simpa using this

def DoOkLeave (q1 : Value) (gm : Option Nat) (qs : List Rn) (r : List Rn × Int) (X : World → Prop) (w : World) : Prop :=
  ∀ (b : Nat) (A : Option Addr) (n c : Nat) (u : World), w.heap.size ≤ b → b ≤ u.heap.size → Below w.heap.size w u → u.ownsRow b 40 5 (.slice A n c) n (flat rv qs) → Calls Try.prog 52 #[.slice A n c, q1] u (DoesR gm b r X u)

set_option maxRecDepth 100000 in
set_option maxHeartbeats 4000000 in
theorem changedLeave_any (A : Option Addr) (n c : Nat) (qs : List Rn) (q1 : Value) (gm : Option Nat) (r : List Rn × Int) (X : World → Prop) (w : World) (hG : QR w A n c qs) (hgm : ∀ g, gm = some g → g < w.heap.size) (h0 : r.2 ≠ 0 → r.1 = [])
    (hX : ∀ (u : World) (g i : Nat) (v : Value), w.heap.size ≤ g → g < w.heap.size + 2 → X u → X (u.setCell ⟨g, i, none⟩ v)) (hdo : DoOkLeave q1 gm qs r X w) :
    Calls Try.prog 51 #[.agg #[.slice A n c], .func (.func 52) #[] #[q1]] w (DoesQ gm w.heap.size r X w) := by
  have HCl := Lib.hid (fun (u : World) (h : Below w.heap.size w u) => rclone_any A n c qs u (hG.below h).row hG.small)
  have HD := Lib.hid hdo
  obtain ⟨K0, K, GB⟩ := blks2 w 26 26 #[.slice A n c] #[.slice none 0 0]
  have hz : w.heap.size + 1 + 1 ≤ ((w.alloc (.cells #[.slice A n c] 26)).alloc (.cells #[.slice none 0 0] 26)).heap.size := by simp
  obtain ⟨L, E⟩ := r
  by_cases he : E = 0
  · subst he
    clear h0 hG hdo
    go_enter Try.func51, Try.ntmps51
    have zK00 := K0.cell 0
    go_wp2_with fail
    refine (HCl.out _ GB).mono ?_
    rintro e w1 ⟨A1, c1, rfl, oo, h9⟩
    replace K0 := K0.below h9 K0.lt
    replace K := K.below h9 K.lt
    replace GB := GB.trans (h9.mono GB.size)
    replace oo := own_down oo hz
    replace hz := Nat.le_trans hz h9.size
    clear h9
    clear zK00
    go_wp2_with fail
    refine (HD.out _ _ _ _ _ (by omega) hz GB oo).mono ?_
    rintro e w2 hd
    obtain ⟨A3, n3, c3, rfl, ho⟩ := hd.out
    have KK := hd.but.blk K (by omega) (fun e => by have := hgm _ e.symm; omega)
    have BB := (below_but GB gm).trans (hd.but.mono (by omega))
    have HX := hd.more
    clear hd oo hz GB K K0
    have d0 := KK.cell 0
    have f0 := KK.frozen 0
    have HP := Lib.hid (putB1 (x := .slice A3 n3 c3) KK BB (by omega))
    clear KK BB
    have HO := Lib.hid (And.intro (ho rfl).1 (own_down (own_set (ho rfl).2 (g := w.heap.size + 1) (by omega) 0 (.slice A3 n3 c3)) (show w.heap.size ≤ w.heap.size + 1 + 1 by omega)))
    clear ho
    go_wp2_with fail
    exact bodyPost_ret (v := .tuple #[.agg #[.slice A3 n3 c3], .int .i64 0]) (results_cell_row_tmp Try.results51 _ _ _ _ _ _ rfl HP.out.1 Try.underlying26 rfl (by kernel_rfl)) rfl ⟨⟨_, _, _, rfl, HO.out.1, HO.out.2⟩, HP.out.2, hX _ _ _ _ (by omega) (by omega) HX⟩
  · have e0 : (E != 0) = true := by simpa using he
    obtain rfl : L = [] := h0 he
    clear h0 hG hdo he
    go_enter Try.func51, Try.ntmps51
    have zK00 := K0.cell 0
    go_wp2_with fail
    refine (HCl.out _ GB).mono ?_
    rintro e w1 ⟨A1, c1, rfl, oo, h9⟩
    replace K0 := K0.below h9 K0.lt
    replace K := K.below h9 K.lt
    replace GB := GB.trans (h9.mono GB.size)
    replace oo := own_down oo hz
    replace hz := Nat.le_trans hz h9.size
    clear h9
    clear zK00
    go_wp2_with fail
    refine (HD.out _ _ _ _ _ (by omega) hz GB oo).mono ?_
    rintro e w2 hd
    obtain ⟨A3, n3, c3, rfl, ho⟩ := hd.out
    have KK := hd.but.blk K (by omega) (fun e => by have := hgm _ e.symm; omega)
    have BB := (below_but GB gm).trans (hd.but.mono (by omega))
    have HX := hd.more
    clear hd oo hz GB K K0
    have d0 := KK.cell 0
    have f0 := KK.frozen 0
    have HP := Lib.hid (putB1 (x := .slice none 0 0) KK BB (by omega))
    clear KK BB
    have HO : Hid (([] : List Rn).length = 0 ∧ (w2.setCell ⟨w.heap.size + 1, 0, none⟩ (.slice none 0 0)).ownsRow w.heap.size 40 5 (.slice none 0 0) 0 (flat rv [])) := Lib.hid ⟨rfl, World.ownsRow_nil _ _ _ _⟩
    clear ho
    go_wp2_with fail
    exact bodyPost_ret (v := .tuple #[.agg #[.slice none 0 0], .int .i64 E]) (results_cell_row_tmp Try.results51 _ _ _ _ _ _ rfl HP.out.1 Try.underlying26 rfl (by kernel_rfl)) rfl ⟨⟨_, _, _, rfl, HO.out.1, HO.out.2⟩, HP.out.2, hX _ _ _ _ (by omega) (by omega) HX⟩

def DoOkAdd (q1 q2 q3 q4 : Value) (gm : Option Nat) (qs : List Rn) (r : List Rn × Int) (X : World → Prop) (w : World) : Prop :=
  ∀ (b : Nat) (A : Option Addr) (n c : Nat) (u : World), w.heap.size ≤ b → b ≤ u.heap.size → Below w.heap.size w u → u.ownsRow b 40 5 (.slice A n c) n (flat rv qs) → Calls Try.prog 78 #[.slice A n c, q1, q2, q3, q4] u (DoesR gm b r X u)

set_option maxRecDepth 100000 in
set_option maxHeartbeats 4000000 in
theorem changedAdd_any (A : Option Addr) (n c : Nat) (qs : List Rn) (q1 q2 q3 q4 : Value) (gm : Option Nat) (r : List Rn × Int) (X : World → Prop) (w : World) (hG : QR w A n c qs) (hgm : ∀ g, gm = some g → g < w.heap.size) (h0 : r.2 ≠ 0 → r.1 = [])
    (hX : ∀ (u : World) (g i : Nat) (v : Value), w.heap.size ≤ g → g < w.heap.size + 2 → X u → X (u.setCell ⟨g, i, none⟩ v)) (hdo : DoOkAdd q1 q2 q3 q4 gm qs r X w) :
    Calls Try.prog 51 #[.agg #[.slice A n c], .func (.func 78) #[] #[q1, q2, q3, q4]] w (DoesQ gm w.heap.size r X w) := by
  have HCl := Lib.hid (fun (u : World) (h : Below w.heap.size w u) => rclone_any A n c qs u (hG.below h).row hG.small)
  have HD := Lib.hid hdo
  obtain ⟨K0, K, GB⟩ := blks2 w 26 26 #[.slice A n c] #[.slice none 0 0]
  have hz : w.heap.size + 1 + 1 ≤ ((w.alloc (.cells #[.slice A n c] 26)).alloc (.cells #[.slice none 0 0] 26)).heap.size := by simp
  obtain ⟨L, E⟩ := r
  by_cases he : E = 0
  · subst he
    clear h0 hG hdo
    go_enter Try.func51, Try.ntmps51
    have zK00 := K0.cell 0
    go_wp2_with fail
    refine (HCl.out _ GB).mono ?_
    rintro e w1 ⟨A1, c1, rfl, oo, h9⟩
    replace K0 := K0.below h9 K0.lt
    replace K := K.below h9 K.lt
    replace GB := GB.trans (h9.mono GB.size)
    replace oo := own_down oo hz
    replace hz := Nat.le_trans hz h9.size
    clear h9
    clear zK00
    go_wp2_with fail
    refine (HD.out _ _ _ _ _ (by omega) hz GB oo).mono ?_
    rintro e w2 hd
    obtain ⟨A3, n3, c3, rfl, ho⟩ := hd.out
    have KK := hd.but.blk K (by omega) (fun e => by have := hgm _ e.symm; omega)
    have BB := (below_but GB gm).trans (hd.but.mono (by omega))
    have HX := hd.more
    clear hd oo hz GB K K0
    have d0 := KK.cell 0
    have f0 := KK.frozen 0
    have HP := Lib.hid (putB1 (x := .slice A3 n3 c3) KK BB (by omega))
    clear KK BB
    have HO := Lib.hid (And.intro (ho rfl).1 (own_down (own_set (ho rfl).2 (g := w.heap.size + 1) (by omega) 0 (.slice A3 n3 c3)) (show w.heap.size ≤ w.heap.size + 1 + 1 by omega)))
    clear ho
    go_wp2_with fail
    exact bodyPost_ret (v := .tuple #[.agg #[.slice A3 n3 c3], .int .i64 0]) (results_cell_row_tmp Try.results51 _ _ _ _ _ _ rfl HP.out.1 Try.underlying26 rfl (by kernel_rfl)) rfl ⟨⟨_, _, _, rfl, HO.out.1, HO.out.2⟩, HP.out.2, hX _ _ _ _ (by omega) (by omega) HX⟩
  · have e0 : (E != 0) = true := by simpa using he
    obtain rfl : L = [] := h0 he
    clear h0 hG hdo he
    go_enter Try.func51, Try.ntmps51
    have zK00 := K0.cell 0
    go_wp2_with fail
    refine (HCl.out _ GB).mono ?_
    rintro e w1 ⟨A1, c1, rfl, oo, h9⟩
    replace K0 := K0.below h9 K0.lt
    replace K := K.below h9 K.lt
    replace GB := GB.trans (h9.mono GB.size)
    replace oo := own_down oo hz
    replace hz := Nat.le_trans hz h9.size
    clear h9
    clear zK00
    go_wp2_with fail
    refine (HD.out _ _ _ _ _ (by omega) hz GB oo).mono ?_
    rintro e w2 hd
    obtain ⟨A3, n3, c3, rfl, ho⟩ := hd.out
    have KK := hd.but.blk K (by omega) (fun e => by have := hgm _ e.symm; omega)
    have BB := (below_but GB gm).trans (hd.but.mono (by omega))
    have HX := hd.more
    clear hd oo hz GB K K0
    have d0 := KK.cell 0
    have f0 := KK.frozen 0
    have HP := Lib.hid (putB1 (x := .slice none 0 0) KK BB (by omega))
    clear KK BB
    have HO : Hid (([] : List Rn).length = 0 ∧ (w2.setCell ⟨w.heap.size + 1, 0, none⟩ (.slice none 0 0)).ownsRow w.heap.size 40 5 (.slice none 0 0) 0 (flat rv [])) := Lib.hid ⟨rfl, World.ownsRow_nil _ _ _ _⟩
    clear ho
    go_wp2_with fail
    exact bodyPost_ret (v := .tuple #[.agg #[.slice none 0 0], .int .i64 E]) (results_cell_row_tmp Try.results51 _ _ _ _ _ _ rfl HP.out.1 Try.underlying26 rfl (by kernel_rfl)) rfl ⟨⟨_, _, _, rfl, HO.out.1, HO.out.2⟩, HP.out.2, hX _ _ _ _ (by omega) (by omega) HX⟩

def DoOkEach (q1 q2 : Value) (gm : Option Nat) (qs : List Rn) (r : List Rn × Int) (X : World → Prop) (w : World) : Prop :=
  ∀ (b : Nat) (A : Option Addr) (n c : Nat) (u : World), w.heap.size ≤ b → b ≤ u.heap.size → Below w.heap.size w u → u.ownsRow b 40 5 (.slice A n c) n (flat rv qs) → Calls Try.prog 87 #[.slice A n c, q1, q2] u (DoesR gm b r X u)

set_option maxRecDepth 100000 in
set_option maxHeartbeats 4000000 in
theorem changedEach_any (A : Option Addr) (n c : Nat) (qs : List Rn) (q1 q2 : Value) (gm : Option Nat) (r : List Rn × Int) (X : World → Prop) (w : World) (hG : QR w A n c qs) (hgm : ∀ g, gm = some g → g < w.heap.size) (h0 : r.2 ≠ 0 → r.1 = [])
    (hX : ∀ (u : World) (g i : Nat) (v : Value), w.heap.size ≤ g → g < w.heap.size + 2 → X u → X (u.setCell ⟨g, i, none⟩ v)) (hdo : DoOkEach q1 q2 gm qs r X w) :
    Calls Try.prog 51 #[.agg #[.slice A n c], .func (.func 87) #[] #[q1, q2]] w (DoesQ gm w.heap.size r X w) := by
  have HCl := Lib.hid (fun (u : World) (h : Below w.heap.size w u) => rclone_any A n c qs u (hG.below h).row hG.small)
  have HD := Lib.hid hdo
  obtain ⟨K0, K, GB⟩ := blks2 w 26 26 #[.slice A n c] #[.slice none 0 0]
  have hz : w.heap.size + 1 + 1 ≤ ((w.alloc (.cells #[.slice A n c] 26)).alloc (.cells #[.slice none 0 0] 26)).heap.size := by simp
  obtain ⟨L, E⟩ := r
  by_cases he : E = 0
  · subst he
    clear h0 hG hdo
    go_enter Try.func51, Try.ntmps51
    have zK00 := K0.cell 0
    go_wp2_with fail
    refine (HCl.out _ GB).mono ?_
    rintro e w1 ⟨A1, c1, rfl, oo, h9⟩
    replace K0 := K0.below h9 K0.lt
    replace K := K.below h9 K.lt
    replace GB := GB.trans (h9.mono GB.size)
    replace oo := own_down oo hz
    replace hz := Nat.le_trans hz h9.size
    clear h9
    clear zK00
    go_wp2_with fail
    refine (HD.out _ _ _ _ _ (by omega) hz GB oo).mono ?_
    rintro e w2 hd
    obtain ⟨A3, n3, c3, rfl, ho⟩ := hd.out
    have KK := hd.but.blk K (by omega) (fun e => by have := hgm _ e.symm; omega)
    have BB := (below_but GB gm).trans (hd.but.mono (by omega))
    have HX := hd.more
    clear hd oo hz GB K K0
    have d0 := KK.cell 0
    have f0 := KK.frozen 0
    have HP := Lib.hid (putB1 (x := .slice A3 n3 c3) KK BB (by omega))
    clear KK BB
    have HO := Lib.hid (And.intro (ho rfl).1 (own_down (own_set (ho rfl).2 (g := w.heap.size + 1) (by omega) 0 (.slice A3 n3 c3)) (show w.heap.size ≤ w.heap.size + 1 + 1 by omega)))
    clear ho
    go_wp2_with fail
    exact bodyPost_ret (v := .tuple #[.agg #[.slice A3 n3 c3], .int .i64 0]) (results_cell_row_tmp Try.results51 _ _ _ _ _ _ rfl HP.out.1 Try.underlying26 rfl (by kernel_rfl)) rfl ⟨⟨_, _, _, rfl, HO.out.1, HO.out.2⟩, HP.out.2, hX _ _ _ _ (by omega) (by omega) HX⟩
  · have e0 : (E != 0) = true := by simpa using he
    obtain rfl : L = [] := h0 he
    clear h0 hG hdo he
    go_enter Try.func51, Try.ntmps51
    have zK00 := K0.cell 0
    go_wp2_with fail
    refine (HCl.out _ GB).mono ?_
    rintro e w1 ⟨A1, c1, rfl, oo, h9⟩
    replace K0 := K0.below h9 K0.lt
    replace K := K.below h9 K.lt
    replace GB := GB.trans (h9.mono GB.size)
    replace oo := own_down oo hz
    replace hz := Nat.le_trans hz h9.size
    clear h9
    clear zK00
    go_wp2_with fail
    refine (HD.out _ _ _ _ _ (by omega) hz GB oo).mono ?_
    rintro e w2 hd
    obtain ⟨A3, n3, c3, rfl, ho⟩ := hd.out
    have KK := hd.but.blk K (by omega) (fun e => by have := hgm _ e.symm; omega)
    have BB := (below_but GB gm).trans (hd.but.mono (by omega))
    have HX := hd.more
    clear hd oo hz GB K K0
    have d0 := KK.cell 0
    have f0 := KK.frozen 0
    have HP := Lib.hid (putB1 (x := .slice none 0 0) KK BB (by omega))
    clear KK BB
    have HO : Hid (([] : List Rn).length = 0 ∧ (w2.setCell ⟨w.heap.size + 1, 0, none⟩ (.slice none 0 0)).ownsRow w.heap.size 40 5 (.slice none 0 0) 0 (flat rv [])) := Lib.hid ⟨rfl, World.ownsRow_nil _ _ _ _⟩
    clear ho
    go_wp2_with fail
    exact bodyPost_ret (v := .tuple #[.agg #[.slice none 0 0], .int .i64 E]) (results_cell_row_tmp Try.results51 _ _ _ _ _ _ rfl HP.out.1 Try.underlying26 rfl (by kernel_rfl)) rfl ⟨⟨_, _, _, rfl, HO.out.1, HO.out.2⟩, HP.out.2, hX _ _ _ _ (by omega) (by omega) HX⟩

def DoOkClip (q1 q2 : Value) (gm : Option Nat) (qs : List Rn) (r : List Rn × Int) (X : World → Prop) (w : World) : Prop :=
  ∀ (b : Nat) (A : Option Addr) (n c : Nat) (u : World), w.heap.size ≤ b → b ≤ u.heap.size → Below w.heap.size w u → u.ownsRow b 40 5 (.slice A n c) n (flat rv qs) → Calls Try.prog 54 #[.slice A n c, q1, q2] u (DoesR gm b r X u)

set_option maxRecDepth 100000 in
set_option maxHeartbeats 4000000 in
theorem changedClip_any (A : Option Addr) (n c : Nat) (qs : List Rn) (q1 q2 : Value) (gm : Option Nat) (r : List Rn × Int) (X : World → Prop) (w : World) (hG : QR w A n c qs) (hgm : ∀ g, gm = some g → g < w.heap.size) (h0 : r.2 ≠ 0 → r.1 = [])
    (hX : ∀ (u : World) (g i : Nat) (v : Value), w.heap.size ≤ g → g < w.heap.size + 2 → X u → X (u.setCell ⟨g, i, none⟩ v)) (hdo : DoOkClip q1 q2 gm qs r X w) :
    Calls Try.prog 51 #[.agg #[.slice A n c], .func (.func 54) #[] #[q1, q2]] w (DoesQ gm w.heap.size r X w) := by
  have HCl := Lib.hid (fun (u : World) (h : Below w.heap.size w u) => rclone_any A n c qs u (hG.below h).row hG.small)
  have HD := Lib.hid hdo
  obtain ⟨K0, K, GB⟩ := blks2 w 26 26 #[.slice A n c] #[.slice none 0 0]
  have hz : w.heap.size + 1 + 1 ≤ ((w.alloc (.cells #[.slice A n c] 26)).alloc (.cells #[.slice none 0 0] 26)).heap.size := by simp
  obtain ⟨L, E⟩ := r
  by_cases he : E = 0
  · subst he
    clear h0 hG hdo
    go_enter Try.func51, Try.ntmps51
    have zK00 := K0.cell 0
    go_wp2_with fail
    refine (HCl.out _ GB).mono ?_
    rintro e w1 ⟨A1, c1, rfl, oo, h9⟩
    replace K0 := K0.below h9 K0.lt
    replace K := K.below h9 K.lt
    replace GB := GB.trans (h9.mono GB.size)
    replace oo := own_down oo hz
    replace hz := Nat.le_trans hz h9.size
    clear h9
    clear zK00
    go_wp2_with fail
    refine (HD.out _ _ _ _ _ (by omega) hz GB oo).mono ?_
    rintro e w2 hd
    obtain ⟨A3, n3, c3, rfl, ho⟩ := hd.out
    have KK := hd.but.blk K (by omega) (fun e => by have := hgm _ e.symm; omega)
    have BB := (below_but GB gm).trans (hd.but.mono (by omega))
    have HX := hd.more
    clear hd oo hz GB K K0
    have d0 := KK.cell 0
    have f0 := KK.frozen 0
    have HP := Lib.hid (putB1 (x := .slice A3 n3 c3) KK BB (by omega))
    clear KK BB
    have HO := Lib.hid (And.intro (ho rfl).1 (own_down (own_set (ho rfl).2 (g := w.heap.size + 1) (by omega) 0 (.slice A3 n3 c3)) (show w.heap.size ≤ w.heap.size + 1 + 1 by omega)))
    clear ho
    go_wp2_with fail
    exact bodyPost_ret (v := .tuple #[.agg #[.slice A3 n3 c3], .int .i64 0]) (results_cell_row_tmp Try.results51 _ _ _ _ _ _ rfl HP.out.1 Try.underlying26 rfl (by kernel_rfl)) rfl ⟨⟨_, _, _, rfl, HO.out.1, HO.out.2⟩, HP.out.2, hX _ _ _ _ (by omega) (by omega) HX⟩
  · have e0 : (E != 0) = true := by simpa using he
    obtain rfl : L = [] := h0 he
    clear h0 hG hdo he
    go_enter Try.func51, Try.ntmps51
    have zK00 := K0.cell 0
    go_wp2_with fail
    refine (HCl.out _ GB).mono ?_
    rintro e w1 ⟨A1, c1, rfl, oo, h9⟩
    replace K0 := K0.below h9 K0.lt
    replace K := K.below h9 K.lt
    replace GB := GB.trans (h9.mono GB.size)
    replace oo := own_down oo hz
    replace hz := Nat.le_trans hz h9.size
    clear h9
    clear zK00
    go_wp2_with fail
    refine (HD.out _ _ _ _ _ (by omega) hz GB oo).mono ?_
    rintro e w2 hd
    obtain ⟨A3, n3, c3, rfl, ho⟩ := hd.out
    have KK := hd.but.blk K (by omega) (fun e => by have := hgm _ e.symm; omega)
    have BB := (below_but GB gm).trans (hd.but.mono (by omega))
    have HX := hd.more
    clear hd oo hz GB K K0
    have d0 := KK.cell 0
    have f0 := KK.frozen 0
    have HP := Lib.hid (putB1 (x := .slice none 0 0) KK BB (by omega))
    clear KK BB
    have HO : Hid (([] : List Rn).length = 0 ∧ (w2.setCell ⟨w.heap.size + 1, 0, none⟩ (.slice none 0 0)).ownsRow w.heap.size 40 5 (.slice none 0 0) 0 (flat rv [])) := Lib.hid ⟨rfl, World.ownsRow_nil _ _ _ _⟩
    clear ho
    go_wp2_with fail
    exact bodyPost_ret (v := .tuple #[.agg #[.slice none 0 0], .int .i64 E]) (results_cell_row_tmp Try.results51 _ _ _ _ _ _ rfl HP.out.1 Try.underlying26 rfl (by kernel_rfl)) rfl ⟨⟨_, _, _, rfl, HO.out.1, HO.out.2⟩, HP.out.2, hX _ _ _ _ (by omega) (by omega) HX⟩

end Go.Proofs.Ytfgabmelmopgdaa
