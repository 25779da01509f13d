/-
  The contracts of the landed topo: gather, All, Socket, Siblings. No statement is proved here.
-/
import Derived.Test.YtfalkiinlkfanaaLw
namespace Go.Proofs.Ytfalkiinlkfanaa
open Go.RowKit Go.Shelf

attribute [local go_sem] Oper.semAt_some

/-- a set of what is told -/
def gathV (l : List Int) : Int := l.foldl (fun s x => (withV s x).1) 0
theorem gath_next (l : List Int) (x : Int) : gathV (l ++ [x]) = (withV (gathV l) x).1 := by unfold gathV; rw [List.foldl_append]; rfl
theorem with_bound {s x : Int} (h : 0 ≤ s) : 0 ≤ (withV s x).1 ∧ (withV s x).1 < 4294967296 := by
  unfold withV
  split
  · split
    · split
      · exact ⟨Int.le_refl _, by decide⟩
      · rename_i h1 h2 h3
        obtain ⟨c0, c1⟩ := cpuB_true h2
        have := two_le8 (n := x.toNat) (by omega)
        have := two_pos x.toNat
        show 0 ≤ s + 2 ^ x.toNat ∧ s + 2 ^ x.toNat < 4294967296
        omega
    · exact ⟨Int.le_refl _, by decide⟩
  · exact ⟨Int.le_refl _, by decide⟩
theorem fold_bound (l : List Int) : ∀ s : Int, 0 ≤ s ∧ s < 4294967296 → 0 ≤ l.foldl (fun s x => (withV s x).1) s ∧ l.foldl (fun s x => (withV s x).1) s < 4294967296 := by
  induction l with
  | nil => exact fun s h => h
  | cons x l ih => exact fun s h => ih _ (with_bound h.1)
theorem gath_bound (l : List Int) : 0 ≤ gathV l ∧ gathV l < 4294967296 := fold_bound l 0 ⟨Int.le_refl _, by decide⟩
theorem gath_told (P : Nat → Bool) {n : Nat} (hn : n ≤ 8) : gathV (toldL P n) = (setN P n : Int) := by
  induction n with
  | zero => rfl
  | succ n ih =>
    have ih := ih (by omega)
    cases hp : P n with
    | false => rw [told_no hp, setN, if_neg (by rw [hp]; exact Bool.false_ne_true), ih]; rfl
    | true =>
      have h1 : (setN P n : Int) < 256 := by have := setN_small P (n := n) (by omega); omega
      have h2 : hasB (setN P n : Int) (n : Int) = false := by rw [has_bit (by omega), setN_bit]; simp
      rw [told_yes hp, gath_next, ih, setN, if_pos hp]
      unfold withV
      rw [if_pos h1, if_pos (cpuB_yes (by omega) (by omega)), if_neg (by rw [h2]; exact Bool.false_ne_true), Int.toNat_natCast]
      push_cast
      rfl

set_option maxRecDepth 100000 in
set_option maxHeartbeats 2000000 in
theorem gather_any (Bt Bh : Nat) (L : List Int) (w : World)
    (hs : SeqStopsK Fence.wide 4 Try.prog 65 #[.pointer (some ⟨Bt, 0, none⟩), .pointer (some ⟨Bh, 0, none⟩)] (fun x : Int => #[Value.int .i64 x]) (Below w.heap.size) (fun ys => ys = L) (fun pre => pre <+: L) L.length w) :
    Calls Try.prog 41 #[.func (.func 65) #[] #[.pointer (some ⟨Bt, 0, none⟩), .pointer (some ⟨Bh, 0, none⟩)]] w (Said (.int .u32 (gathV L)) w) := by
  have HW := Lib.hid (fun (s x : Int) (h : 0 ≤ s ∧ s < 4294967296) u => with_any s x u h.1 h.2)
  refine (callsIn_wide (n := 5)).1 ?_
  refine callsIn_of_wp_marks Try.func41 rfl trivial ?_ rfl
  simp only [Try.ntmps41, List.size_toArray, List.length_cons, List.length_nil, Nat.reduceAdd, Nat.reduceSub, Array.replicate_succ, Array.replicate_zero, List.push_toArray, List.append_toArray, List.nil_append, List.cons_append]
  gi_wp2
  have bS := Blk.new w 34 #[.int .u32 0]
  have hB0 : Below w.heap.size w (w.alloc (.cells #[.int .u32 0] 34)) := (Below.refl _ w).alloc (Nat.le_refl _) _
  refine wpIn_rangeFunc_ownG rfl (by decide) (gf := 65) (lb := #[.pointer (some ⟨Bt, 0, none⟩), .pointer (some ⟨Bh, 0, none⟩)]) rfl trivial (enters_of Try.func65 (by kernel_rfl) rfl)
    hs belowK_t (belowK_b (by simp)) hB0 (fun _ => rfl)
    (fun pre W => (W.cell? ⟨w.heap.size, 0, none⟩ = some (.int .u32 (gathV pre)) ∧ W.frozen? ⟨w.heap.size, 0, none⟩ = false) ∧ Below w.heap.size w W)
    (fun _ _ _ => False)
    (OwnFrom.and (Own.from (fun s A B row hs hg hr => ⟨cell_kept hs.1 hg hr, (frozen_kept hs.1 hg hr).trans hs.2⟩) _) (ownFrom_below (Nat.le_refl _) (by simp)))
    (fun _ _ _ _ _ hs _ _ => hs)
    ⟨⟨bS.cell 0, bS.frozen 0⟩, hB0⟩
    (fun x => { tmps := #[.func (.func 65) #[] #[.pointer (some ⟨Bt, 0, none⟩), .pointer (some ⟨Bh, 0, none⟩)], undef, .int .u32 0, .pointer (some ⟨w.heap.size, 0, none⟩), .int .i64 x, .func (.func 65) #[] #[.pointer (some ⟨Bt, 0, none⟩), .pointer (some ⟨Bh, 0, none⟩)], .int .i64 x, undef, undef, undef, undef, undef, undef, undef], defers := [] }) ?assign ?body ?done ?stop
  case assign =>
    intro l x W K hK
    gi_wp2
    exact hK
  case body =>
    rintro l pre x W ⟨⟨hc, hf⟩, hB⟩ _
    have HX := Lib.hid (HW.out (gathV pre) x (gath_bound pre))
    have HE := Lib.hid (gath_next pre x)
    generalize gathV pre = s at *
    gi_wp2_with (refine ⟨trivial, ?_⟩; gi_at_call 64; refine (callsIn_wide.2 (HX.out _)).mono ?_; rintro e w' ⟨rfl, rfl⟩)
    refine ⟨(KeepsOthers.setCell _ _ _).from _, (Below.refl _ _).setCell (p := ⟨w.heap.size, 0, none⟩) (by simp) _, ⟨?_, ?_⟩, hB.setCell (p := ⟨w.heap.size, 0, none⟩) (by simp) _⟩
    · rw [HE.out]
      exact World.cell?_setCell_same' _ _ _ (by rw [hc]; rfl)
    · rw [World.frozen?_setCell]; exact hf
  case done =>
    rintro D ys W hD rfl ⟨⟨hc, hf⟩, hB⟩ hK
    gi_wp2
    refine ⟨by simp, .inl ⟨_, _, rfl, run_takeDeferred hK, ?_⟩⟩
    exact ⟨_, results_tmp rfl _ _ _, rfl, hB.trans (belowK_b (w := w) (Nat.le_refl _) W D _ _ (by simp at hD; omega) hK rfl rfl)⟩
  case stop =>
    rintro D c pre W _ _ h _
    exact h.elim

theorem where_sets {l : List (Int × Int)} {n : Nat} (hl : l.length = n) (P : Nat → Bool) : gathV (whereL l P n) = ((if rightT l = true then setN P l.length else 0 : Nat) : Int) := by
  unfold whereL
  cases hr : rightT l with
  | true =>
    subst hl
    rw [if_pos rfl, if_pos rfl]
    exact gath_told P (right_parts hr).2.2
  | false => rfl

set_option maxRecDepth 100000 in
set_option maxHeartbeats 1000000 in
theorem where_any (A : Option Addr) (n c hf : Nat) (caps : Array Value) (w : World) : Calls Try.prog 42 #[.agg #[.slice A n c], .func (.func hf) #[] caps] w fun e w' =>
    e = .returned (.func (.func 65) #[] #[.pointer (some ⟨w.heap.size, 0, none⟩), .pointer (some ⟨w.heap.size + 1, 0, none⟩)]) ∧ w' = (w.alloc (.cells #[.slice A n c] 27)).alloc (.cells #[.func (.func hf) #[] caps] 82) := by
  go_enter Try.func42, Try.ntmps42
  go_wp2
  go_ret
  exact ⟨rfl, rfl⟩

set_option maxRecDepth 100000 in
set_option maxHeartbeats 1000000 in
theorem all1_any (k : Int) (w : World) : Calls Try.prog 43 #[.int .i64 k] w (Said (.bool true) w) := by
  go_enter Try.func43, Try.ntmps43
  go_wp2
  go_ret
  exact ⟨rfl, Below.refl _ _⟩

set_option maxRecDepth 100000 in
set_option maxHeartbeats 1000000 in
theorem sock1_any (Bt Bx : Nat) (A : Option Addr) (m c : Nat) (ls : List (Int × Int)) (s : Int) (k : Nat) (w : World) (K1 : Blk w Bt 27 #[.slice A m c]) (K2 : Blk w Bx 3 #[.int .i64 s]) (hAt : At w A m c ls) (hk : k < m) :
    Calls Try.prog 44 #[.int .i64 (k : Int), .pointer (some ⟨Bt, 0, none⟩), .pointer (some ⟨Bx, 0, none⟩)] w (Said (.bool ((st ls k).1 == s)) w) := by
  obtain ⟨⟨x, y⟩, hm⟩ := elem_at (l := ls) (k := k) (by rw [hAt.len]; exact hk)
  rw [st_at hm]
  obtain ⟨ad, rfl, hb, c0, c1⟩ := seat_at hAt.1 hm
  have k1 := K1.cell 0
  have k2 := K2.cell 0
  have i1 : (0 : Int) ≤ (k : Int) := by omega
  have i2 : (k : Int) < (m : Int) := by omega
  clear hm hb hAt K1 K2 hk
  go_enter Try.func44, Try.ntmps44
  go_wp2_with fail
  go_quiet (fail)
  go_wp2
  go_ret
  exact ⟨rfl, below_drewN (Below.refl _ _) _⟩

set_option maxRecDepth 100000 in
set_option maxHeartbeats 2000000 in
theorem sib1_any (Bt Bx : Nat) (A : Option Addr) (m c : Nat) (ls : List (Int × Int)) (j k : Nat) (w : World) (K1 : Blk w Bt 27 #[.slice A m c]) (K2 : Blk w Bx 3 #[.int .i64 (j : Int)]) (hAt : At w A m c ls) (hk : k < m) (hj : j < m) :
    Calls Try.prog 46 #[.int .i64 (k : Int), .pointer (some ⟨Bt, 0, none⟩), .pointer (some ⟨Bx, 0, none⟩)] w (Said (.bool (st ls k == st ls j)) w) := by
  obtain ⟨⟨x, y⟩, hm⟩ := elem_at (l := ls) (k := k) (by rw [hAt.len]; exact hk)
  obtain ⟨⟨p, q⟩, hm'⟩ := elem_at (l := ls) (k := j) (by rw [hAt.len]; exact hj)
  rw [st_at hm, st_at hm']
  obtain ⟨ad, rfl, hb, c0, c1⟩ := seat_at hAt.1 hm
  obtain ⟨ad', e, hb', d0, d1⟩ := seat_at hAt.1 hm'
  obtain rfl := Option.some.inj e
  have k1 := K1.cell 0
  have k2 := K2.cell 0
  have i1 : (0 : Int) ≤ (k : Int) := by omega
  have i2 : (k : Int) < (m : Int) := by omega
  have i3 : (0 : Int) ≤ (j : Int) := by omega
  have i4 : (j : Int) < (m : Int) := by omega
  clear hm hm' hb hb' e hAt K1 K2 hk hj
  by_cases hs : x = p
  · subst hs
    by_cases hy : y = q
    · subst hy
      rw [show ((x, y) == (x, y)) = true by simp]
      go_enter Try.func46, Try.ntmps46
      go_wp2_with fail
      go_quiet (fail)
      go_wp2
      go_ret
      exact ⟨rfl, below_drewN (Below.refl _ _) _⟩
    · have g2 : (y == q) = false := by simpa using hy
      rw [show ((x, y) == (x, q)) = false by simp [hy]]
      clear hy
      go_enter Try.func46, Try.ntmps46
      go_wp2_with fail
      go_quiet (fail)
      go_wp2
      go_ret
      exact ⟨rfl, below_drewN (Below.refl _ _) _⟩
  · have g2 : (x == p) = false := by simpa using hs
    rw [show ((x, y) == (p, q)) = false by simp [hs]]
    clear hs
    go_enter Try.func46, Try.ntmps46
    go_wp2_with fail
    go_quiet (fail)
    go_wp2
    go_ret
    exact ⟨rfl, below_drewN (Below.refl _ _) _⟩

set_option maxRecDepth 100000 in
set_option maxHeartbeats 2000000 in
theorem tall_ok : TAllOk := by
  intro A n c l w hAt
  have hv := where_sets hAt.len (fun _ => true)
  have hw : allV l = if rightT l = true then setN (fun _ => true) l.length else 0 := rfl
  rw [← hw] at hv
  rw [← hv]
  obtain ⟨_, K2, K3, B⟩ := blks3 w 27 27 82 #[.slice A n c] #[.slice A n c] #[.func (.func 43) #[] #[]]
  have HG := Lib.hid (gather_any (w.heap.size + 1) (w.heap.size + 1 + 1) _ _ (toldAll_stops 4 (by decide) _ _ A n c l (fun _ => true) _ _ K2 K3 (hAt.past B (Nat.le_refl _)) (fun _ k _ u _ => all1_any (k : Int) u)))
  have HW := Lib.hid (fun u => where_any A n c 43 #[] u)
  have HB := Lib.hid B
  clear hv hw K2 K3 B hAt
  generalize gathV (whereL l (fun _ => true) n) = g at *
  go_enter Try.func16, Try.ntmps16
  go_wp2_with fail
  refine (HW.out _).mono ?_
  rintro e w1 ⟨rfl, rfl⟩
  go_wp2_with fail
  refine HG.out.mono ?_
  rintro e w2 ⟨rfl, h2⟩
  have B2 := Lib.hid (HB.out.trans (h2.mono HB.out.size))
  clear h2
  go_wp2
  go_ret
  exact ⟨rfl, B2.out⟩

end Go.Proofs.Ytfalkiinlkfanaa
