/-
  Several texts as one.
-/
import Derived.Test.YtngbamoffjlodaaZMo
import Derived.Test.YtngbamoffjlodaaZVd
/-
  The statements' over, plain, and wakes. No statement is proved here.
-/
namespace Go.Proofs.Ytngbamoffjlodaa
open Go.RowKit Go.Maps

set_option maxRecDepth 100000 in
set_option maxHeartbeats 1000000 in
theorem over_lit (a b : Nat) (w : World) : Calls Try.prog 57 #[.int .u64 (a : Int), .int .u64 (b : Int)] w (Said (.agg #[.int .u64 0, .int .u64 (a : Int), .int .u64 (b : Int)]) w) := by
  have K := Blk.new w 45 #[.int .u64 0, .int .u64 (a : Int), .int .u64 (b : Int)]
  have GB := (Below.refl w.heap.size w).alloc (Nat.le_refl _) (.cells #[.int .u64 0, .int .u64 (a : Int), .int .u64 (b : Int)] 45)
  have HP := Lib.hid (And.intro K GB)
  clear K GB
  go_enter Try.func57, Try.ntmps57
  go_wp2_with fail
  exact bodyPost_ret (v := .agg #[.int .u64 0, .int .u64 (a : Int), .int .u64 (b : Int)]) (results_cell_row Try.results57 _ _ _ _ _ _ _ rfl HP.out.1 Try.underlying45 rfl (by kernel_rfl)) rfl ⟨rfl, HP.out.2⟩

theorem reads_blk {w : World} {g : Nat} {t : TypeId} {cs : Array Value} (h : Blk w g t cs) {xs : List Value} (hx : cs.toList = xs) {n k : Nat} (hl : xs.length = n * k) : Reads w w.heap.size k (some ⟨g, 0, none⟩) n xs := by
  refine ⟨hl, fun _ => ⟨_, rfl, h.lt, fun j u hj => ?_⟩⟩
  rw [Addr.add_lit, Nat.zero_add, h.cell j]
  rw [← hx] at hj
  simpa using hj
def plQ : List Rn := [(1, 1, 0, 10, 1), (2, 1, 0, 20, 2), (3, 1, 0, 5, 1)]
def plW : List Wt := [(1, 3, false), (2, 1, false), (3, 2, false)]
def plA : Array Value := #[.int .i64 1, .int .i64 1, .int .u64 0, .int .u64 10, .int .u64 1, .int .i64 2, .int .i64 1, .int .u64 0, .int .u64 20, .int .u64 2, .int .i64 3, .int .i64 1, .int .u64 0, .int .u64 5, .int .u64 1]
def plB : Array Value := #[.int .i64 1, .int .u64 3, .bool false, .int .i64 2, .int .u64 1, .bool false, .int .i64 3, .int .u64 2, .bool false]
theorem plQ_rows : plA.toList = flat rv plQ := rfl
theorem plW_rows : plB.toList = flat wtv plW := rfl
theorem plain_q {w : World} {g : Nat} (h : Blk w g 59 plA) : QR w (some ⟨g, 0, none⟩) 3 3 plQ :=
  ⟨reads_blk h plQ_rows rfl, Nat.le_refl _, by omega, fun r hr => by
    simp only [plQ, List.mem_cons, List.not_mem_nil, or_false] at hr
    rcases hr with rfl | rfl | rfl <;> exact ⟨by decide, by decide, by decide⟩⟩
theorem plain_w {w : World} {g : Nat} (h : Blk w g 67 plB) : WT w (some ⟨g, 0, none⟩) 3 3 plW :=
  ⟨reads_blk h plW_rows rfl, Nat.le_refl _, by omega, fun r hr => by
    simp only [plW, List.mem_cons, List.not_mem_nil, or_false] at hr
    rcases hr with rfl | rfl | rfl <;> decide⟩
/-- a queue and its waits in memory of their own -/
def Plain (w : World) (e : Ending) (w' : World) : Prop := ∃ g g', e = .returned (.tuple #[.agg #[.slice (some ⟨g, 0, none⟩) 3 3], .slice (some ⟨g', 0, none⟩) 3 3]) ∧ Blk w' g 59 plA ∧ Blk w' g' 67 plB ∧ Below w.heap.size w w'

set_option maxRecDepth 100000 in
set_option maxHeartbeats 4000000 in
theorem plain_any (w : World) : Calls Try.prog 30 #[] w (Plain w) := by
  obtain ⟨K0, GB⟩ := box1 w 26 #[.slice none 0 0]
  have HO := Lib.hid (fun (a b : Nat) (u : World) => over_lit a b u)
  go_enter Try.func30, Try.ntmps30
  go_wp2_with fail
  refine (HO.out 10 1 _).mono ?_
  rintro e w1 ⟨rfl, h9⟩
  replace K0 := K0.below h9 K0.lt
  replace GB := GB.trans (h9.mono GB.size)
  clear h9
  go_wp2_with fail
  refine (HO.out 20 2 _).mono ?_
  rintro e w2 ⟨rfl, h9⟩
  replace K0 := K0.below h9 K0.lt
  replace GB := GB.trans (h9.mono GB.size)
  clear h9
  go_wp2_with fail
  refine (HO.out 5 1 _).mono ?_
  rintro e w3 ⟨rfl, h9⟩
  replace K0 := K0.below h9 K0.lt
  replace GB := GB.trans (h9.mono GB.size)
  clear h9
  have HLT : Hid (w.heap.size < w3.heap.size) := Lib.hid K0.lt
  have KA := Blk.new w3 59 plA
  have K1 := K0.alloc (.cells plA 59)
  have G1 := GB.alloc GB.size (.cells plA 59)
  have HSZ : Hid ((w3.alloc (.cells plA 59)).heap.size = w3.heap.size + 1) := Lib.hid (by simp)
  have KB := Blk.new (w3.alloc (.cells plA 59)) 26 #[.slice (some ⟨w3.heap.size, 0, none⟩) 3 3]
  rw [HSZ.out] at KB
  replace KA := KA.alloc (.cells #[.slice (some ⟨w3.heap.size, 0, none⟩) 3 3] 26)
  replace K1 := K1.alloc (.cells #[.slice (some ⟨w3.heap.size, 0, none⟩) 3 3] 26)
  replace G1 := G1.alloc G1.size (.cells #[.slice (some ⟨w3.heap.size, 0, none⟩) 3 3] 26)
  have HSZ2 : Hid (((w3.alloc (.cells plA 59)).alloc (.cells #[.slice (some ⟨w3.heap.size, 0, none⟩) 3 3] 26)).heap.size = w3.heap.size + 1 + 1) := Lib.hid (by simp)
  clear K0 GB
  obtain ⟨X, hX⟩ : ∃ X, (w3.alloc (.cells plA 59)).alloc (.cells #[.slice (some ⟨w3.heap.size, 0, none⟩) 3 3] 26) = X := ⟨_, rfl⟩
  rw [hX] at KA K1 G1 KB HSZ2
  have HX := Lib.hid hX
  unfold plA at hX
  go_upto_region 2 with fail
  clear hX
  have z0 := KB.cell 0
  have KW := Blk.new X 67 plB
  rw [HSZ2.out] at KW
  have K2 := K1.alloc (.cells plB 67)
  have G2 := G1.alloc G1.size (.cells plB 67)
  have HP := Lib.hid (put1 (x := .slice (some ⟨w3.heap.size, 0, none⟩) 3 3) K2 G2 (Nat.le_refl _))
  have HKA := Lib.hid ((KA.alloc (.cells plB 67)).far (p := ⟨w.heap.size, 0, none⟩) (by have := HLT.out; show w3.heap.size ≠ w.heap.size; omega) (.slice (some ⟨w3.heap.size, 0, none⟩) 3 3))
  have HKW := Lib.hid (KW.far (p := ⟨w.heap.size, 0, none⟩) (by have := HLT.out; show w3.heap.size + 1 + 1 ≠ w.heap.size; omega) (.slice (some ⟨w3.heap.size, 0, none⟩) 3 3))
  have r0 := K2.cell 0
  have f0 := K2.frozen 0
  have q0 := K1.cell 0
  have g0 := K1.frozen 0
  clear KB K1 KA K2 G2 G1 KW
  unfold plB at *
  go_wp2_with fail
  rw [HSZ2.out]
  exact bodyPost_ret (v := .tuple #[.agg #[.slice (some ⟨w3.heap.size, 0, none⟩) 3 3], .slice (some ⟨w3.heap.size + 1 + 1, 0, none⟩) 3 3]) (results_cell_row_tmp Try.results30 _ _ _ _ _ _ rfl HP.out.1 Try.underlying26 rfl (by kernel_rfl)) rfl ⟨_, _, rfl, HKA.out, HKW.out, HP.out.2⟩

end Go.Proofs.Ytngbamoffjlodaa
/-
  The statements' wakes. No statement is proved here.
-/
namespace Go.Proofs.Ytngbamoffjlodaa
open Go.RowKit Go.Maps

def plE0 : List Et := [([3], (0, 5, 1), 2, false), ([2], (0, 20, 2), 1, false), ([1], (0, 10, 1), 3, false)]
def plE1 : List Et := [([2], (0, 20, 2), 1, false), ([1, 3], (0, 10, 1), 2, false)]
theorem pl_ok0 : chkO plQ plW [] = 0 := by decide +kernel
theorem pl_ok1 : chkO plQ plW [[1, 3]] = 0 := by decide +kernel
theorem pl_e0 : sortE (entsP (pts plQ plW) []) = plE0 := by decide +kernel
theorem pl_e1 : sortE (entsP (pts plQ plW) [[1, 3]]) = plE1 := by decide +kernel
theorem gw_none (w : World) : GW w none 0 [] := ⟨Reads.none_, by omega, fun g hg => by cases hg⟩
/-- the k-th entity's slice of members, and its first member -/
theorem ES.at0 {w : World} {B : Nat} {A : Option Addr} {n c : Nat} {E : List En} (h : ES w B A n c E) {k : Nat} {x : Et} {i : Int} {is : List Int} (hx : (E.map et)[k]? = some x) (hi : x.1 = i :: is) :
    ∃ g h2 n2 c2, A = some ⟨g, 0, none⟩ ∧ w.cell? ⟨g, k * 6, none⟩ = some (.slice (some ⟨h2, 0, none⟩) n2 c2) ∧ w.cell? ⟨h2, 0, none⟩ = some (.int .i64 i) ∧ n2 = is.length + 1 := by
  rw [List.getElem?_map] at hx
  obtain ⟨e, he, rfl⟩ := Option.map_eq_some_iff.1 hx
  have hm := h.mem e (List.mem_of_getElem? he)
  have h3 : e.1.2.2.2 = i :: is := hi
  have hk := (List.getElem?_eq_some_iff.1 he).1
  have hl : E.length = n := by
    have h1 := h.row.1
    rw [length_flat ev length_ev] at h1
    omega
  rcases h.row.2 with ⟨_, h0⟩ | ⟨g, cap, cur, hv, _⟩
  · omega
  injection hv with hv1 hv2 hv3
  subst hv1 hv3
  have hn2 : e.1.2.1 = is.length + 1 := by
    have := hm.1
    rw [length_vs, h3, List.length_cons] at this
    omega
  unfold slE at hm
  rcases hm.2 with ⟨_, h0⟩ | ⟨g2, cap2, cur2, hv2, _⟩
  · omega
  injection hv2 with hv1 hv4 hv5
  rw [hv1] at hm
  refine ⟨g, g2, e.1.2.1, e.1.2.2.1, rfl, ?_, ?_, hn2⟩
  · rw [h.row.cellAt (k * 6) (by rw [← hl]; omega)]
    have := flat_at ev length_ev he 0 (by omega)
    rw [Nat.add_zero] at this
    rw [this]
    show some (Value.slice e.1.1 e.1.2.1 e.1.2.2.1) = _
    rw [hv1]
  · have := hm.cellAt 0 (by omega)
    rw [this, h3]
    rfl
theorem ES.count {w : World} {B : Nat} {A : Option Addr} {n c : Nat} {E : List En} (h : ES w B A n c E) : (E.map et).length = n := by
  have h1 := h.row.1
  rw [length_flat ev length_ev] at h1
  rw [List.length_map]
  omega

set_option maxRecDepth 100000 in
set_option maxHeartbeats 4000000 in
theorem wakes_any (w : World) : Calls Try.prog 9 #[] w (Said (.bool true) w) := by
  have HPl := Lib.hid (plain_any w)
  go_enter Try.func9, Try.ntmps9
  go_wp2_with fail
  refine HPl.out.mono ?_
  rintro e w1 ⟨g, g', rfl, KA, KB, GB⟩
  have KA1 := KA.alloc (.cells #[.slice (some ⟨g, 0, none⟩) 3 3] 26)
  have KB1 := KB.alloc (.cells #[.slice (some ⟨g, 0, none⟩) 3 3] 26)
  have KQ := Blk.new w1 26 #[.slice (some ⟨g, 0, none⟩) 3 3]
  have z0 := KQ.cell 0
  replace GB := GB.alloc GB.size (.cells #[.slice (some ⟨g, 0, none⟩) 3 3] 26)
  have HEn := Lib.hid (entities_ok (some ⟨g, 0, none⟩) 3 3 plQ (some ⟨g', 0, none⟩) 3 3 plW none 0 0 [] _ (plain_q KA1) (plain_w KB1) (gw_none _) pl_ok0)
  clear KA KB
  go_wp2_with fail
  refine HEn.out.mono ?_
  rintro e w2 ⟨A1, n1, c1, E1, rfl, S1, e1, h9⟩
  rw [show gsI [] = [] from rfl, pl_e0] at e1
  replace KA1 := KA1.below h9 KA1.lt
  replace KB1 := KB1.below h9 KB1.lt
  replace KQ := KQ.below h9 KQ.lt
  replace GB := GB.trans (h9.mono GB.size)
  have hn1 : n1 = 3 := by rw [← S1.count, e1]; rfl
  subst hn1
  clear h9 z0 HEn
  have z0 := ((KQ.alloc (.cells #[.int .i64 1, .int .i64 3] 3)).alloc (.cells #[.slice (some ⟨w2.heap.size, 0, none⟩) 2 2] 40)).cell 0
  have q0 := KQ.cell 0
  have KI := Blk.new w2 3 #[.int .i64 1, .int .i64 3]
  have hz : (w2.alloc (.cells #[.int .i64 1, .int .i64 3] 3)).heap.size = w2.heap.size + 1 := by simp
  have KG := Blk.new (w2.alloc (.cells #[.int .i64 1, .int .i64 3] 3)) 40 #[.slice (some ⟨w2.heap.size, 0, none⟩) 2 2]
  rw [hz] at KG
  replace KI := KI.alloc (.cells #[.slice (some ⟨w2.heap.size, 0, none⟩) 2 2] 40)
  replace KA1 := (KA1.alloc (.cells #[.int .i64 1, .int .i64 3] 3)).alloc (.cells #[.slice (some ⟨w2.heap.size, 0, none⟩) 2 2] 40)
  replace KB1 := (KB1.alloc (.cells #[.int .i64 1, .int .i64 3] 3)).alloc (.cells #[.slice (some ⟨w2.heap.size, 0, none⟩) 2 2] 40)
  have hsz : w2.heap.size ≤ (w2.alloc (.cells #[.int .i64 1, .int .i64 3] 3)).heap.size := by omega
  have S2 := S1.below (((Below.refl _ w2).alloc (Nat.le_refl _) (.cells #[.int .i64 1, .int .i64 3] 3)).alloc hsz (.cells #[.slice (some ⟨w2.heap.size, 0, none⟩) 2 2] 40))
  have GB1 := GB.alloc GB.size (.cells #[.int .i64 1, .int .i64 3] 3)
  replace GB1 := GB1.alloc GB1.size (.cells #[.slice (some ⟨w2.heap.size, 0, none⟩) 2 2] 40)
  have hGW : GW _ (some ⟨w2.heap.size + 1, 0, none⟩) 1 [(some ⟨w2.heap.size, 0, none⟩, 2, 2, [1, 3])] := ⟨reads_blk KG rfl rfl, by omega, fun y hy => by
    rw [List.mem_singleton] at hy
    subst hy
    exact ⟨⟨reads_blk KI rfl rfl, by show 2 ≤ 1000; omega⟩, by show 2 ≤ 100; omega⟩⟩
  have HEn := Lib.hid (entities_ok (some ⟨g, 0, none⟩) 3 3 plQ (some ⟨g', 0, none⟩) 3 3 plW (some ⟨w2.heap.size + 1, 0, none⟩) 1 1 _ _ (plain_q KA1) (plain_w KB1) hGW pl_ok1)
  clear KA1 KB1 KI KG hGW hz hsz S1 GB KQ
  go_wp2_with fail
  refine HEn.out.mono ?_
  rintro e w3 ⟨A2, n2, c2, E2, rfl, S3, e2, h9⟩
  rw [show gsI [((some ⟨w2.heap.size, 0, none⟩ : Option Addr), 2, 2, [1, 3])] = [[1, 3]] from rfl, pl_e1] at e2
  replace S2 := S2.below h9
  replace GB1 := GB1.trans (h9.mono GB1.size)
  have hn2 : n2 = 2 := by rw [← S3.count, e2]; rfl
  subst hn2
  obtain ⟨p1, p2, p3, p4, rfl, d0, d1, rfl⟩ := S2.at0 (k := 0) (by rw [e1]; rfl) rfl
  obtain ⟨p1', p2', p3', p4', q1, d2, d3, rfl⟩ := S2.at0 (k := 1) (by rw [e1]; rfl) rfl
  obtain ⟨r1, r2, r3, r4, rfl, d4, d5, rfl⟩ := S3.at0 (k := 1) (by rw [e2]; rfl) rfl
  injection q1 with q1
  injection q1 with q1
  subst q1
  have HB := Lib.hid GB1
  clear h9 S2 S3 e1 e2 GB1 HEn z0 q0
  go_wp2_with fail
  go_ret
  exact ⟨rfl, HB.out⟩

end Go.Proofs.Ytngbamoffjlodaa
/-
  The statements' ints and few. No statement is proved here.
-/
namespace Go.Proofs.Ytngbamoffjlodaa
open Go.RowKit Go.Maps

theorem cut_reads {w : World} {B size n : Nat} {A : Option Addr} {α : Type} {f : α → List Value} (hs : ∀ a, (f a).length = size) {l : List α} (h : Reads w B size A n (flat f l)) (m : Nat) : Reads w B size A (min n m) (flat f (l.take m)) := by
  have hl := h.1
  rw [length_flat f hs] at hl
  by_cases h0 : size = 0
  · subst h0
    refine ⟨by rw [length_flat f hs]; omega, fun hn => ?_⟩
    obtain ⟨ad, e, hb, _⟩ := h.2 (by omega)
    refine ⟨ad, e, hb, fun j u hj => ?_⟩
    have := (List.getElem?_eq_some_iff.1 hj).1
    rw [length_flat f hs] at this
    omega
  have hl2 : l.length = n := Nat.eq_of_mul_eq_mul_right (by omega) hl
  refine ⟨by rw [length_flat f hs, List.length_take, hl2, Nat.min_comm], fun hn => ?_⟩
  obtain ⟨ad, e, hb, hc⟩ := h.2 (by omega)
  refine ⟨ad, e, hb, fun j u hj => hc j u ?_⟩
  have e2 : flat f l = flat f (l.take m) ++ flat f (l.drop m) := by rw [← flat_append, List.take_append_drop]
  rw [e2, List.getElem?_append_left (List.getElem?_eq_some_iff.1 hj).1]
  exact hj
theorem cut_vs {w : World} {B n : Nat} {A : Option Addr} {l : List Int} (h : Reads w B 1 A n (vs l)) (m : Nat) : Reads w B 1 A (min n m) (vs (l.take m)) := by
  have e : ∀ l : List Int, vs l = flat (fun i => [Value.int .i64 i]) l := fun l => by
    induction l with
    | nil => rfl
    | cons a l ih => rw [flat_cons, ← ih]; rfl
  rw [e] at h ⊢
  exact cut_reads (f := fun i => [Value.int .i64 i]) (fun _ => rfl) h m

set_option maxRecDepth 100000 in
set_option maxHeartbeats 4000000 in
theorem ints_any (A : Option Addr) (n c : Nat) (is : List Int) (w : World) (hR : Reads w w.heap.size 1 A n (vs is)) (hc : n ≤ c) : Calls Try.prog 31 #[.slice A n c] w fun e w' =>
    ∃ A' c', e = .returned (.slice A' (min n 17) c') ∧ w'.ownsRow w.heap.size 3 1 (.slice A' (min n 17) c') (min n 17) (vs (is.take 17)) ∧ Below w.heap.size w w' := by
  obtain ⟨i0, hi0, hz0, hz1, hz2⟩ := info_parts9 int_info
  have hcut := cut_vs hR 17
  obtain ⟨m, hm⟩ : ∃ m, min n 17 = m := ⟨_, rfl⟩
  rw [hm] at hcut ⊢
  have hmi : min (n : Int) 17 = (m : Int) := by omega
  have m0 : (0 : Int) ≤ (m : Int) := by omega
  have m1 : (m : Int) ≤ (c : Int) := by omega
  have m2 : m ≤ 17 := by omega
  have HC := Lib.hid (hcut.alloc (Nat.le_refl _) (.cells #[] 3))
  have HB := Lib.hid ((Below.refl w.heap.size w).alloc (Nat.le_refl _) (.cells #[] 3))
  clear hcut hR hm hc
  go_enter Try.func31, Try.ntmps31
  go_wp2_with (
    at_builtin
    refine wpList_append_any _ rfl (.tmp 3) (.tmp 8) 40 rfl w.heap.size 3 i0 (.int .i64 0) 1 8 Try.underlying40 hi0 hz0 hz1 hz2 rfl (by decide) (.slice (some ⟨w.heap.size, 0, none⟩) 0 0) 0 [] rfl (by simpa using World.ownsRow_made w #[] 0 (Nat.le_refl _) (by simp [maxLen]) (by simp)) _ A m c (vs (is.take 17)) rfl HC.out (vs_ones _) (by simp only [maxLen]; omega) (by omega) (by simp) ?_
    intro v9 w9 own9 grow9 _
    rw [List.nil_append, Nat.zero_add] at own9
    obtain ⟨A9, c9, rfl, _, _⟩ := own_reads own9
    have HO := Lib.hid (And.intro own9 (HB.out.grown grow9 HB.out.size (fun k hk => by simp [Value.ownBlock] at hk; omega)))
    clear own9 grow9)
  go_ret
  exact ⟨A9, c9, rfl, HO.out.1, HO.out.2⟩

/-- entities that came in -/
structure EA (w : World) (A : Option Addr) (n : Nat) (l : List En) : Prop where
  row : Reads w w.heap.size 6 A n (flat ev l)
  big : n ≤ maxLen
  mem : ∀ e ∈ l, Reads w w.heap.size 1 e.1.1 e.1.2.1 (vs e.1.2.2.2) ∧ e.1.2.1 ≤ e.1.2.2.1
theorem EA.below {w w' : World} {A : Option Addr} {n : Nat} {l : List En} (h : EA w A n l) (hb : Below w.heap.size w w') : EA w' A n l :=
  ⟨(h.row.below hb).more hb.size, h.big, fun e he => ⟨((h.mem e he).1.below hb).more hb.size, (h.mem e he).2⟩⟩
theorem EA.len {w : World} {A : Option Addr} {n : Nat} {l : List En} (h : EA w A n l) : l.length = n := by
  have h1 := h.row.1
  rw [length_flat ev length_ev] at h1
  omega
theorem EA.at_ {w : World} {A : Option Addr} {n : Nat} {l : List En} (h : EA w A n l) {k : Nat} {A2 : Option Addr} {n2 c2 : Nat} {is : List Int} {a b x o : Nat} {f : Bool} (hx : l[k]? = some ((A2, n2, c2, is), (a, b, x), o, f)) :
    ∃ ad, A = some ad ∧ ad.block < w.heap.size ∧ w.cell? (ad.add (k * 6)) = some (.slice A2 n2 c2) ∧ w.cell? ⟨(ad.add (k * 6)).block, (ad.add (k * 6)).off + 1, none⟩ = some (.int .u64 (a : Int)) ∧ w.cell? ⟨(ad.add (k * 6)).block, (ad.add (k * 6)).off + 2, none⟩ = some (.int .u64 (b : Int)) ∧
      w.cell? ⟨(ad.add (k * 6)).block, (ad.add (k * 6)).off + 3, none⟩ = some (.int .u64 (x : Int)) ∧ w.cell? ⟨(ad.add (k * 6)).block, (ad.add (k * 6)).off + 4, none⟩ = some (.int .u64 (o : Int)) ∧ w.cell? ⟨(ad.add (k * 6)).block, (ad.add (k * 6)).off + 5, none⟩ = some (.bool f) := by
  obtain ⟨ad, e, hb, hc⟩ := h.row.elem ev length_ev hx (by omega)
  have s0 := hc 0 _ rfl
  have s1 := hc 1 _ rfl
  have s2 := hc 2 _ rfl
  have s3 := hc 3 _ rfl
  have s4 := hc 4 _ rfl
  have s5 := hc 5 _ rfl
  rw [Nat.add_zero] at s0
  rw [add_past ad (k * 6) 0] at s1
  rw [add_past ad (k * 6) 1] at s2
  rw [add_past ad (k * 6) 2] at s3
  rw [add_past ad (k * 6) 3] at s4
  rw [add_past ad (k * 6) 4] at s5
  exact ⟨ad, e, hb, s0, s1, s2, s3, s4, s5⟩
/-- entities in memory of their own, from B on: what they are -/
structure EF (w : World) (B : Nat) (A : Option Addr) (n c : Nat) (X : List Et) : Prop where
  ex : ∃ E : List En, ES w B A n c E ∧ E.map et = X
theorem EF.more {w w' : World} {B : Nat} {A A2 : Option Addr} {n c c2 : Nat} {E : List En} {o : Obj} {e : En} (h : ES w B A n c E) (hm : w.ownsRow B 3 1 (slE e) e.1.2.1 (vs e.1.2.2.2)) (hne : ∀ j j', (slE e).ownBlock = some j → (Value.slice A n c).ownBlock = some j' → j ≠ j')
    (hg : (w.alloc o).grownBy w' (Value.slice A n c).ownBlock) (ho : w'.ownsRow B 47 6 (.slice A2 (n + 1) c2) (n + 1) (flat ev (E ++ [e]))) (hw : (Value.slice A2 (n + 1) c2).ownBlock = (Value.slice A n c).ownBlock ∨ (Value.slice A2 (n + 1) c2).ownBlock = some (w.alloc o).heap.size) :
    ES w' B A2 (n + 1) c2 (E ++ [e]) := by
  refine ⟨ho, fun x hx => ?_, fun x hx => ?_⟩
  · rw [List.mem_append, List.mem_singleton] at hx
    rcases hx with hx | rfl
    · exact own_other ((h.mem x hx).alloc o) hg (h.ne x hx)
    · exact own_other (hm.alloc o) hg hne
  · rw [List.mem_append, List.mem_singleton] at hx
    rcases hx with hx | rfl
    · exact ne_other ((h.mem x hx).alloc o) (h.ne x hx) hw
    · exact ne_other (hm.alloc o) hne hw
end Go.Proofs.Ytngbamoffjlodaa
