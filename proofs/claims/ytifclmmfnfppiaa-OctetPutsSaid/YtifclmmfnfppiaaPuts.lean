/-
  OctetPuts: whatever number's bytes, behind whatever bytes, are as the document says; of what was handed in, and of the room behind it, nothing changes. No condition.
-/
import Derived.Test.YtifclmmfnfppiaaMixed
import Derived.Test.YtifclmmfnfppiaaRefs
import Derived.Test.YtifclmmfnfppiaaZeros
import Derived.Test.YtifclmmfnfppiaaArgsB
import Derived.Deep.RegionHeld3
namespace Go.Proofs.Ytifclmmfnfppiaa.octetPuts
open Go.ChangeShapes Go.WideShapes Go.ChangeAt Go.RowKit

theorem bs_zeros (l : List UInt8) : bs l ++ List.replicate 12 (Value.int .u8 0) = bs (l ++ List.replicate 12 0) := by
  simp [bs]

/-- a row that is not empty lies at an address -/
theorem own_at {w : World} {base m c : Nat} {A : Option Addr} {l : List UInt8} (h : Own w base A m c l) (h0 : 0 < m) : ∃ g, A = some ⟨g, 0, none⟩ ∧ base ≤ g ∧ g < w.heap.size := by
  obtain ⟨ad, rfl, _, _⟩ := h.reads.2 h0
  obtain ⟨h1, h2, _, h4⟩ := h.fresh ad rfl
  exact ⟨ad.block, by rw [← h4], h1, h2⟩

theorem own_free {w : World} {base m c g : Nat} {l : List UInt8} (h : Own w base (some ⟨g, 0, none⟩) m c l) : w.frozen? ⟨g, 0, none⟩ = false := by
  rcases h.2 with ⟨hv, _⟩ | ⟨g', cap, cur, hv, _, hh, _⟩
  · cases hv
  · injection hv with ha _ _
    injection ha with ha
    injection ha with ha
    subst ha
    simp [World.frozen?, hh]
theorem reads_at {w : World} {B g m : Nat} {xs : List Value} (h : Reads w B 1 (some ⟨g, 0, none⟩) m xs) : Reads w (g + 1) 1 (some ⟨g, 0, none⟩) m xs := by
  refine ⟨h.1, fun h0 => ?_⟩
  obtain ⟨ad, e, _, hc⟩ := h.2 h0
  injection e with e
  subst e
  exact ⟨_, rfl, Nat.lt_succ_self _, hc⟩

theorem far_reads {S : Nat → Prop} {a w : World} {B n : Nat} {A : Option Addr} {xs : List Value} (h : Far S a w) (hr : Reads a B 1 A n xs) (hS : ∀ k, k < B → ¬ S k) : Reads w B 1 A n xs :=
  ⟨hr.1, fun hn => by
    obtain ⟨ad, e, hb, hc⟩ := hr.2 hn
    exact ⟨ad, e, hb, fun j u hu => h.cell (hc j u hu) (by rw [block_of_add]; exact hS _ hb)⟩⟩
theorem far_own {S : Nat → Prop} {a w : World} {g n : Nat} {xs : List Value} (h : Far S a w) (hr : Reads a (g + 1) 1 (some ⟨g, 0, none⟩) n xs) (hS : ¬ S g) : Reads w (g + 1) 1 (some ⟨g, 0, none⟩) n xs :=
  h.reads hr (fun ad e => by injection e with e; subst e; exact hS)
theorem far_free {S : Nat → Prop} {a w : World} {g : Nat} (h : Far S a w) (hg : g < a.heap.size) (hf : a.frozen? ⟨g, 0, none⟩ = false) (hS : ¬ S g) : w.frozen? ⟨g, 0, none⟩ = false :=
  (World.frozen?_of_block (h.block g hg hS)).trans hf
/-- the first byte's cell -/
theorem far_step {P : Program} {c : Code} {Q : Exit → Act → World → Prop} {n : Nat} {a : Act} {W0 w : World} {S : Nat → Prop} (h : ∀ W, Far S w W → Code.rounds P c Q n a W) (hF : Far S w W0) : Code.rounds P c Q n a W0 := h W0 hF
theorem first_cell {w : World} {g n wd x : Nat} {l : List UInt8} (hr : Reads w (g + 1) 1 (some ⟨g, 0, none⟩) (n + wd) (bs (l ++ be x wd))) (h0 : 0 < wd) : ∃ y : UInt8, w.cell? ⟨g, 0, none⟩ = some (.int .u8 (y.toNat : Int)) := by
  obtain ⟨ad, v, e, _, hx, hc⟩ := hr.at_ (k := 0) (by omega)
  injection e with e
  subst e
  obtain ⟨y, _, rfl⟩ := bs_at hx
  exact ⟨y, by simpa [Addr.add] using hc⟩
theorem _root_.Go.Proofs.Ytifclmmfnfppiaa.Reads.at_lit {w : World} {B g n m : Nat} {xs : List Value} (h : Reads w B 1 (some ((⟨g, 0, none⟩ : Addr).add n)) m xs) : Reads w B 1 (some ⟨g, n, none⟩) m xs := by
  have e : (⟨g, 0, none⟩ : Addr).add n = ⟨g, n, none⟩ := by unfold Addr.add; split <;> simp_all
  rwa [e] at h
theorem back_reads {w : World} {g n wd c x : Nat} {l : List UInt8} (hl : l.length = n) (hr : Reads w (g + 1) 1 (some ⟨g, 0, none⟩) (n + wd) (bs (l ++ be x wd))) (hc : n + wd ≤ c) (h0 : 0 < wd) :
    Reads w (g + 1) 1 (some ((⟨g, 0, none⟩ : Addr).add n)) wd (bs (be x wd)) := by
  have h := hr.cut (k := n) (cap := c) (by omega) hc
  rw [if_neg (by omega), Nat.mul_one, Nat.add_sub_cancel_left, ← bs_drop, ← hl, List.drop_left, hl] at h
  exact h

set_option maxHeartbeats 4000000 in
theorem walk (A : Option Addr) (n c : Nat) (l : List UInt8) (x : Nat) (w : World) (hl : l.length = n) (hr : Reads w w.heap.size 1 A n (bs l)) (hn : n ≤ 3000) (hx : (x : Int) ≤ 18446744073709551615) :
    Calls Try.prog 3 #[.slice A n c, .int .u64 x] w fun e w' => e = .returned (.bool true) ∧ Below w.heap.size w w' := by
  obtain ⟨i0, hi0, hz0, hz1, hz2⟩ := info_parts byte_info
  have HL := Lib.hid hl
  clear hl
  go_enter Try.func3, Try.ntmps3
  go_wp2_with fail
  refine (wakes_any _).mono ?_
  rintro e w1 ⟨rfl, hB1⟩
  have hr1 : Reads w1 w1.heap.size 1 A n (bs l) := (hr.below hB1).more hB1.size
  go_wp2_with (first
    | (at_builtin
       refine wpList_append_any _ rfl (.tmp 16) (.tmp 17) 22 rfl w1.heap.size 5 i0 (.int .u8 0) 1 1 Try.underlying22 hi0 hz0 hz1 hz2 rfl (by decide) (.slice (some ⟨w1.heap.size, 0, none⟩) 0 0) 0 [] rfl (World.ownsRow_made _ _ _ (Nat.le_refl _) (by simp [maxLen]) (by simp)) w1.heap.size A n c (bs l) rfl (hr1.alloc (Nat.le_refl _) _) (bs_ones l) (by simp only [maxLen]; omega) (by omega) (by simp) ?_
       intro v2 w2 hown2 hg2 _
       have hown2' : w2.ownsRow w1.heap.size 5 1 v2 n (bs l) := by simpa using hown2)
    | (at_builtin
       obtain ⟨v3, w3, hrun3, hown3, hg3⟩ := append_zeros w2 22 w1.heap.size n 12 v2 (bs l) hown2' (by omega) (by omega) (by omega) (by have := hg2.size; simp at this; omega)
       rw [bs_zeros] at hown3
       obtain ⟨A3, c3, rfl, hO3⟩ := own_slice hown3
       obtain ⟨ga, rfl, hga1, hga2⟩ := own_at hO3 (by omega)
       have hc3 := hO3.cap
       refine Lib.wpList_append_run _ rfl (.tmp 18) (.const (.int .i64 12)) 22 3 rfl _ _ rfl rfl _ _ hrun3 ?_))
  have hs2 : w1.heap.size < w2.heap.size := by have := hg2.size; simp at this; omega
  have hb3 : Below w1.heap.size w1 w3 := (((Below.refl _ _).alloc (Nat.le_refl _) _).grown hg2 (by simp) (fun g hg => by simp [Value.ownBlock] at hg; omega)).grown hg3 (by omega) (fun k hk => (hown2'.lt k hk).1)
  have hR3 : Reads w3 w3.heap.size 1 (some ⟨ga, 0, none⟩) n (bs l) := by
    have h := take_reads hO3.reads (m := n) (by omega)
    rw [List.take_left' HL.out] at h
    exact h
  have hc3' : n ≤ c3 := by omega
  clear hown2' hown3 hg2 hg3 hown2 hrun3
  have e16 : IntKind.u16.wrap (x : Int) = ((x % 2 ^ (8 * 2) : Nat) : Int) := by simp [IntKind.wrap, IntKind.bits, IntKind.signed]
  have e32 : IntKind.u32.wrap (x : Int) = ((x % 2 ^ (8 * 4) : Nat) : Int) := by simp [IntKind.wrap, IntKind.bits, IntKind.signed]
  have hp16 : Calls Try.prog 10 #[.slice (some ⟨ga, 0, none⟩) n c3, .int .u16 (IntKind.u16.wrap (x : Int))] w3 (Gives w3 (n + 2) (l ++ be x 2)) := by
    rw [e16, ← be_mod x 2]
    exact put16_any _ n c3 l _ w3 HL.out hR3 (by omega) (by omega)
  have hp32 : ∀ u, Below w3.heap.size w3 u → Calls Try.prog 11 #[.slice (some ⟨ga, 0, none⟩) n c3, .int .u32 (IntKind.u32.wrap (x : Int))] u (Gives u (n + 4) (l ++ be x 4)) := fun u hu => by
    rw [e32, ← be_mod x 4]
    exact put32_any _ n c3 l _ u HL.out ((hR3.below hu).more hu.size) (by omega) (by omega)
  have hp64 : ∀ u, Below w3.heap.size w3 u → Calls Try.prog 12 #[.slice (some ⟨ga, 0, none⟩) n c3, .int .u64 (x : Int)] u (Gives u (n + 8) (l ++ be x 8)) := fun u hu =>
    put64_any _ n c3 l x u HL.out ((hR3.below hu).more hu.size) (by omega) hx
  have H16 := Lib.hid hp16
  have H32 := Lib.hid hp32
  have H64 := Lib.hid hp64
  clear hp16 hp32 hp64 e16 e32
  go_wp2_with fail
  refine H16.out.mono ?_
  rintro e w4 ⟨A4, c4, rfl, hO4, hB4⟩
  obtain ⟨g4, rfl, hg4, hg4'⟩ := own_at hO4 (by omega)
  go_wp2_with fail
  refine (H32.out w4 hB4).mono ?_
  rintro e w5 ⟨A5, c5, rfl, hO5, hB5⟩
  obtain ⟨g5, rfl, hg5, hg5'⟩ := own_at hO5 (by omega)
  go_wp2_with fail
  refine (H64.out w5 (hB4.trans (hB5.mono hB4.size))).mono ?_
  rintro e w6 ⟨A6, c6, rfl, hO6, hB6⟩
  obtain ⟨g6, rfl, hg6, hg6'⟩ := own_at hO6 (by omega)
  have R4 : Reads w6 (g4 + 1) 1 (some ⟨g4, 0, none⟩) (n + 2) (bs (l ++ be x 2)) := reads_at (((hO4.reads.below hB5).below (hB6.mono hB5.size))) 
  have R5 : Reads w6 (g5 + 1) 1 (some ⟨g5, 0, none⟩) (n + 4) (bs (l ++ be x 4)) := reads_at (hO5.reads.below hB6)
  have R6 : Reads w6 (g6 + 1) 1 (some ⟨g6, 0, none⟩) (n + 8) (bs (l ++ be x 8)) := reads_at hO6.reads
  have F4 : w6.frozen? ⟨g4, 0, none⟩ = false := ((hB6.frozen (p := ⟨g4, 0, none⟩) (by have := hB5.size; show g4 < _; omega)).trans (hB5.frozen (p := ⟨g4, 0, none⟩) hg4')).trans (own_free hO4)
  have F5 : w6.frozen? ⟨g5, 0, none⟩ = false := (hB6.frozen (p := ⟨g5, 0, none⟩) hg5').trans (own_free hO5)
  have F6 : w6.frozen? ⟨g6, 0, none⟩ = false := own_free hO6
  have s4 : g4 < w6.heap.size := by have := hB5.size; have := hB6.size; omega
  have s5 : g5 < w6.heap.size := by have := hB6.size; omega
  have k4 := hO4.cap
  have k5 := hO5.cap
  have k6 := hO6.cap
  have hb6 : Below w3.heap.size w3 w6 := (hB4.trans (hB5.mono hB4.size)).trans (hB6.mono (Nat.le_trans hB4.size hB5.size))
  have hR6 := hR3.below hb6
  have hO36 := hO3.reads.below hb6
  have hr6 : Reads w6 w1.heap.size 1 A n (bs l) := (hr1.below hb3).below (hb6.mono hb3.size)
  clear hO4 hO5 hO6 hB4 hB5 hB6 H16 H32 H64 hR3 hr1 hO3
  have q0 : (0 : Int) ≤ (n : Int) := by omega
  have z3 := hb3.size
  have z4 : w1.heap.size ≤ g4 := by omega
  have z6 := hb6.size
  have hF0 : Far (fun _ => False) w6 w6 := Far.refl _ _
  go_wp2_with fail
  refine wp_loop_rounds 4 ?_
  rw [rounds_succ]
  have Rc0 := far_own hF0 R4 (by simp)
  have hc0 := far_reads hF0 hr6 (fun k hk => by simp)
  have fz0 := far_free hF0 (by omega) F4 (by simp)
  have hix0 : ∀ u, (Instr.index 30 (.agg #[.slice (some ⟨g4, 0, none⟩) (n + 2) c4, .slice (some ⟨g5, 0, none⟩) (n + 4) c5, .slice (some ⟨g6, 0, none⟩) (n + 8) c6]) (.int .i64 0)).run Try.prog u = .ok (.slice (some ⟨g4, 0, none⟩) (n + 2) c4) u := fun _ => by kernel_rfl
  have hby0 : ∀ u, Calls Try.prog 14 #[.int .u64 ((x : Int) % 65536), .int .i64 2] u (Gives u 2 (be x 2)) := fun u => by
    have e : ((x : Int) % 65536) = ((x % 2 ^ (8 * 2) : Nat) : Int) := by simp
    rw [e, ← be_mod x 2]
    exact rbytes_any (x % 2 ^ (8 * 2)) 2 u (by rw [pow_256]; exact Nat.mod_lt _ (Nat.two_pow_pos _)) (by omega)
  have Hby0 := Lib.hid hby0
  obtain ⟨y0, hy0⟩ := first_cell Rc0 (by omega)
  have Rb0 := back_reads HL.out Rc0 (c := c4) k4 (by omega)
  have Rf0 : Reads w6 (g4 + 1) 1 (some ⟨g4, 0, none⟩) n (bs l) := by
    have h := take_reads Rc0 (m := n) (by omega)
    rw [List.take_left' HL.out] at h
    exact h
  have n0 : ¬ c4 = n := by omega
  have m01 : (n : Int) ≤ (c4 : Int) := by omega
  have m02 : (n : Int) ≤ (n : Int) + 2 := by omega
  have m03 : (n : Int) + 2 ≤ (c4 : Int) := by omega
  have m04 : IntKind.i64.wrap ((n : Int) + 2) = (n : Int) + 2 := by rw [IntKind.wrap_i64]; omega
  clear hby0
  have RfB0 : Reads w6.drew w6.drew.heap.size 1 (some ⟨g4, 0, none⟩) n (bs l) := Rf0.more (by show _ ≤ w6.heap.size; have := hF0.size; omega)
  have hcB0 : Reads w6.drew w6.drew.heap.size 1 A n (bs l) := hc0.more (by show _ ≤ w6.heap.size; have := hF0.size; omega)
  go_wp2_with fail
  go_region_held3 (fun _ => True) (first | trivial | go_keep)
    (first
      | (go_at_call 13; (with_reducible refine (same_same (some ⟨g4, 0, none⟩) A n c4 c l w6.drew RfB0 hcB0 (by omega)).mono ?_); rintro e wa0 ⟨rfl, ma0, rfl⟩)
      | (go_at_call 14; refine (Hby0.out _).mono ?_; rintro e wb0 ⟨B0, cb0, rfl, hOb0, hBb0⟩
         have hBz0 : Below w6.heap.size w6 wb0 := ⟨hBb0.os, hBb0.tape, hBb0.output, hBb0.size, hBb0.block⟩
         have RbB0 : Reads wb0 wb0.heap.size 1 (some ⟨g4, n, none⟩) 2 (bs (be x 2)) := (((Rb0.more (by show _ ≤ w6.heap.size; have := hF0.size; omega)).below hBz0).more hBz0.size).at_lit
         have RoB0 := hOb0.reads)
      | (go_at_call 13; refine (same_same (some ⟨g4, n, none⟩) B0 2 _ cb0 (be x 2) wb0 RbB0 RoB0 (by omega)).mono ?_; rintro e wc0 ⟨rfl, mc0, rfl⟩))
  have cz0 : wb0.cell? ⟨g4, 0, none⟩ = some (.int .u8 (y0.toNat : Int)) := (hBz0.cell (p := ⟨g4, 0, none⟩) (by show g4 < _; have := hF0.size; omega)).trans hy0
  have fb0 : wb0.frozen? ⟨g4, 0, none⟩ = false := (hBz0.frozen (p := ⟨g4, 0, none⟩) (by show g4 < _; have := hF0.size; omega)).trans fz0
  have hFb0 : Far (fun k => k = g4) w6 wb0 := (hF0.mono (fun k _ h => by cases h)).trans (Far.of_below hBz0)
  clear hix0 RbB0 RoB0 RfB0 hcB0 Rf0 Rb0 n0 m01 m02 m03 m04 Rc0 hc0 hy0 fz0 hBb0 hOb0 hBz0 Hby0
  go_wp2_with fail
  refine far_step (S := (fun k => k = g4)) (w := w6) (fun wz0 hF1 => ?_) (by first | exact (hFb0.setCell (by simp) _).drewN _ | exact (hFb0.drewN _).setCell (by simp) _)
  clear hFb0 cz0 fb0
  rw [rounds_succ]
  have Rc1 := far_own hF1 R5 (by first | omega | (simp; omega))
  have hc1 := far_reads hF1 hr6 (fun k hk => by first | omega | (simp; omega))
  have fz1 := far_free hF1 (by omega) F5 (by first | omega | (simp; omega))
  have hix1 : ∀ u, (Instr.index 30 (.agg #[.slice (some ⟨g4, 0, none⟩) (n + 2) c4, .slice (some ⟨g5, 0, none⟩) (n + 4) c5, .slice (some ⟨g6, 0, none⟩) (n + 8) c6]) (.int .i64 1)).run Try.prog u = .ok (.slice (some ⟨g5, 0, none⟩) (n + 4) c5) u := fun _ => by kernel_rfl
  have hby1 : ∀ u, Calls Try.prog 14 #[.int .u64 ((x : Int) % 4294967296), .int .i64 4] u (Gives u 4 (be x 4)) := fun u => by
    have e : ((x : Int) % 4294967296) = ((x % 2 ^ (8 * 4) : Nat) : Int) := by simp
    rw [e, ← be_mod x 4]
    exact rbytes_any (x % 2 ^ (8 * 4)) 4 u (by rw [pow_256]; exact Nat.mod_lt _ (Nat.two_pow_pos _)) (by omega)
  have Hby1 := Lib.hid hby1
  obtain ⟨y1, hy1⟩ := first_cell Rc1 (by omega)
  have Rb1 := back_reads HL.out Rc1 (c := c5) k5 (by omega)
  have Rf1 : Reads wz0 (g5 + 1) 1 (some ⟨g5, 0, none⟩) n (bs l) := by
    have h := take_reads Rc1 (m := n) (by omega)
    rw [List.take_left' HL.out] at h
    exact h
  have n1 : ¬ c5 = n := by omega
  have m11 : (n : Int) ≤ (c5 : Int) := by omega
  have m12 : (n : Int) ≤ (n : Int) + 4 := by omega
  have m13 : (n : Int) + 4 ≤ (c5 : Int) := by omega
  have m14 : IntKind.i64.wrap ((n : Int) + 4) = (n : Int) + 4 := by rw [IntKind.wrap_i64]; omega
  clear hby1
  have RfB1 : Reads wz0.drew wz0.drew.heap.size 1 (some ⟨g5, 0, none⟩) n (bs l) := Rf1.more (by show _ ≤ wz0.heap.size; have := hF1.size; omega)
  have hcB1 : Reads wz0.drew wz0.drew.heap.size 1 A n (bs l) := hc1.more (by show _ ≤ wz0.heap.size; have := hF1.size; omega)
  go_wp2_with fail
  go_region_held3 (fun _ => True) (first | trivial | go_keep)
    (first
      | (go_at_call 13; (with_reducible refine (same_same (some ⟨g5, 0, none⟩) A n c5 c l wz0.drew RfB1 hcB1 (by omega)).mono ?_); rintro e wa1 ⟨rfl, ma1, rfl⟩)
      | (go_at_call 14; refine (Hby1.out _).mono ?_; rintro e wb1 ⟨B1, cb1, rfl, hOb1, hBb1⟩
         have hBz1 : Below wz0.heap.size wz0 wb1 := ⟨hBb1.os, hBb1.tape, hBb1.output, hBb1.size, hBb1.block⟩
         have RbB1 : Reads wb1 wb1.heap.size 1 (some ⟨g5, n, none⟩) 4 (bs (be x 4)) := (((Rb1.more (by show _ ≤ wz0.heap.size; have := hF1.size; omega)).below hBz1).more hBz1.size).at_lit
         have RoB1 := hOb1.reads)
      | (go_at_call 13; refine (same_same (some ⟨g5, n, none⟩) B1 4 _ cb1 (be x 4) wb1 RbB1 RoB1 (by omega)).mono ?_; rintro e wc1 ⟨rfl, mc1, rfl⟩))
  have cz1 : wb1.cell? ⟨g5, 0, none⟩ = some (.int .u8 (y1.toNat : Int)) := (hBz1.cell (p := ⟨g5, 0, none⟩) (by show g5 < _; have := hF1.size; omega)).trans hy1
  have fb1 : wb1.frozen? ⟨g5, 0, none⟩ = false := (hBz1.frozen (p := ⟨g5, 0, none⟩) (by show g5 < _; have := hF1.size; omega)).trans fz1
  have hFb1 : Far (fun k => (k = g4) ∨ k = g5) w6 wb1 := (hF1.mono (fun k _ h => Or.inl h)).trans (Far.of_below hBz1)
  clear hix1 RbB1 RoB1 RfB1 hcB1 Rf1 Rb1 n1 m11 m12 m13 m14 Rc1 hc1 hy1 fz1 hBb1 hOb1 hBz1 Hby1
  go_wp2_with fail
  refine far_step (S := (fun k => (k = g4) ∨ k = g5)) (w := w6) (fun wz1 hF2 => ?_) (by first | exact (hFb1.setCell (by simp) _).drewN _ | exact (hFb1.drewN _).setCell (by simp) _)
  clear hFb1 cz1 fb1
  rw [rounds_succ]
  have Rc2 := far_own hF2 R6 (by first | omega | (simp; omega))
  have hc2 := far_reads hF2 hr6 (fun k hk => by first | omega | (simp; omega))
  have fz2 := far_free hF2 (by omega) F6 (by first | omega | (simp; omega))
  have hix2 : ∀ u, (Instr.index 30 (.agg #[.slice (some ⟨g4, 0, none⟩) (n + 2) c4, .slice (some ⟨g5, 0, none⟩) (n + 4) c5, .slice (some ⟨g6, 0, none⟩) (n + 8) c6]) (.int .i64 2)).run Try.prog u = .ok (.slice (some ⟨g6, 0, none⟩) (n + 8) c6) u := fun _ => by kernel_rfl
  have hby2 : ∀ u, Calls Try.prog 14 #[.int .u64 (x : Int), .int .i64 8] u (Gives u 8 (be x 8)) := fun u => by
    have e : (x : Int) = ((x % 2 ^ (8 * 8) : Nat) : Int) := by rw [Nat.mod_eq_of_lt (by omega)]
    rw [e, ← be_mod x 8]
    exact rbytes_any (x % 2 ^ (8 * 8)) 8 u (by rw [pow_256]; exact Nat.mod_lt _ (Nat.two_pow_pos _)) (by omega)
  have Hby2 := Lib.hid hby2
  obtain ⟨y2, hy2⟩ := first_cell Rc2 (by omega)
  have Rb2 := back_reads HL.out Rc2 (c := c6) k6 (by omega)
  have Rf2 : Reads wz1 (g6 + 1) 1 (some ⟨g6, 0, none⟩) n (bs l) := by
    have h := take_reads Rc2 (m := n) (by omega)
    rw [List.take_left' HL.out] at h
    exact h
  have n2 : ¬ c6 = n := by omega
  have m21 : (n : Int) ≤ (c6 : Int) := by omega
  have m22 : (n : Int) ≤ (n : Int) + 8 := by omega
  have m23 : (n : Int) + 8 ≤ (c6 : Int) := by omega
  have m24 : IntKind.i64.wrap ((n : Int) + 8) = (n : Int) + 8 := by rw [IntKind.wrap_i64]; omega
  clear hby2
  have RfB2 : Reads wz1.drew wz1.drew.heap.size 1 (some ⟨g6, 0, none⟩) n (bs l) := Rf2.more (by show _ ≤ wz1.heap.size; have := hF2.size; omega)
  have hcB2 : Reads wz1.drew wz1.drew.heap.size 1 A n (bs l) := hc2.more (by show _ ≤ wz1.heap.size; have := hF2.size; omega)
  go_wp2_with fail
  go_region_held3 (fun _ => True) (first | trivial | go_keep)
    (first
      | (go_at_call 13; (with_reducible refine (same_same (some ⟨g6, 0, none⟩) A n c6 c l wz1.drew RfB2 hcB2 (by omega)).mono ?_); rintro e wa2 ⟨rfl, ma2, rfl⟩)
      | (go_at_call 14; refine (Hby2.out _).mono ?_; rintro e wb2 ⟨B2, cb2, rfl, hOb2, hBb2⟩
         have hBz2 : Below wz1.heap.size wz1 wb2 := ⟨hBb2.os, hBb2.tape, hBb2.output, hBb2.size, hBb2.block⟩
         have RbB2 : Reads wb2 wb2.heap.size 1 (some ⟨g6, n, none⟩) 8 (bs (be x 8)) := (((Rb2.more (by show _ ≤ wz1.heap.size; have := hF2.size; omega)).below hBz2).more hBz2.size).at_lit
         have RoB2 := hOb2.reads)
      | (go_at_call 13; refine (same_same (some ⟨g6, n, none⟩) B2 8 _ cb2 (be x 8) wb2 RbB2 RoB2 (by omega)).mono ?_; rintro e wc2 ⟨rfl, mc2, rfl⟩))
  have cz2 : wb2.cell? ⟨g6, 0, none⟩ = some (.int .u8 (y2.toNat : Int)) := (hBz2.cell (p := ⟨g6, 0, none⟩) (by show g6 < _; have := hF2.size; omega)).trans hy2
  have fb2 : wb2.frozen? ⟨g6, 0, none⟩ = false := (hBz2.frozen (p := ⟨g6, 0, none⟩) (by show g6 < _; have := hF2.size; omega)).trans fz2
  have hFb2 : Far (fun k => ((k = g4) ∨ k = g5) ∨ k = g6) w6 wb2 := (hF2.mono (fun k _ h => Or.inl h)).trans (Far.of_below hBz2)
  clear hix2 RbB2 RoB2 RfB2 hcB2 Rf2 Rb2 n2 m21 m22 m23 m24 Rc2 hc2 hy2 fz2 hBb2 hOb2 hBz2 Hby2
  go_wp2_with fail
  refine far_step (S := (fun k => ((k = g4) ∨ k = g5) ∨ k = g6)) (w := w6) (fun wz2 hF3 => ?_) (by first | exact (hFb2.setCell (by simp) _).drewN _ | exact (hFb2.drewN _).setCell (by simp) _)
  clear hFb2 cz2 fb2
  have z7 := hF3.size
  have Rin : Reads wz2 wz2.heap.size 1 (some ⟨ga, 0, none⟩) n (bs l) := (far_reads hF3 hR6 (fun k hk => by simp; omega)).more (by omega)
  have Rb : Reads wz2 wz2.heap.size 1 A n (bs l) := (far_reads hF3 hr6 (fun k hk => by simp; omega)).more (by omega)
  have Rall : Reads wz2 wz2.heap.size 1 (some ⟨ga, n, none⟩) 12 (bs (List.replicate 12 0)) := by
    have h := (far_reads hF3 hO36 (fun k hk => by simp; omega)).cut (k := n) (cap := c3) (by omega) hc3
    rw [if_neg (by omega), Nat.mul_one, Nat.add_sub_cancel_left, ← bs_drop, List.drop_left' HL.out] at h
    exact (h.more (by omega)).at_lit
  have hRl : ∀ m, Calls Try.prog 15 #[.slice (some ⟨ga, n, none⟩) 12 (c3 - n)] (wz2.drewN m) fun e w' => e = .returned (.int .i64 12) ∧ wz2.drewN m = w' := fun m =>
    rlead_any (some ⟨ga, n, none⟩) 12 (c3 - n) (List.replicate 12 0) (wz2.drewN m) (by simp) Rall (by omega)
  have HRl := Lib.hid hRl
  have hLd := Lib.hid (fun m => lead_any A n c l (wz2.drewN m) HL.out Rb (by omega))
  have hRd := Lib.hid (fun m => rlead_any A n c l (wz2.drewN m) HL.out Rb (by omega))
  have nc : ¬ c3 = n := by omega
  have q1 : (n : Int) ≤ (c3 : Int) := by omega
  have q2 : (n : Int) ≤ (n : Int) + 12 := by omega
  have q3 : (n : Int) + 12 ≤ (c3 : Int) := by omega
  have hbz : Below w.heap.size w wz2 := (hB1.trans (hb3.mono hB1.size)).trans ((hb6.mono (by have := hB1.size; omega)).trans (hF3.below w.heap.size (by have := hB1.size; omega) (fun k hk => by have := hB1.size; simp; omega)))
  clear hRl hR6 hr6 hO36 Rall
  rw [rounds_succ]
  go_wp2_with fail
  refine (same_same (some ⟨ga, 0, none⟩) A n c3 c l wz2 Rin Rb (by omega)).mono ?_
  rintro e wq ⟨rfl, mq, rfl⟩
  go_wp2_with fail
  refine (HRl.out _).mono ?_
  rintro e w' ⟨rfl, rfl⟩
  go_wp2_with fail
  refine (hLd.out _).mono ?_
  rintro e w' ⟨rfl, rfl⟩
  go_wp2_with fail
  refine (hRd.out _).mono ?_
  rintro e w' ⟨rfl, rfl⟩
  go_wp2
  go_ret
  exact ⟨by simp, below_drewN hbz _⟩

set_option maxHeartbeats 400000 in
theorem walk_big (A : Option Addr) (n c : Nat) (x : Int) (w : World) (hn : 3000 < n) :
    Calls Try.prog 3 #[.slice A n c, .int .u64 x] w fun e w' => e = .returned (.bool true) ∧ Below w.heap.size w w' := by
  have hn' : (3000 : Int) < (n : Int) := by omega
  go_enter Try.func3, Try.ntmps3
  go_wp2_with fail
  refine (wakes_any _).mono ?_
  rintro e w1 ⟨rfl, hB1⟩
  go_wp2
  go_ret
  exact ⟨rfl, hB1⟩

set_option maxRecDepth 100000 in
theorem lifted (os : Os) (started : os.Started) (H : Type) (enc : TypeId × Value → H) :
    ReturnsInHanded {} Try.checked os 3 .any (Rows.octetPutsSpec.pre6 enc Try.prog Try.f3 Rows.octetPutsRow.domain false) (Rows.octetPutsSpec.post enc Try.prog Try.f3 false true false false) := by
  refine returnsInHanded_of_change (C := Try.checked) own started (by kernel_rfl) Try.func3
    (ChangeSpec.witness6 (enc := enc) (C := Try.checked) false ⟨#[], #[.slice none 0 0, .int .u64 0], []⟩ 8 (by kernel_rfl) (by kernel_rfl) (by kernel_rfl) (by kernel_rfl)) ?_
  intro W base args ds gs before hval0 hW hcnd _
  have hval : ∀ (j : Nat) t v, Try.f3.params[j]? = some t → args[j]? = some v → Value.okWide Try.prog W .any base t v := hval0
  have hW' := hW
  obtain ⟨p, q, hA0, hV, rfl, hfz, hnd⟩ := hW
  have hA : DataW.TrodAll enc Try.prog W 0 (fun _ => true) true Try.f3.params.toList args.toList ds p := hA0
  rw [Try.params3] at hA hval
  obtain ⟨v0, v1, d0, d1, p0, p1, rfl, rfl, rfl, h0, h1⟩ := trodAll_two hA
  obtain ⟨rfl, rfl⟩ := trodVars_none hV
  obtain ⟨x', rfl, rfl, rfl, wx⟩ := open_int Try.underlying23 (hval 1 23 v1 rfl rfl) h1
  obtain ⟨A0, n, c, rfl⟩ := okWide_slice Try.underlying22 (hval 0 22 v0 rfl rfl)
  clear hA0 hval0
  simp only [List.append_nil] at hW'
  have hlt : ∀ x ∈ p0, x.block < W.heap.size := fun x hx => hW'.lt x (by simpa using hx)
  obtain ⟨l, hl, hr, _⟩ := open_bytes h0
  have hx : 0 ≤ x' ∧ x' ≤ 18446744073709551615 := by simpa [Lit.wf, IntKind.min, IntKind.max, IntKind.signed, IntKind.bits] using wx
  obtain ⟨x, rfl⟩ := Int.eq_ofNat_of_zero_le hx.1
  have hwk : Calls Try.prog 3 #[.slice A0 n c, .int .u64 (x : Int)] W fun e w' => e = .returned (.bool true) ∧ Below W.heap.size W w' := by
    by_cases hn : n ≤ 3000
    · exact walk A0 n c l x W hl hr hn hx.2
    · exact walk_big A0 n c x W (by omega)
  refine hwk.mono fun e W' ⟨he, hb⟩ => ?_
  subst he
  exact ⟨_, rfl, post_of_below (pa := p0 ++ []) (pv := []) hW' (fun _ _ _ => trodAll_mk1 (shut_bool Try.underlying4 _)) (fun sp hsp => trodAll_mk2 (arg_stays (by kernel_rfl) (of_decide_eq_true (by kernel_rfl)) h0 hb hlt (fun x hx => hsp x (by simpa using hx))) (shut_int Try.underlying23 wx)) (fun _ _ => rfl) (by simp)
    hb (ok_one (by kernel_rfl) rfl (okWide_bool_mk Try.underlying4 _))⟩

theorem proved : Rows.OctetPutsSaid :=
  OpenClaim.holds_of_wide 3 Try.f3 rfl rfl rfl rfl rfl rfl rfl ⟨rfl, rfl, rfl, rfl, rfl⟩ rfl rfl rfl rfl rfl (by kernel_rfl) Try.func3 (by kernel_rfl)
    (of_decide_eq_true (by kernel_rfl)) (by unfold Func.isWrapper; first | (rw [if_pos (by decide +kernel)]; kernel_rfl) | (rw [if_neg (by decide +kernel)]; exact ⟨rfl, rfl⟩))
    (fun os started H enc _ => lifted os started H enc)

end Go.Proofs.Ytifclmmfnfppiaa.octetPuts
