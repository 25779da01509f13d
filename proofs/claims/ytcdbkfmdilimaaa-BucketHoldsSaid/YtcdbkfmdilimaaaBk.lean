/-
  BucketHolds' mathematics and walk. No statement is proved here.
-/
import Derived.Test.YtcdbkfmdilimaaaBi
import Derived.Test.YtcdbkfmdilimaaaBo
namespace Go.Proofs.Ytcdbkfmdilimaaa
open Go.RowKit

/-! ### what runs, and what is left -/
def stepT (c T : Int) (p : Int × Int) : Int := minT (T + c * p.1 - 100 * p.2 * p.1) (c * 100000000)
def tok (c t : Int) (ps : List (Int × Int)) : Int := ps.foldl (stepT c) t
theorem tok_snoc (c t : Int) (ps : List (Int × Int)) (p : Int × Int) : tok c t (ps ++ [p]) = stepT c (tok c t ps) p := by
  unfold tok
  rw [List.foldl_append]
  rfl
theorem tok_take {c t : Int} {ps : List (Int × Int)} {k : Nat} {p : Int × Int} (h : ps[k]? = some p) : tok c t (ps.take (k + 1)) = stepT c (tok c t (ps.take k)) p := by
  rw [List.take_add_one, h]
  exact tok_snoc _ _ _ _
structure OkP (c t : Int) (ps : List (Int × Int)) : Prop where
  c0 : 1 ≤ c
  c1 : c ≤ 800
  t0 : -8000000000 ≤ t
  t1 : t ≤ c * 100000000
  each : ∀ (k : Nat) (p : Int × Int), ps[k]? = some p → 0 ≤ p.1 ∧ p.1 ≤ 10000000 ∧ 0 ≤ p.2 ∧ p.2 ≤ 8 ∧ (tok c t (ps.take k) ≤ 0 → p.2 = 0)
theorem minT_le (a b : Int) : minT a b ≤ a ∧ minT a b ≤ b ∧ (minT a b = a ∨ minT a b = b) := by unfold minT; split <;> omega
theorem prod_bounds {c d n : Int} (c0 : 1 ≤ c) (c1 : c ≤ 800) (d0 : 0 ≤ d) (d1 : d ≤ 10000000) (n0 : 0 ≤ n) (n1 : n ≤ 8) :
    0 ≤ c * d ∧ c * d ≤ 8000000000 ∧ 0 ≤ n * d ∧ n * d ≤ 80000000 ∧ 100 * n * d = 100 * (n * d) := by
  have h1 := mul_in (a := c) (b := d) (A := 800) (B := 10000000) (by omega) c1 d0 d1
  have h2 := mul_in (a := n) (b := d) (A := 8) (B := 10000000) n0 n1 d0 d1
  exact ⟨h1.1, by omega, h2.1, by omega, Int.mul_assoc _ _ _⟩
theorem step_right {c T d n : Int} (c0 : 1 ≤ c) (c1 : c ≤ 800) (h0 : -8000000000 ≤ T) (h1 : T ≤ c * 100000000) (d0 : 0 ≤ d) (d1 : d ≤ 10000000) (n0 : 0 ≤ n) (n1 : n ≤ 8) (hn : T ≤ 0 → n = 0) :
    -8000000000 ≤ stepT c T (d, n) ∧ stepT c T (d, n) ≤ c * 100000000 ∧ passV c T d n = ((c, stepT c T (d, n)), 0) := by
  obtain ⟨k1, k2, k3, k4, k5⟩ := prod_bounds c0 c1 d0 d1 n0 n1
  have hm := minT_le (T + c * d - 100 * n * d) (c * 100000000)
  refine ⟨?_, hm.2.1, ?_⟩
  · show -8000000000 ≤ minT (T + c * d - 100 * n * d) (c * 100000000)
    rcases hm.2.2 with h | h
    · rw [h, k5]
      by_cases hT : T ≤ 0
      · rw [hn hT]
        simp only [Int.zero_mul, Int.mul_zero]
        omega
      · omega
    · rw [h]; omega
  · exact pass_mk (right_mk ⟨c0, c1, h0, h1⟩) ⟨d0, d1, n0, n1⟩ (by omega) (fun q => by have := hn q.1; omega)
theorem OkP.tok_in {c t : Int} {ps : List (Int × Int)} (h : OkP c t ps) : ∀ k : Nat, k ≤ ps.length → -8000000000 ≤ tok c t (ps.take k) ∧ tok c t (ps.take k) ≤ c * 100000000
  | 0, _ => by rw [List.take_zero]; exact ⟨h.t0, h.t1⟩
  | k + 1, hk => by
    obtain ⟨p, hp⟩ := elem_at (l := ps) (k := k) hk
    have q := h.tok_in k (by omega)
    obtain ⟨p1, p2, p3, p4, p5⟩ := h.each k p hp
    rw [tok_take hp]
    have s := step_right (d := p.1) (n := p.2) h.c0 h.c1 q.1 q.2 p1 p2 p3 p4 p5
    exact ⟨s.1, s.2.1⟩
theorem OkP.start {c t : Int} (hr : rightB c t = true) (hc : ¬ c = 0) : OkP c t [] := by
  have := right_of hr
  exact ⟨by omega, by omega, by omega, by omega, fun k p h => by simp at h⟩
theorem OkP.now {c t : Int} {ps : List (Int × Int)} (h : OkP c t ps) : -8000000000 ≤ tok c t ps ∧ tok c t ps ≤ c * 100000000 := by
  have q := h.tok_in ps.length (Nat.le_refl _)
  rwa [List.take_length] at q
theorem OkP.snoc {c t d n : Int} {ps : List (Int × Int)} (h : OkP c t ps) (d0 : 0 ≤ d) (d1 : d ≤ 10000000) (n0 : 0 ≤ n) (n1 : n ≤ 8) (hn : tok c t ps ≤ 0 → n = 0) :
    OkP c t (ps ++ [(d, n)]) ∧ passV c (tok c t ps) d n = ((c, tok c t (ps ++ [(d, n)])), 0) ∧ rightB c (tok c t (ps ++ [(d, n)])) = true := by
  have q := h.now
  obtain ⟨s1, s2, s3⟩ := step_right (d := d) (n := n) h.c0 h.c1 q.1 q.2 d0 d1 n0 n1 hn
  refine ⟨⟨h.c0, h.c1, h.t0, h.t1, fun k p hk => ?_⟩, by rw [tok_snoc]; exact s3, by rw [tok_snoc]; exact right_mk ⟨h.c0, h.c1, s1, s2⟩⟩
  rcases Nat.lt_or_ge k ps.length with hl | hl
  · rw [List.getElem?_append_left hl] at hk
    rw [List.take_append_of_le_length (by omega)]
    exact h.each k p hk
  · rw [List.getElem?_append_right hl] at hk
    have hkl : k - ps.length = 0 := by
      have := (List.getElem?_eq_some_iff.1 hk).1
      simp at this
      exact this
    rw [hkl] at hk
    simp only [List.getElem?_cons_zero, Option.some.injEq] at hk
    subst hk
    rw [show k = ps.length by omega, List.take_left]
    exact ⟨d0, d1, n0, n1, hn⟩
/-- behind i parts from one on: the time, what was run, the greatest of both -/
def HInv (c T : Int) (i : Nat) (a b g m : Int) : Prop := 0 ≤ a ∧ a ≤ 10000000 * (i : Int) ∧ 0 ≤ b ∧ b ≤ 80000000 * (i : Int) ∧ 0 ≤ g ∧ g ≤ 10000000 ∧ 0 ≤ m ∧ m ≤ 8 ∧
  100 * b ≤ c * 100000000 + c * a - T ∧ 100 * b ≤ c * a + c * 100000000 + 100 * m * g
theorem hinv_start {c t : Int} {ps : List (Int × Int)} (h : OkP c t ps) {f : Nat} (hf : f ≤ ps.length) : HInv c (tok c t (ps.take f)) 0 0 0 0 0 := by
  have q := h.tok_in f hf
  have c0 := h.c0
  unfold HInv
  simp only [Int.mul_zero]
  omega
def maxT (a b : Int) : Int := if a < b then b else a
theorem maxT_ge (a b : Int) : a ≤ maxT a b ∧ b ≤ maxT a b ∧ (maxT a b = a ∨ maxT a b = b) := by unfold maxT; split <;> omega
theorem hinv_step {c t a b g m d n : Int} {ps : List (Int × Int)} (h : OkP c t ps) {j i : Nat} (hx : ps[j]? = some (d, n)) (H : HInv c (tok c t (ps.take j)) i a b g m) :
    HInv c (tok c t (ps.take (j + 1))) (i + 1) (a + d) (b + d * n) (maxT g d) (maxT m n) := by
  obtain ⟨p1, p2, p3, p4, p5⟩ := h.each j _ hx
  simp only at p1 p2 p3 p4 p5
  rw [tok_take hx]
  obtain ⟨T, hT⟩ : ∃ T, tok c t (ps.take j) = T := ⟨_, rfl⟩
  rw [hT] at H p5 ⊢
  have c0 := h.c0
  have c1 := h.c1
  obtain ⟨k1, k2, k3, k4, k5⟩ := prod_bounds c0 c1 p1 p2 p3 p4
  obtain ⟨h1, h2, h3, h4, h5, h6, h7, h8, h9, h10⟩ := H
  have hm : stepT c T (d, n) ≤ T + c * d - 100 * (n * d) := by
    show minT (T + c * d - 100 * n * d) (c * 100000000) ≤ _
    rw [k5]
    exact (minT_le _ _).1
  obtain ⟨g1, g2, g3⟩ := maxT_ge g d
  obtain ⟨m1, m2, m3⟩ := maxT_ge m n
  obtain ⟨G, hG⟩ : ∃ G, maxT g d = G := ⟨_, rfl⟩
  obtain ⟨M, hM⟩ : ∃ M, maxT m n = M := ⟨_, rfl⟩
  rw [hG] at g1 g2 g3 ⊢
  rw [hM] at m1 m2 m3 ⊢
  have e1 : d * n = n * d := Int.mul_comm _ _
  have e2 : c * (a + d) = c * a + c * d := Int.mul_add _ _ _
  have e3 : 100 * M * G = 100 * (M * G) := Int.mul_assoc _ _ _
  have e4 : 100 * m * g = 100 * (m * g) := Int.mul_assoc _ _ _
  have l1 : n * d ≤ M * G := Int.mul_le_mul m2 g2 p1 (by omega)
  have l2 : m * g ≤ M * G := Int.mul_le_mul m1 g1 h5 (by omega)
  unfold HInv
  rw [e1, e2, e3]
  rw [e4] at h10
  refine ⟨by omega, by push_cast; omega, by omega, by push_cast; omega, by omega, by omega, by omega, by omega, by omega, ?_⟩
  by_cases hz : T ≤ 0
  · have hn0 := p5 hz
    rw [hn0] at l1 k3 k4 hm ⊢
    simp only [Int.zero_mul] at l1 k3 k4 hm ⊢
    omega
  · omega
theorem hinv_bound {c t a b g m : Int} {ps : List (Int × Int)} {T : Int} (h : OkP c t ps) {i : Nat} (H : HInv c T i a b g m) (hi : i ≤ 60) :
    boundV c a g m = (c * a + c * 100000000 + 100 * m * g, 0) ∧ decide (c * a + c * 100000000 + 100 * m * g < wrap64 (100 * b)) = false := by
  obtain ⟨h1, h2, h3, h4, h5, h6, h7, h8, h9, h10⟩ := H
  have c0 := h.c0
  have c1 := h.c1
  constructor
  · unfold boundV
    rw [if_pos (show boundB c a g m = true from decide_eq_true (by omega))]
  · rw [w64 (by omega) (by omega)]
    exact decide_eq_false (by omega)
def sv (s : Int × Int) : List Value := [.int .i64 s.1, .int .i64 s.2]
theorem length_sv (s : Int × Int) : (sv s).length = 2 := rfl
theorem sv_at {w : World} {B n : Nat} {A : Option Addr} {l : List (Int × Int)} (h : Reads w B 2 A n (flat sv l)) {k : Nat} {x y : Int} (hk : l[k]? = some (x, y)) :
    ∃ ad, A = some ad ∧ ad.block < B ∧ w.cell? (ad.add (k * 2)) = some (.int .i64 x) ∧ w.cell? ⟨(ad.add (k * 2)).block, (ad.add (k * 2)).off + 1, none⟩ = some (.int .i64 y) := by
  obtain ⟨ad, e, hb, hc⟩ := h.elem sv length_sv hk (by omega)
  have c1 := hc 1 _ rfl
  rw [add_past ad (k * 2) 0] at c1
  exact ⟨ad, e, hb, hc 0 _ rfl, c1⟩
def pw (s : Int × Int × Int) : List Value := [.int .i64 s.1, .int .i64 s.2.1, .int .i64 s.2.2]
theorem length_pw (s : Int × Int × Int) : (pw s).length = 3 := rfl
theorem pw_at {w : World} {B n : Nat} {A : Option Addr} {l : List (Int × Int × Int)} (h : Reads w B 3 A n (flat pw l)) {k : Nat} {x y z : Int} (hk : l[k]? = some (x, y, z)) :
    ∃ ad, A = some ad ∧ ad.block < B ∧ w.cell? (ad.add (k * 3)) = some (.int .i64 x) ∧ w.cell? ⟨(ad.add (k * 3)).block, (ad.add (k * 3)).off + 1, none⟩ = some (.int .i64 y) ∧ w.cell? ⟨(ad.add (k * 3)).block, (ad.add (k * 3)).off + 2, none⟩ = some (.int .i64 z) := by
  obtain ⟨ad, e, hb, hc⟩ := h.elem pw length_pw hk (by omega)
  have c1 := hc 1 _ rfl
  have c2 := hc 2 _ rfl
  rw [add_past ad (k * 3) 0] at c1
  rw [add_past ad (k * 3) 1] at c2
  exact ⟨ad, e, hb, hc 0 _ rfl, c1, c2⟩
theorem flat_drop2 (l : List (Int × Int)) (k : Nat) : (flat sv l).drop (k * 2) = flat sv (l.drop k) := by
  induction k generalizing l with
  | zero => simp
  | succ k ih =>
    cases l with
    | nil => simp [flat]
    | cons a l =>
      rw [flat_cons, List.drop_succ_cons, ← ih, show (k + 1) * 2 = 2 + k * 2 by omega, ← List.drop_drop]
      rfl
theorem part_info : (Try.prog.info? 45).map (fun i => (i.zero, i.size, i.bytes)) = some (some (.agg #[.int .i64 0, .int .i64 0]), 2, 16) := by kernel_rfl
theorem two_new (w : World) (a b : Value) (t : TypeId) : ∀ j u, [a, b][j]? = some u → (w.alloc (.cells #[a, b] t)).cell? ((⟨w.heap.size, 0, none⟩ : Addr).add j) = some u := by
  intro j u hu
  have K := Blk.new w t #[a, b]
  have q := K.cell j
  rw [Addr.add_lit, Nat.zero_add]
  rw [q]
  simpa using hu

theorem dry_no {c x t : Int} {ps : List (Int × Int)} (h : -8000000000 ≤ x ∧ x ≤ c * 100000000) (o : OkP c t ps) (hd : dryB c x = false) : ¬ x ≤ 0 := by
  intro hx
  have c0 := o.c0
  have c1 := o.c1
  unfold dryB at hd
  rw [right_mk ⟨c0, c1, h.1, h.2⟩, decide_eq_true (show 0 < c by omega), decide_eq_true hx] at hd
  cases hd
theorem rem_one (x : Int) : 0 ≤ (if x < 0 then (0 : Int) else x) % 10000001 ∧ (if x < 0 then (0 : Int) else x) % 10000001 ≤ 10000000 := by
  have h : 0 ≤ (if x < 0 then (0 : Int) else x) := by split <;> omega
  omega
theorem rem_two (x : Int) : 0 ≤ (if x < 0 then (0 : Int) else x) % 9 ∧ (if x < 0 then (0 : Int) else x) % 9 ≤ 8 := by
  have h : 0 ≤ (if x < 0 then (0 : Int) else x) := by split <;> omega
  omega

set_option maxRecDepth 100000 in
set_option maxHeartbeats 16000000 in
theorem holds_walk (c t : Int) (A : Option Addr) (n cc : Nat) (l : List (Int × Int × Int)) (w : World) (hl : l.length = n) (hR : Reads w w.heap.size 3 A n (flat pw l)) :
    Calls Try.prog 6 #[.agg #[.int .i64 c, .int .i64 t], .slice A n cc] w (Said (.bool true) w) := by
  obtain ⟨i0, hi0, hz0, hz1, hz2⟩ := info_parts9 part_info
  obtain ⟨K0, GB⟩ := box1 w 23 #[.int .i64 c, .int .i64 t]
  have HK := Lib.hid (fun u => wakes_any u)
  have HC := Lib.hid (fun u => check_any c t u)
  have HL := Lib.hid hl
  have HR := Lib.hid hR
  unfold chk at HC
  clear hl hR
  cases hr : rightB c t with
  | false =>
    rw [hr, if_neg (by simp)] at HC
    clear hr
    go_enter Try.func6, Try.ntmps6
    go_wp2_with fail
    refine (HK.out _).mono ?_
    rintro e w0 ⟨rfl, h9⟩
    replace K0 := K0.below h9 K0.lt
    replace GB := GB.trans (h9.mono GB.size)
    clear h9
    have zK00 := K0.cell 0
    have zK01 := K0.cell 1
    go_wp2_with fail
    refine (HC.out _).mono ?_
    rintro e w1 ⟨rfl, h9⟩
    clear zK00 zK01
    replace K0 := K0.below h9 K0.lt
    replace GB := GB.trans (h9.mono GB.size)
    clear h9
    have HE := Lib.hid GB
    clear GB K0
    go_wp2
    go_ret
    exact ⟨rfl, HE.out⟩
  | true =>
    rw [hr, if_pos rfl] at HC
    by_cases hc0 : c = 0
    · have a1 : (c == 0) = true := by simp [hc0]
      clear hr hc0
      go_enter Try.func6, Try.ntmps6
      go_wp2_with fail
      refine (HK.out _).mono ?_
      rintro e w0 ⟨rfl, h9⟩
      replace K0 := K0.below h9 K0.lt
      replace GB := GB.trans (h9.mono GB.size)
      clear h9
      have zK00 := K0.cell 0
      have zK01 := K0.cell 1
      go_wp2_with fail
      refine (HC.out _).mono ?_
      rintro e w1 ⟨rfl, h9⟩
      clear zK00 zK01
      replace K0 := K0.below h9 K0.lt
      replace GB := GB.trans (h9.mono GB.size)
      clear h9
      have z0 := K0.cell 0
      have HE := Lib.hid GB
      clear GB K0
      go_wp2
      go_ret
      exact ⟨rfl, HE.out⟩
    · have a1 : (c == 0) = false := by simp [hc0]
      have HO := Lib.hid (OkP.start hr hc0)
      clear hr hc0
      go_enter Try.func6, Try.ntmps6
      go_wp2_with fail
      refine (HK.out _).mono ?_
      rintro e w0 ⟨rfl, h9⟩
      replace K0 := K0.below h9 K0.lt
      replace GB := GB.trans (h9.mono GB.size)
      clear h9
      have zK00 := K0.cell 0
      have zK01 := K0.cell 1
      go_wp2_with fail
      refine (HC.out _).mono ?_
      rintro e w1 ⟨rfl, h9⟩
      clear zK00 zK01
      replace K0 := K0.below h9 K0.lt
      replace GB := GB.trans (h9.mono GB.size)
      clear h9
      have z0 := K0.cell 0
      go_upto_block 0 with fail
      clear z0
      go_cut [5] (fun pv X => ∃ (m : Nat) (x : Int) (ps : List (Int × Int)), m ≤ 60 ∧ Hid (ps.length = m ∧ OkP c t ps ∧ tok c t ps = x) ∧ Blk X w.heap.size 23 #[.int .i64 c, .int .i64 x] ∧ X.ownsRow (w.heap.size + 1) 45 2 pv m (flat sv ps) ∧ Below w.heap.size w X)
      case first =>
        go_wp2_with fail
        go_loopw [5, 33] (fun pv iv wr => ∃ (k : Nat) (x : Int) (ps : List (Int × Int)), k ≤ n ∧ k ≤ 60 ∧ iv = .int .i64 (k : Int) ∧ Hid (ps.length = k ∧ OkP c t ps ∧ tok c t ps = x) ∧ Blk wr w.heap.size 23 #[.int .i64 c, .int .i64 x] ∧ wr.ownsRow (w.heap.size + 1) 45 2 pv k (flat sv ps) ∧ Below w.heap.size w wr) (fun _ iv _ => n - (intOf iv).toNat)
        case atStart => exact ⟨0, t, [], Nat.zero_le _, by omega, rfl, Lib.hid ⟨rfl, HO.out, rfl⟩, K0, World.ownsRow_nil _ _ _ _, GB⟩
        case round =>
          clear K0 GB
          obtain ⟨k, x, ps, hk, hk6, rfl, HI, K0, ho, GB⟩ := hrel
          by_cases hlt : k < n
          · by_cases h6 : k = 60
            · have he : (((k : Nat) : Int) == 60) = true := by simp; omega
              obtain ⟨⟨a, b, e⟩, hx⟩ := elem_at (l := l) (k := k) (by rw [HL.out]; exact hlt)
              obtain ⟨ad, rfl, hb, d0, d1, d2⟩ := pw_at (HR.out.below GB) hx
              have i1 : (0 : Int) ≤ (k : Int) := by omega
              have i2 : (k : Int) < (n : Int) := by omega
              have HK0 := Lib.hid (K0.alloc (.cells #[.int .i64 a, .int .i64 b, .int .i64 e] 36))
              have HHo := Lib.hid (ho.alloc (.cells #[.int .i64 a, .int .i64 b, .int .i64 e] 36))
              have HGB := Lib.hid (GB.alloc GB.size (.cells #[.int .i64 a, .int .i64 b, .int .i64 e] 36))
              clear hx hb K0 ho GB hlt h6
              go_wp2_with fail
              go_meet
              exact ⟨k, x, ps, hk6, HI, HK0.out, HHo.out, HGB.out⟩
            · skip
              obtain ⟨Ap, cp, rfl, _, _⟩ := own_reads ho
              have hne : (((k : Nat) : Int) == 60) = false := by simp; omega
              obtain ⟨⟨a, b, e⟩, hx⟩ := elem_at (l := l) (k := k) (by rw [HL.out]; exact hlt)
              obtain ⟨ad, rfl, hb, d0, d1, d2⟩ := pw_at (HR.out.below GB) hx
              have i1 : (0 : Int) ≤ (k : Int) := by omega
              have i2 : (k : Int) < (n : Int) := by omega
              have K7 := Blk.new wr 36 #[.int .i64 a, .int .i64 b, .int .i64 e]
              have hsz := GB.size
              replace K0 := K0.alloc (.cells #[.int .i64 a, .int .i64 b, .int .i64 e] 36)
              replace ho := ho.alloc (.cells #[.int .i64 a, .int .i64 b, .int .i64 e] 36)
              replace GB := GB.alloc hsz (.cells #[.int .i64 a, .int .i64 b, .int .i64 e] 36)
              clear hx hb hsz
              go_upto_region 10 with fail
              obtain ⟨Y, hY⟩ : ∃ Y, wr.alloc (.cells #[.int .i64 a, .int .i64 b, .int .i64 e] 36) = Y := ⟨_, rfl⟩
              obtain ⟨g7, hg7⟩ : ∃ j, wr.heap.size = j := ⟨_, rfl⟩
              rw [hY] at K0 K7 GB ho ⊢
              rw [hg7] at K7 ⊢
              clear hY hg7 d0 d1 d2
              go_cut [8, 9] (fun s8 s9 Z => ∃ d n1 : Int, s8 = .int .i64 d ∧ s9 = .int .i64 n1 ∧ 0 ≤ d ∧ d ≤ 10000000 ∧ 0 ≤ n1 ∧ n1 ≤ 8 ∧ Blk Z w.heap.size 23 #[.int .i64 c, .int .i64 x] ∧ Z.ownsRow (w.heap.size + 1) 45 2 (.slice Ap k cp) k (flat sv ps) ∧ Below w.heap.size w Z)
              case first =>
                have zK70 := K7.cell 0
                have zK71 := K7.cell 1
                have zK72 := K7.cell 2
                have HD := Lib.hid (And.intro (rem_one a) (rem_two e))
                go_quiet (fail)
                obtain ⟨a2, ha2⟩ : ∃ j : Int, (if a < 0 then 0 else a) = j := ⟨_, rfl⟩
                obtain ⟨e2, he2⟩ : ∃ j : Int, (if e < 0 then 0 else e) = j := ⟨_, rfl⟩
                rw [ha2, he2] at HD ⊢
                obtain ⟨a3, ha3⟩ : ∃ j : Int, a2 % 10000001 = j := ⟨_, rfl⟩
                obtain ⟨e3, he3⟩ : ∃ j : Int, e2 % 9 = j := ⟨_, rfl⟩
                rw [ha3, he3] at HD ⊢
                clear ha2 he2 ha3 he3
                go_wp2_with fail
                go_meet
                exact ⟨_, _, rfl, rfl, HD.out.1.1, HD.out.1.2, HD.out.2.1, HD.out.2.2, K0, ho, below_drewN GB nq⟩
              case rest =>
                clear K0 K7 GB ho
                obtain ⟨d, n1, rfl, rfl, d0, d1, n0, n2, K0, ho, GB⟩ := hcut
                rename World => Z
                have HDx := Lib.hid (fun u => dry_any c x u)
                obtain ⟨dr, hdr⟩ : ∃ b, dryB c x = b := ⟨_, rfl⟩
                rw [hdr] at HDx
                have HDr := Lib.hid hdr
                have Hn := Lib.hid (And.intro d0 (And.intro d1 (And.intro n0 n2)))
                clear hdr d0 d1 n0 n2
                have zK00 := K0.cell 0
                have zK01 := K0.cell 1
                go_wp2_with fail
                refine (HDx.out _).mono ?_
                rintro e w2 ⟨rfl, h9⟩
                clear zK00 zK01
                replace ho := own_below ho h9
                replace K0 := K0.below h9 K0.lt
                replace GB := GB.trans (h9.mono GB.size)
                clear h9
                go_upto_if 49 with fail
                go_cut [9] (fun s9 Z => ∃ n3 : Int, s9 = .int .i64 n3 ∧ Hid (0 ≤ n3 ∧ n3 ≤ 8 ∧ (x ≤ 0 → n3 = 0)) ∧ Blk Z w.heap.size 23 #[.int .i64 c, .int .i64 x] ∧ Z.ownsRow (w.heap.size + 1) 45 2 (.slice Ap k cp) k (flat sv ps) ∧ Below w.heap.size w Z)
                case first =>
                  cases dr with
                  | true =>
                    go_wp2_with fail
                    go_meet
                    exact ⟨_, rfl, Lib.hid ⟨by omega, by omega, fun _ => rfl⟩, K0, ho, GB⟩
                  | false =>
                    have hx0 : ¬ x ≤ 0 := dry_no (HI.out.2.2 ▸ HI.out.2.1.now) HI.out.2.1 HDr.out
                    go_wp2_with fail
                    go_meet
                    exact ⟨_, rfl, Lib.hid ⟨Hn.out.2.2.1, Hn.out.2.2.2, fun q => by omega⟩, K0, ho, GB⟩
                case rest =>
                  clear K0 ho GB
                  obtain ⟨n3, rfl, Hn3, K0, ho, GB⟩ := hcut
                  rename World => Z2
                  obtain ⟨o1, o2, o3⟩ := OkP.snoc HI.out.2.1 Hn.out.1 Hn.out.2.1 Hn3.out.1 Hn3.out.2.1 (by rw [HI.out.2.2]; exact Hn3.out.2.2)
                  have HPs := Lib.hid (fun u => pass_any c x d n3 u)
                  unfold bkE at HPs
                  rw [HI.out.2.2] at o2
                  rw [o2] at HPs
                  obtain ⟨y, hy⟩ : ∃ y, tok c t (ps ++ [(d, n3)]) = y := ⟨_, rfl⟩
                  rw [hy] at HPs o3
                  have HC2 := Lib.hid (fun u => check_any c y u)
                  rw [show chk c y = 0 from if_pos o3] at HC2
                  have HI2 : Hid ((ps ++ [(d, n3)]).length = k + 1 ∧ OkP c t (ps ++ [(d, n3)]) ∧ tok c t (ps ++ [(d, n3)]) = y) := Lib.hid ⟨by rw [List.length_append, HI.out.1]; rfl, o1, hy⟩
                  clear o1 o2 o3 hy
                  have zK00 := K0.cell 0
                  have zK01 := K0.cell 1
                  go_wp2_with fail
                  refine (HPs.out _).mono ?_
                  rintro e w3 ⟨rfl, h9⟩
                  clear zK00 zK01
                  replace ho := own_below ho h9
                  replace K0 := K0.below h9 K0.lt
                  replace GB := GB.trans (h9.mono GB.size)
                  clear h9
                  replace ho := ho.alloc (.cells #[.int .i64 c, .int .i64 y] 23)
                  have K10 := Blk.new w3 23 #[.int .i64 c, .int .i64 y]
                  replace K0 := K0.alloc (.cells #[.int .i64 c, .int .i64 y] 23)
                  replace GB := GB.alloc GB.size (.cells #[.int .i64 c, .int .i64 y] 23)
                  have zK100 := K10.cell 0
                  have zK101 := K10.cell 1
                  go_wp2_with fail
                  refine (HC2.out _).mono ?_
                  rintro e w4 ⟨rfl, h9⟩
                  clear zK100 zK101
                  replace ho := own_below ho h9
                  replace K0 := K0.below h9 K0.lt
                  replace K10 := K10.below h9 K10.lt
                  replace GB := GB.trans (h9.mono GB.size)
                  clear h9
                  have zK100 := K10.cell 0
                  have zK101 := K10.cell 1
                  have q0 := K0.cell 0
                  have q1 := K0.cell 1
                  have f0 := K0.frozen 0
                  have f1 := K0.frozen 1
                  have HPu := Lib.hid (put2 (x := .int .i64 c) (y := .int .i64 y) K0 GB (by omega))
                  have HOu := Lib.hid (own_set (own_set ho (g := w.heap.size) (by omega) 0 (.int .i64 c)) (g := w.heap.size) (by omega) 1 (.int .i64 y))
                  have hZ : w.heap.size + 1 ≤ ((w4.setCell ⟨w.heap.size, 0, none⟩ (.int .i64 c)).setCell ⟨w.heap.size, 1, none⟩ (.int .i64 y)).heap.size := by have := K0.lt; simp [World.setCell]; omega
                  have Hk := Lib.hid (And.intro hlt (show k + 1 ≤ 60 by omega))
                  clear K0 GB K10 ho
                  go_upto_region 17 with fail
                  clear zK100 zK101 q0 q1 f0 f1
                  obtain ⟨U, hU⟩ : ∃ U, (w4.setCell ⟨w.heap.size, 0, none⟩ (.int .i64 c)).setCell ⟨w.heap.size, 1, none⟩ (.int .i64 y) = U := ⟨_, rfl⟩
                  rw [hU] at HPu HOu hZ ⊢
                  clear hU
                  go_wp2_with (
                    at_builtin
                    go_loud (refine wpList_append_own _ rfl (.tmp 65) (.tmp 69) 43 rfl (w.heap.size + 1) 45 i0 (.agg #[.int .i64 0, .int .i64 0]) 2 16 Try.underlying43 hi0 hz0 hz1 hz2 rfl (by decide) _ k _ rfl (HOu.out.alloc _) ⟨_, 0, none⟩ 1 1 [.int .i64 d, .int .i64 n3] rfl rfl (two_new _ _ _ _) (by simp [Value.oneCell']) (by simp only [maxLen]; omega) (by omega) (by simp; omega) ?_)
                    intro v2 w9 hown2 hg2 _)
                  have HO3 : Hid (w9.ownsRow (w.heap.size + 1) 45 2 v2 (k + 1) (flat sv (ps ++ [(d, n3)]))) := Lib.hid (by rw [flat_append, flat_one]; exact hown2)
                  have hBx := (HPu.out.2.alloc HPu.out.2.size (.cells #[.int .i64 d, .int .i64 n3] 45)).grown hg2 (by have := hZ; simp; omega) (fun g hg => by have := (HOu.out.lt g hg).1; omega)
                  have hKx := (HPu.out.1.alloc (.cells #[.int .i64 d, .int .i64 n3] 45)).grown hg2 (fun e => by have := (HOu.out.lt _ e.symm).1; omega)
                  go_roundw
                  case rel => exact ⟨k + 1, y, _, Hk.out.1, Hk.out.2, by go_num, HI2, hKx, HO3.out, hBx⟩
                  case measure => simp [intOf]; omega
          · obtain rfl : k = n := by omega
            go_wp2_with fail
            go_meet
            exact ⟨k, x, ps, hk6, HI, K0, ho, GB⟩
      case rest =>
        clear K0 GB
        obtain ⟨m, x, ps, hm6, HI, K0, ho, GB⟩ := hcut
        rename World => X
        obtain ⟨A9, c9, rfl, hc9, HR9⟩ := own_reads ho
        have HRx := Lib.hid HR9
        have hKX := K0.lt
        have HB0 := Lib.hid (And.intro hKX (And.intro K0 GB))
        clear ho HR9 K0 GB hKX
        go_wp2_with fail
        go_loopw [74] (fun iv wr => ∃ q : Nat, q ≤ m ∧ iv = .int .i64 (q : Int) ∧ Below X.heap.size X wr) (fun iv _ => m - (intOf iv).toNat)
        case atStart => exact ⟨0, Nat.zero_le _, rfl, Below.refl _ _⟩
        case round =>
          obtain ⟨q, hq, rfl, hB⟩ := hrel
          by_cases hlt : q < m
          · have j0 : (0 : Int) ≤ (q : Int) := by omega
            have j1 : (q : Int) ≤ (m : Int) := by omega
            have j2 : (m : Int) ≤ (c9 : Int) := by omega
            have hcq : ¬ c9 = q := by omega
            have hcut := HRx.out.cut (k := q) (cap := c9) hq hc9
            rw [if_neg hcq, flat_drop2] at hcut
            obtain ⟨Aw, hAw⟩ : ∃ Aw, Option.map (fun x => x.add (q * 2)) A9 = Aw := ⟨_, rfl⟩
            rw [hAw] at hcut
            have HAw := Lib.hid hAw
            have HRq := Lib.hid hcut
            have HS := Lib.hid (hinv_start HI.out.2.1 (f := q) (by rw [HI.out.1]; exact hq))
            have Hq := Lib.hid (And.intro hlt (And.intro hm6 hq))
            clear hcut hAw
            go_wp2_with fail
            rw [HAw.out]
            clear hcq HAw
            go_loopw [13, 14, 15, 16, 81] (fun av bv gv mv iv wr => ∃ (i : Nat) (a b g h : Int), i ≤ m - q ∧ av = .int .i64 a ∧ bv = .int .i64 b ∧ gv = .int .i64 g ∧ mv = .int .i64 h ∧ iv = .int .i64 (i : Int) ∧ Hid (HInv c (tok c t (ps.take (q + i))) i a b g h) ∧ Below X.heap.size X wr) (fun _ _ _ _ iv _ => (m - q) - (intOf iv).toNat)
            case atStart => exact ⟨0, 0, 0, 0, 0, Nat.zero_le _, rfl, rfl, rfl, rfl, rfl, HS, hB⟩
            case round =>
              clear hB
              obtain ⟨i, a, b, g, h, hi, rfl, rfl, rfl, rfl, rfl, HH, hB⟩ := hrel
              by_cases hlt2 : i < m - q
              · obtain ⟨⟨d, n1⟩, hx⟩ := elem_at (l := ps) (k := q + i) (by rw [HI.out.1]; omega)
                have hx2 : (ps.drop q)[i]? = some (d, n1) := by rw [List.getElem?_drop]; exact hx
                obtain ⟨ad, rfl, hb, d0, d1⟩ := sv_at (HRq.out.below hB) hx2
                have i1 : (0 : Int) ≤ (i : Int) := by omega
                have i2 : (i : Int) < ((m - q : Nat) : Int) := by omega
                have i3 : (i : Int) < (m : Int) - (q : Int) := by omega
                have HN := Lib.hid (hinv_step HI.out.2.1 hx HH.out)
                have e0 := HI.out.2.1.each _ _ hx
                simp only at e0
                have hb0 := HH.out
                unfold HInv at hb0
                have hpr := prod_bounds HI.out.2.1.c0 HI.out.2.1.c1 e0.1 e0.2.1 e0.2.2.1 e0.2.2.2.1
                have s1 : wrap64 (a + d) = a + d := w64 (by omega) (by omega)
                have s2 : wrap64 (d * n1) = d * n1 := w64 (by rw [Int.mul_comm]; omega) (by rw [Int.mul_comm]; omega)
                have s3 : wrap64 (b + d * n1) = b + d * n1 := w64 (by rw [Int.mul_comm d n1]; omega) (by rw [Int.mul_comm d n1]; omega)
                obtain ⟨a', ha'⟩ : ∃ j, a + d = j := ⟨_, rfl⟩
                obtain ⟨dn, hdn⟩ : ∃ j, d * n1 = j := ⟨_, rfl⟩
                replace s2 := s2.trans hdn
                rw [hdn] at s3
                obtain ⟨b', hb'⟩ : ∃ j, b + dn = j := ⟨_, rfl⟩
                replace s1 := s1.trans ha'
                replace s3 := s3.trans hb'
                obtain ⟨g', hg'⟩ : ∃ j, maxT g d = j := ⟨_, rfl⟩
                obtain ⟨h', hh'⟩ : ∃ j, maxT h n1 = j := ⟨_, rfl⟩
                rw [ha', hdn, hb', hg', hh'] at HN
                obtain ⟨hbo, hle⟩ := hinv_bound HI.out.2.1 HN.out (by omega)
                have HB := Lib.hid (fun u => bound_any c a' g' h' u)
                rw [hbo] at HB
                obtain ⟨Wb, hWb⟩ : ∃ j, c * a' + c * 100000000 + 100 * h' * g' = j := ⟨_, rfl⟩
                rw [hWb] at HB hle
                have HM := Lib.hid (And.intro hg' hh')
                have K18 := Blk.new wr 45 #[.int .i64 d, .int .i64 n1]
                have hsz := hB.size
                replace hB := hB.alloc hsz (.cells #[.int .i64 d, .int .i64 n1] 45)
                have Hi := Lib.hid (And.intro hlt2 hi)
                clear hx hx2 hb e0 hb0 hpr ha' hdn hb' hg' hh' hbo hWb hlt2 hi hsz
                go_upto_region 26 with fail
                obtain ⟨Y, hY⟩ : ∃ Y, wr.alloc (.cells #[.int .i64 d, .int .i64 n1] 45) = Y := ⟨_, rfl⟩
                obtain ⟨g8, hg8⟩ : ∃ j, wr.heap.size = j := ⟨_, rfl⟩
                rw [hY] at K18 hB ⊢
                rw [hg8] at K18 ⊢
                clear hY hg8 d0 d1
                have d0 := K18.cell 0
                have d1 := K18.cell 1
                go_upto_region 28 with fail
                clear d0 d1
                have HSS := Lib.hid (And.intro s1 (And.intro s2 s3))
                clear s1 s2 s3
                have HLe := Lib.hid hle
                have d0 := K18.cell 0
                have d1 := K18.cell 1
                have HM1 := Lib.hid (show (if g < d then d else g) = g' from HM.out.1)
                have HM2 := Lib.hid (show (if h < n1 then n1 else h) = h' from HM.out.2)
                clear hle i1 i2 i3 j0 j1 j2
                go_quiet (fail)
                rw [HM1.out, HM2.out, HSS.out.1, HSS.out.2.1, HSS.out.2.2]
                replace hB := below_drewN hB nq
                generalize Y.drewN nq = Z at hB ⊢
                clear d0 d1 K18
                have hle := HLe.out
                have z0 := (HB0.out.2.1.below hB HB0.out.1).cell 0
                go_wp2_with fail
                refine (HB.out _).mono ?_
                rintro e9 w9 ⟨rfl, h9⟩
                replace hB := hB.trans (h9.mono hB.size)
                clear h9 z0
                have hi9 : i < 60 := by have := Hi.out.1; omega
                go_wp2_with fail
                go_roundw
                case rel => exact ⟨i + 1, a', b', g', h', Hi.out.1, rfl, rfl, rfl, rfl, by go_num, HN, hB⟩
                case measure => have := Hi.out.1; simp [intOf] <;> omega
              · obtain rfl : i = m - q := by omega
                have HBx := Lib.hid hB
                clear hB
                go_wp2_with fail
                go_roundw
                case rel => exact ⟨q + 1, Hq.out.1, by go_num, HBx.out⟩
                case measure => have := Hq.out; simp [intOf] <;> omega
          · obtain rfl : q = m := by omega
            have HE := Lib.hid (HB0.out.2.2.trans (hB.mono HB0.out.2.2.size))
            clear hB
            go_wp2
            go_ret
            exact ⟨rfl, HE.out⟩

end Go.Proofs.Ytcdbkfmdilimaaa
