/-
  WheelNext's walk: ahead of Next none fires; at it one does. No statement is proved here.
-/
import Derived.Test.YtbhcpkmofnfjgaaWq
namespace Go.Proofs.Ytbhcpkmofnfjgaa
open Go.RowKit

theorem Rt.later {now tm : Int} {ts : List Tm} (h : Rt now ts) (hm : ∀ t ∈ ts, tm < t.2) : Rt tm ts := ⟨fun t ht => by
  have h1 := tmB_iff.1 (h.each t ht)
  exact tmB_iff.2 ⟨h1.1, h1.2.1, hm t ht, h1.2.2.2⟩, h.rise⟩
theorem laid_first {ts : List Tm} {a b : Int} {l : List Tm} (h : laidL ts = (a, b) :: l) : (a, b) ∈ ts ∧ ∀ t ∈ ts, b ≤ t.2 := by
  refine ⟨mem_laid.1 (by rw [h]; simp), fun t ht => ?_⟩
  have hs := laid_sort ts
  have hm := mem_laid.2 ht
  rw [h] at hs hm
  rcases List.mem_cons.1 hm with rfl | hm
  · exact Int.le_refl _
  · exact (List.pairwise_cons.1 hs).1 t hm
structure NextM (now : Int) (ts : List Tm) (b : Int) : Prop where
  ahead : passV now ts (b - 1) = (((b - 1, ts), []), 0)
  at_ : ∃ (a : Int) (l L : List Tm), passV (b - 1) ts b = (((b, L), (a, b) :: l), 0) ∧ L.length + ((a, b) :: l).length = ts.length
  big : 0 ≤ b ∧ b ≤ 1125899906842624
theorem filter_two (p : Tm → Bool) : ∀ l : List Tm, (l.filter fun t => !p t).length + (l.filter p).length = l.length
  | [] => rfl
  | x :: l => by
    have ih := filter_two p l
    cases h : p x <;> simp [h] <;> omega
theorem next_math {now : Int} {ts : List Tm} {a b : Int} {l : List Tm} (hc : chkW now ts = true) (h : laidL ts = (a, b) :: l) : NextM now ts b := by
  obtain ⟨h1, h2⟩ := laid_first h
  obtain ⟨c1, c2, c3⟩ := chkW_iff.1 hc
  have hb := tmB_iff.1 (c3.each _ h1)
  dsimp only at hb
  have e1 : ts.filter (fun t => !decide (t.2 ≤ b - 1)) = ts := List.filter_eq_self.2 (fun t ht => by have := h2 t ht; simp; omega)
  have e2 : ts.filter (fun t => decide (t.2 ≤ b - 1)) = [] := List.filter_eq_nil_iff.2 (fun t ht => by have := h2 t ht; simp; omega)
  have c4 : chkW (b - 1) ts = true := chkW_iff.2 ⟨by omega, by omega, c3.later (fun t ht => by have := h2 t ht; omega)⟩
  refine ⟨?_, ?_, by omega⟩
  · unfold passV
    rw [if_pos hc, if_pos (by omega), e1, e2]
    rfl
  · have hm : (a, b) ∈ laidL (ts.filter fun t => decide (t.2 ≤ b)) := mem_laid.2 (List.mem_filter.2 ⟨h1, by simp⟩)
    cases hL : laidL (ts.filter fun t => decide (t.2 ≤ b)) with
    | nil => rw [hL] at hm; simp at hm
    | cons t l' =>
      obtain ⟨a', b'⟩ := t
      obtain ⟨g1, g2⟩ := laid_first hL
      have g3 := List.mem_filter.1 g1
      have g4 : b' ≤ b := by simpa using g3.2
      have g5 := h2 _ g3.1
      dsimp only at g5
      obtain rfl : b' = b := by omega
      refine ⟨a', l', ts.filter fun t => !decide (t.2 ≤ b'), ?_, ?_⟩
      · unfold passV
        rw [if_pos c4, if_pos (by omega), hL]
      · rw [← hL, laid_len]
        exact filter_two _ ts

set_option maxRecDepth 100000 in
set_option maxHeartbeats 8000000 in
theorem next_walk (now : Int) (A : Option Addr) (n c : Nat) (ts : List Tm) (w : World) (hR : Reads w w.heap.size 2 A n (flat tv ts)) (hn : n ≤ maxLen) : Calls Try.prog 7 #[.agg #[.int .i64 now, .slice A n c]] w (Said (.bool true) w) := by
  obtain ⟨K0, GB⟩ := box1 w 24 #[.int .i64 now, .slice A n c]
  have HWk := Lib.hid (fun (u : World) => wakes_any u)
  unfold maxLen at hn
  by_cases h100 : 100 < n
  · have e1 : decide ((100 : Int) < (n : Int)) = true := decide_eq_true (by omega)
    have e2 : (100 : Int) < (n : Int) := by omega
    clear hR h100
    go_enter Try.func7, Try.ntmps7
    go_wp2_with fail
    refine (HWk.out _).mono ?_
    rintro e w1 ⟨rfl, h9⟩
    replace K0 := K0.below h9 K0.lt
    replace GB := GB.trans (h9.mono GB.size)
    clear h9
    have z1 := K0.cell 1
    go_wp2
    go_ret
    exact ⟨rfl, GB⟩
  have e1 : decide ((100 : Int) < (n : Int)) = false := decide_eq_false (by omega)
  have e2 : ¬ (100 : Int) < (n : Int) := by omega
  have hG : WR w A n ts := ⟨hR, by omega⟩
  have HNx := Lib.hid (fun (u : World) (h : Below w.heap.size w u) => next_any now A n c ts u (hG.below h))
  have HCk := Lib.hid (fun (u : World) (h : Below w.heap.size w u) => check_any now A n c ts u (hG.below h))
  have HPa := Lib.hid (fun (tm : Int) (u : World) (h : Below w.heap.size w u) => pass_any now A n c ts tm u (hG.below h))
  have HL := Lib.hid hG.len
  clear hR h100
  cases hc : chkW now ts with
  | false =>
    rw [show nextV now ts = (0, false) from by unfold nextV; rw [hc]; rfl] at HNx
    rw [hc, show errW false = 250 from rfl] at HCk
    clear hc hG HPa
    go_enter Try.func7, Try.ntmps7
    go_wp2_with fail
    refine (HWk.out _).mono ?_
    rintro e w1 ⟨rfl, h9⟩
    replace K0 := K0.below h9 K0.lt
    replace GB := GB.trans (h9.mono GB.size)
    clear h9
    have z0 := K0.cell 0
    have z1 := K0.cell 1
    go_wp2_with fail
    refine (HNx.out _ GB).mono ?_
    rintro e w2 ⟨rfl, h9⟩
    replace K0 := K0.below h9 K0.lt
    replace GB := GB.trans (h9.mono GB.size)
    clear h9 z0 z1
    have z0 := K0.cell 0
    have z1 := K0.cell 1
    go_wp2_with fail
    refine (HCk.out _ GB).mono ?_
    rintro e w3 ⟨rfl, h9⟩
    replace GB := GB.trans (h9.mono GB.size)
    clear h9 z0 z1 K0
    go_wp2
    go_ret
    exact ⟨rfl, GB⟩
  | true =>
    cases hL : laidL ts with
    | nil =>
      have h0 : n = 0 := by rw [← hG.len, ← laid_len, hL]; rfl
      subst h0
      rw [show nextV now ts = (0, false) from by unfold nextV; rw [if_pos hc, hL]] at HNx
      rw [hc, show errW true = 0 from rfl] at HCk
      clear hc hG HPa hL
      go_enter Try.func7, Try.ntmps7
      go_wp2_with fail
      refine (HWk.out _).mono ?_
      rintro e w1 ⟨rfl, h9⟩
      replace K0 := K0.below h9 K0.lt
      replace GB := GB.trans (h9.mono GB.size)
      clear h9
      have z0 := K0.cell 0
      have z1 := K0.cell 1
      go_wp2_with fail
      refine (HNx.out _ GB).mono ?_
      rintro e w2 ⟨rfl, h9⟩
      replace K0 := K0.below h9 K0.lt
      replace GB := GB.trans (h9.mono GB.size)
      clear h9 z0 z1
      have z0 := K0.cell 0
      have z1 := K0.cell 1
      go_wp2_with fail
      refine (HCk.out _ GB).mono ?_
      rintro e w3 ⟨rfl, h9⟩
      replace K0 := K0.below h9 K0.lt
      replace GB := GB.trans (h9.mono GB.size)
      clear h9 z0 z1
      have z1 := K0.cell 1
      go_wp2
      go_ret
      exact ⟨rfl, GB⟩
    | cons t l0 =>
      obtain ⟨a0, b⟩ := t
      have HM := next_math hc hL
      rw [show nextV now ts = (b, true) from by unfold nextV; rw [if_pos hc, hL]] at HNx
      obtain ⟨a, l, L, hp2, hlen⟩ := HM.at_
      have HP1 := Lib.hid (fun (u : World) (h : Below w.heap.size w u) => HPa.out (b - 1) u h)
      rw [HM.ahead] at HP1
      have HP2 := Lib.hid (fun (A' : Option Addr) (c' : Nat) (u : World) (h : WR u A' n ts) => pass_any (b - 1) A' n c' ts b u h)
      rw [hp2] at HP2
      have w1 : wrap64 (b - 1) = b - 1 := by have := HM.big; unfold wrap64; omega
      have HLen := Lib.hid hlen
      have n9 : n ≤ 100 := by omega
      clear hc hG HPa HCk hL HM hp2 hlen
      go_enter Try.func7, Try.ntmps7
      go_wp2_with fail
      refine (HWk.out _).mono ?_
      rintro e u1 ⟨rfl, h9⟩
      replace K0 := K0.below h9 K0.lt
      replace GB := GB.trans (h9.mono GB.size)
      clear h9
      have z0 := K0.cell 0
      have z1 := K0.cell 1
      go_wp2_with fail
      refine (HNx.out _ GB).mono ?_
      rintro e u2 ⟨rfl, h9⟩
      replace K0 := K0.below h9 K0.lt
      replace GB := GB.trans (h9.mono GB.size)
      clear h9 z0 z1
      have z0 := K0.cell 0
      have z1 := K0.cell 1
      go_wp2_with fail
      refine (HP1.out _ GB).mono ?_
      rintro e u3 ⟨A1, n1, c1, B1, m1, d1, rfl, hl1, hl2, O1, -, h9⟩
      obtain rfl : n1 = n := by rw [← hl1]; exact HL.out
      obtain rfl : m1 = 0 := by simpa using hl2.symm
      have HW := Lib.hid (WR.of_own O1 (by omega))
      replace K0 := K0.below h9 K0.lt
      replace GB := GB.trans (h9.mono GB.size)
      have K5 := Blk.new u3 24 #[.int .i64 (b - 1), .slice A1 n1 c1]
      have HB3 := (Below.refl u3.heap.size u3).alloc (Nat.le_refl _) (.cells #[.int .i64 (b - 1), .slice A1 n1 c1] 24)
      replace K0 := K0.alloc (.cells #[.int .i64 (b - 1), .slice A1 n1 c1] 24)
      replace GB := GB.alloc GB.size (.cells #[.int .i64 (b - 1), .slice A1 n1 c1] 24)
      have HW3 := Lib.hid (HW.out.below HB3)
      have y0 := K5.cell 0
      have y1 := K5.cell 1
      clear h9 z0 z1 O1 HB3 HW hl1 hl2
      go_wp2_with fail
      refine (HP2.out A1 c1 _ HW3.out).mono ?_
      rintro e u4 ⟨A2, n2, c2, B2, m2, d2, rfl, hl1, hl2, -, O3, h9⟩
      replace K0 := K0.below h9 K0.lt
      replace GB := GB.trans (h9.mono GB.size)
      obtain ⟨g, rfl, -, hg, q0, q1⟩ := own_head O3
      have K8 := Blk.new u4 24 #[.int .i64 b, .slice A2 n2 c2]
      have HB4 := (Below.refl u4.heap.size u4).alloc (Nat.le_refl _) (.cells #[.int .i64 b, .slice A2 n2 c2] 24)
      replace K0 := K0.alloc (.cells #[.int .i64 b, .slice A2 n2 c2] 24)
      replace GB := GB.alloc GB.size (.cells #[.int .i64 b, .slice A2 n2 c2] 24)
      have p1 := (HB4.cell (p := ⟨g, 1, none⟩) hg).trans q1
      have m2p : 0 < m2 := by rw [← hl2]; simp
      have hsum : n2 + m2 = n1 := by have h5 := HLen.out; have h6 := HL.out; dsimp only at hl1 hl2; omega
      have i1 : decide ((0 : Int) < (m2 : Int)) = true := decide_eq_true (by omega)
      have i2 : (0 : Int) < (m2 : Int) := by omega
      have i3 : ((n2 : Int) + (m2 : Int) == (n1 : Int)) = true := by simp; omega
      have i6 : wrap64 ((n2 : Int) + (m2 : Int)) = (n2 : Int) + (m2 : Int) := by unfold wrap64; omega
      have i4 : (wrap64 ((n2 : Int) + (m2 : Int)) == (n1 : Int)) = true := by rw [i6]; exact i3
      have i5 : ¬ (m2 = 0) := by omega
      have z1 := K0.cell 1
      have x1 := K8.cell 1
      have b1 : (b == b) = true := by simp
      clear h9 y0 y1 O3 HB4 hl1 hl2 HW3 HP2 HP1 K5 hg q0 q1 K0 K8 HLen hsum
      go_wp2_with fail
      go_ret
      exact ⟨rfl, GB⟩

end Go.Proofs.Ytbhcpkmofnfjgaa
