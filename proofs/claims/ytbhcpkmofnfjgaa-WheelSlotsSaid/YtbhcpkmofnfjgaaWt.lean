/-
  WheelPasses' walk. No statement is proved here.
-/
import Derived.Test.YtbhcpkmofnfjgaaWo
import Derived.Test.YtbhcpkmofnfjgaaWl
import Derived.Test.YtbhcpkmofnfjgaaWr
namespace Go.Proofs.Ytbhcpkmofnfjgaa
open Go.RowKit

theorem sameW_rf (a : Int) (l : List Tm) : sameW a l a l = true := by unfold sameW; simp
theorem sameT_rf (l : List Tm) : sameT l l = true := by unfold sameT; simp
def leastD (l : List Tm) : Int := l.foldl (fun m t => if m = 0 ∨ t.2 < m then t.2 else m) 0
theorem least_step {l : List Tm} {k : Nat} {x : Tm} (h : l[k]? = some x) : leastD (l.take (k + 1)) = if leastD (l.take k) = 0 ∨ x.2 < leastD (l.take k) then x.2 else leastD (l.take k) := by
  unfold leastD
  rw [List.take_add_one, h, List.foldl_append]
  rfl
theorem least_fold : ∀ (l : List Tm) (m : Int), 0 < m → (∀ t ∈ l, 0 < t.2) → (let r := l.foldl (fun m t => if m = 0 ∨ t.2 < m then t.2 else m) m; 0 < r ∧ r ≤ m ∧ (∀ t ∈ l, r ≤ t.2) ∧ (r = m ∨ ∃ t ∈ l, t.2 = r))
  | [], m, hm, _ => ⟨hm, Int.le_refl _, fun t h => by simp at h, .inl rfl⟩
  | x :: l, m, hm, h => by
    have hx := h x (by simp)
    rw [List.foldl_cons]
    by_cases hlt : x.2 < m
    · rw [if_pos (.inr hlt)]
      obtain ⟨h1, h2, h3, h4⟩ := least_fold l x.2 hx (fun t ht => h t (by simp [ht]))
      refine ⟨h1, by omega, fun t ht => ?_, ?_⟩
      · rcases List.mem_cons.1 ht with rfl | ht
        · exact h2
        · exact h3 t ht
      · rcases h4 with h4 | ⟨t, ht, h4⟩
        · exact .inr ⟨x, by simp, h4.symm⟩
        · exact .inr ⟨t, by simp [ht], h4⟩
    · rw [if_neg (by omega)]
      obtain ⟨h1, h2, h3, h4⟩ := least_fold l m hm (fun t ht => h t (by simp [ht]))
      refine ⟨h1, h2, fun t ht => ?_, ?_⟩
      · rcases List.mem_cons.1 ht with rfl | ht
        · omega
        · exact h3 t ht
      · rcases h4 with h4 | ⟨t, ht, h4⟩
        · exact .inl h4
        · exact .inr ⟨t, by simp [ht], h4⟩
theorem least_next {now : Int} {ts : List Tm} (hc : chkW now ts = true) : nextV now ts = (leastD ts, decide (0 < leastD ts)) := by
  obtain ⟨h0, _, hR⟩ := chkW_iff.1 hc
  have hpos : ∀ t ∈ ts, 0 < t.2 := fun t ht => by have := tmB_iff.1 (hR.each t ht); omega
  unfold nextV
  rw [if_pos hc]
  cases ts with
  | nil => rfl
  | cons x l =>
    have hx := hpos x (by simp)
    have e : leastD (x :: l) = l.foldl (fun m t => if m = 0 ∨ t.2 < m then t.2 else m) x.2 := by
      unfold leastD
      rw [List.foldl_cons, if_pos (.inl rfl)]
    obtain ⟨h1, h2, h3, h4⟩ := least_fold l x.2 hx (fun t ht => hpos t (by simp [ht]))
    rw [← e] at h1 h2 h3 h4
    cases hL : laidL (x :: l) with
    | nil => have := laid_len (x :: l); rw [hL] at this; simp at this
    | cons t m =>
      obtain ⟨a, b⟩ := t
      obtain ⟨g1, g2⟩ := laid_first hL
      have hb : b = leastD (x :: l) := by
        have q1 : leastD (x :: l) ≤ b := by
          rcases List.mem_cons.1 g1 with e1 | g1
          · have e2 : b = x.2 := by rw [← e1]
            rw [e2]; exact h2
          · exact h3 _ g1
        have q2 : b ≤ leastD (x :: l) := by
          rcases h4 with h4 | ⟨t, ht, h4⟩
          · rw [h4]; exact g2 x (by simp)
          · rw [← h4]; exact g2 t (by simp [ht])
        omega
      dsimp only
      rw [hb, decide_eq_true h1]

set_option maxRecDepth 100000 in
set_option maxHeartbeats 16000000 in
theorem passes_walk (now : Int) (A : Option Addr) (n c : Nat) (ts : List Tm) (tm : Int) (w : World) (hR : Reads w w.heap.size 2 A n (flat tv ts)) (hn : n ≤ maxLen) : Calls Try.prog 4 #[.agg #[.int .i64 now, .slice A n c], .int .i64 tm] w (Said (.bool true) w) := by
  obtain ⟨K0, GB⟩ := box1 w 24 #[.int .i64 now, .slice A n c]
  have HWk := Lib.hid (fun (u : World) => wakes_any u)
  unfold maxLen at hn
  by_cases h100 : 100 < n
  · have e1 : decide ((100 : Int) < (n : Int)) = true := decide_eq_true (by omega)
    have e2 : (100 : Int) < (n : Int) := by omega
    clear hR h100
    go_enter Try.func4, Try.ntmps4
    go_wp2_with fail
    refine (HWk.out _).mono ?_
    rintro e w1 ⟨rfl, h9⟩
    replace K0 := K0.below h9 K0.lt
    replace GB := GB.trans (h9.mono GB.size)
    clear h9
    have z1 := K0.cell 1
    go_wp2
    go_ret
    exact ⟨rfl, GB⟩
  have e1 : decide ((100 : Int) < (n : Int)) = false := decide_eq_false (by omega)
  have e2 : ¬ (100 : Int) < (n : Int) := by omega
  have hG : WR w A n ts := ⟨hR, by omega⟩
  have hn9 : n ≤ 1000 := by omega
  have HCo := Lib.hid (fun (u : World) (h : Below w.heap.size w u) => copied_any now A n c ts u (hG.below h))
  have HPa := Lib.hid (fun (u : World) (A' : Option Addr) (c' : Nat) (h : WR u A' n ts) => pass_any now A' n c' ts tm u h)
  have HMo := Lib.hid (fun (u : World) (A' : Option Addr) (c' : Nat) (h : WR u A' n ts) => moves_any now A' n c' ts tm u h)
  have HNx := Lib.hid (fun (u : World) (A' : Option Addr) (c' : Nat) (h : WR u A' n ts) => next_any now A' n c' ts u h)
  have HSm := Lib.hid (fun (u : World) (A' : Option Addr) (c' : Nat) (h : WR u A' n ts) (hb : Below w.heap.size w u) => rsame_any now now A' A n c' n c ts ts u h (hG.below hb))
  rw [sameW_rf] at HSm
  have HRi := Lib.hid (fun (u : World) (h : Below w.heap.size w u) => right_any now A n c ts u (hG.below h))
  have HDp := Lib.hid (fun (u : World) (h : Below w.heap.size w u) => rpass_any now A n c ts tm u (hG.below h))
  have HL := Lib.hid hG.len
  have n9 : n ≤ 100 := by omega
  clear hR h100
  cases hc : chkW now ts with
  | false =>
    have hp : passV now ts tm = (((0, []), []), 250) := by unfold passV; rw [hc]; rfl
    rw [show movesV now ts tm = (0, 250) from by unfold movesV; rw [hp]; rfl] at HMo
    rw [hp] at HPa
    rw [show nextV now ts = (0, false) from by unfold nextV; rw [hc]; rfl] at HNx
    rw [hc] at HRi
    have HB2 : Hid (([] : List Tm).length ≤ 1000) := Lib.hid (by simp)
    have HB3 : Hid (([] : List Tm).length ≤ 1000) := Lib.hid (by simp)
    clear hc hp HDp
    go_enter Try.func4, Try.ntmps4
    go_wp2_with fail
    refine (HWk.out _).mono ?_
    rintro e u1 ⟨rfl, h9⟩
    replace K0 := K0.below h9 K0.lt
    replace GB := GB.trans (h9.mono GB.size)
    clear h9 
    have zK00 := K0.cell 0
    have zK01 := K0.cell 1
    go_wp2_with fail
    refine (HCo.out _ GB).mono ?_
    rintro e u2 ⟨A1, n1, c1, rfl, hl1, O1, h9⟩
    obtain rfl : n1 = n := hl1.symm.trans HL.out
    have W1 := WR.of_own O1 hn9
    replace K0 := K0.below h9 K0.lt
    replace GB := GB.trans (h9.mono GB.size)
    clear h9 O1 hl1 zK00 zK01
    have K7 := Blk.new u2 24 #[.int .i64 now, .slice A1 n1 c1]
    replace K0 := K0.alloc (.cells #[.int .i64 now, .slice A1 n1 c1] 24)
    replace W1 := W1.below ((Below.refl _ _).alloc (Nat.le_refl _) (.cells #[.int .i64 now, .slice A1 n1 c1] 24))
    replace GB := GB.alloc GB.size (.cells #[.int .i64 now, .slice A1 n1 c1] 24)
    have zK70 := K7.cell 0
    have zK71 := K7.cell 1
    go_wp2_with fail
    refine (HPa.out _ A1 c1 W1).mono ?_
    rintro e u3 ⟨A2, n2, c2, B2, m2, d2, rfl, hl2, hl3, O2, O3, h9⟩
    replace K0 := K0.below h9 K0.lt
    replace K7 := K7.below h9 K7.lt
    replace W1 := W1.below h9
    have W2 := WR.of_own O2 (by dsimp only at hl2; have := HB2.out; omega)
    have W3 := WR.of_own O3 (by dsimp only at hl3; have := HB3.out; omega)
    replace GB := GB.trans (h9.mono GB.size)
    dsimp only at hl2 hl3
    clear h9 O2 O3 zK70 zK71
    have K8 := Blk.new u3 24 #[.int .i64 0, .slice A2 n2 c2]
    replace K0 := K0.alloc (.cells #[.int .i64 0, .slice A2 n2 c2] 24)
    replace K7 := K7.alloc (.cells #[.int .i64 0, .slice A2 n2 c2] 24)
    replace W1 := W1.below ((Below.refl _ _).alloc (Nat.le_refl _) (.cells #[.int .i64 0, .slice A2 n2 c2] 24))
    replace W2 := W2.below ((Below.refl _ _).alloc (Nat.le_refl _) (.cells #[.int .i64 0, .slice A2 n2 c2] 24))
    replace W3 := W3.below ((Below.refl _ _).alloc (Nat.le_refl _) (.cells #[.int .i64 0, .slice A2 n2 c2] 24))
    replace GB := GB.alloc GB.size (.cells #[.int .i64 0, .slice A2 n2 c2] 24)
    have zK70 := K7.cell 0
    have zK71 := K7.cell 1
    go_wp2_with fail
    refine (HMo.out _ A1 c1 W1).mono ?_
    rintro e u4 ⟨rfl, h9⟩
    replace K0 := K0.below h9 K0.lt
    replace K7 := K7.below h9 K7.lt
    replace K8 := K8.below h9 K8.lt
    replace W1 := W1.below h9
    replace W2 := W2.below h9
    replace W3 := W3.below h9
    replace GB := GB.trans (h9.mono GB.size)
    clear h9 zK70 zK71
    have zK70 := K7.cell 0
    have zK71 := K7.cell 1
    go_wp2_with fail
    refine (HNx.out _ A1 c1 W1).mono ?_
    rintro e u5 ⟨rfl, h9⟩
    replace K0 := K0.below h9 K0.lt
    replace K7 := K7.below h9 K7.lt
    replace K8 := K8.below h9 K8.lt
    replace W1 := W1.below h9
    replace W2 := W2.below h9
    replace W3 := W3.below h9
    replace GB := GB.trans (h9.mono GB.size)
    clear h9 zK70 zK71
    have zK70 := K7.cell 0
    have zK71 := K7.cell 1
    have zK00 := K0.cell 0
    have zK01 := K0.cell 1
    go_wp2_with fail
    refine (HSm.out _ A1 c1 W1 GB).mono ?_
    rintro e u6 ⟨rfl, h9⟩
    replace K0 := K0.below h9 K0.lt
    replace K7 := K7.below h9 K7.lt
    replace K8 := K8.below h9 K8.lt
    replace W1 := W1.below h9
    replace W2 := W2.below h9
    replace W3 := W3.below h9
    replace GB := GB.trans (h9.mono GB.size)
    clear h9 zK70 zK71 zK00 zK01
    have zK00 := K0.cell 0
    have zK01 := K0.cell 1
    go_wp2_with fail
    refine (HRi.out _ GB).mono ?_
    rintro e u7 ⟨rfl, h9⟩
    replace K0 := K0.below h9 K0.lt
    replace K8 := K8.below h9 K8.lt
    replace W2 := W2.below h9
    replace W3 := W3.below h9
    replace GB := GB.trans (h9.mono GB.size)
    clear h9 zK00 zK01 W1 K7

    obtain rfl : n2 = 0 := by simpa using hl2.symm
    obtain rfl : m2 = 0 := by simpa using hl3.symm
    have zK80 := K8.cell 0
    have zK81 := K8.cell 1
    go_wp2_with fail
    go_ret
    exact ⟨rfl, GB⟩
  | true =>
    obtain ⟨h0, h1, hRt⟩ := chkW_iff.1 hc
    rw [hc] at HRi
    obtain ⟨nv, hnv⟩ : ∃ nv, leastD ts = nv := ⟨_, rfl⟩
    rw [least_next hc, hnv] at HNx
    have HLe := Lib.hid hnv
    clear hnv
    rcases pass_cases now ts tm with ⟨E, hp, hE, hE2, hno⟩ | ⟨hp, -, hin1, hin2⟩
    · rw [hc, if_pos rfl] at hE2
      subst hE2
      have HREF : Hid (tm < now ∨ (¬ tm < now ∧ 1125899906842624 < tm)) := Lib.hid (by
        by_cases g1 : tm < now
        · exact .inl g1
        · refine .inr ⟨g1, ?_⟩
          apply Classical.byContradiction
          intro g2
          exact hno ⟨hc, by omega, by omega⟩)
      rw [show movesV now ts tm = (0, 2) from by unfold movesV; rw [hp]; rfl] at HMo
      rw [hp] at HPa
      have HB2 : Hid (([] : List Tm).length ≤ 1000) := Lib.hid (by simp)
      have HB3 : Hid (([] : List Tm).length ≤ 1000) := Lib.hid (by simp)
      clear hc hp hE hno HDp h0 h1 hRt
      go_enter Try.func4, Try.ntmps4
      go_wp2_with fail
      refine (HWk.out _).mono ?_
      rintro e u1 ⟨rfl, h9⟩
      replace K0 := K0.below h9 K0.lt
      replace GB := GB.trans (h9.mono GB.size)
      clear h9 
      have zK00 := K0.cell 0
      have zK01 := K0.cell 1
      go_wp2_with fail
      refine (HCo.out _ GB).mono ?_
      rintro e u2 ⟨A1, n1, c1, rfl, hl1, O1, h9⟩
      obtain rfl : n1 = n := hl1.symm.trans HL.out
      have W1 := WR.of_own O1 hn9
      replace K0 := K0.below h9 K0.lt
      replace GB := GB.trans (h9.mono GB.size)
      clear h9 O1 hl1 zK00 zK01
      have K7 := Blk.new u2 24 #[.int .i64 now, .slice A1 n1 c1]
      replace K0 := K0.alloc (.cells #[.int .i64 now, .slice A1 n1 c1] 24)
      replace W1 := W1.below ((Below.refl _ _).alloc (Nat.le_refl _) (.cells #[.int .i64 now, .slice A1 n1 c1] 24))
      replace GB := GB.alloc GB.size (.cells #[.int .i64 now, .slice A1 n1 c1] 24)
      have zK70 := K7.cell 0
      have zK71 := K7.cell 1
      go_wp2_with fail
      refine (HPa.out _ A1 c1 W1).mono ?_
      rintro e u3 ⟨A2, n2, c2, B2, m2, d2, rfl, hl2, hl3, O2, O3, h9⟩
      replace K0 := K0.below h9 K0.lt
      replace K7 := K7.below h9 K7.lt
      replace W1 := W1.below h9
      have W2 := WR.of_own O2 (by dsimp only at hl2; have := HB2.out; omega)
      have W3 := WR.of_own O3 (by dsimp only at hl3; have := HB3.out; omega)
      replace GB := GB.trans (h9.mono GB.size)
      dsimp only at hl2 hl3
      clear h9 O2 O3 zK70 zK71
      have K8 := Blk.new u3 24 #[.int .i64 0, .slice A2 n2 c2]
      replace K0 := K0.alloc (.cells #[.int .i64 0, .slice A2 n2 c2] 24)
      replace K7 := K7.alloc (.cells #[.int .i64 0, .slice A2 n2 c2] 24)
      replace W1 := W1.below ((Below.refl _ _).alloc (Nat.le_refl _) (.cells #[.int .i64 0, .slice A2 n2 c2] 24))
      replace W2 := W2.below ((Below.refl _ _).alloc (Nat.le_refl _) (.cells #[.int .i64 0, .slice A2 n2 c2] 24))
      replace W3 := W3.below ((Below.refl _ _).alloc (Nat.le_refl _) (.cells #[.int .i64 0, .slice A2 n2 c2] 24))
      replace GB := GB.alloc GB.size (.cells #[.int .i64 0, .slice A2 n2 c2] 24)
      have zK70 := K7.cell 0
      have zK71 := K7.cell 1
      go_wp2_with fail
      refine (HMo.out _ A1 c1 W1).mono ?_
      rintro e u4 ⟨rfl, h9⟩
      replace K0 := K0.below h9 K0.lt
      replace K7 := K7.below h9 K7.lt
      replace K8 := K8.below h9 K8.lt
      replace W1 := W1.below h9
      replace W2 := W2.below h9
      replace W3 := W3.below h9
      replace GB := GB.trans (h9.mono GB.size)
      clear h9 zK70 zK71
      have zK70 := K7.cell 0
      have zK71 := K7.cell 1
      go_wp2_with fail
      refine (HNx.out _ A1 c1 W1).mono ?_
      rintro e u5 ⟨rfl, h9⟩
      replace K0 := K0.below h9 K0.lt
      replace K7 := K7.below h9 K7.lt
      replace K8 := K8.below h9 K8.lt
      replace W1 := W1.below h9
      replace W2 := W2.below h9
      replace W3 := W3.below h9
      replace GB := GB.trans (h9.mono GB.size)
      clear h9 zK70 zK71
      have zK70 := K7.cell 0
      have zK71 := K7.cell 1
      have zK00 := K0.cell 0
      have zK01 := K0.cell 1
      go_wp2_with fail
      refine (HSm.out _ A1 c1 W1 GB).mono ?_
      rintro e u6 ⟨rfl, h9⟩
      replace K0 := K0.below h9 K0.lt
      replace K7 := K7.below h9 K7.lt
      replace K8 := K8.below h9 K8.lt
      replace W1 := W1.below h9
      replace W2 := W2.below h9
      replace W3 := W3.below h9
      replace GB := GB.trans (h9.mono GB.size)
      clear h9 zK70 zK71 zK00 zK01
      have zK00 := K0.cell 0
      have zK01 := K0.cell 1
      go_wp2_with fail
      refine (HRi.out _ GB).mono ?_
      rintro e u7 ⟨rfl, h9⟩
      replace K0 := K0.below h9 K0.lt
      replace K8 := K8.below h9 K8.lt
      replace W2 := W2.below h9
      replace W3 := W3.below h9
      replace GB := GB.trans (h9.mono GB.size)
      clear h9 zK00 zK01 W1 K7

      obtain rfl : n2 = 0 := by simpa using hl2.symm
      obtain rfl : m2 = 0 := by simpa using hl3.symm
      have zK00 := K0.cell 0
      have zK01 := K0.cell 1
      go_wp2_with fail
      clear zK00 zK01
      have HBASE := Lib.hid (And.intro K0 (And.intro K8 (And.intro W2 (And.intro W3 (And.intro GB (hG.below GB))))))
      clear K0 K8 W2 W3 GB
      go_loopw [13, 90] (fun sv iv wr => ∃ (k : Nat), k ≤ n1 ∧ sv = .int .i64 (leastD (ts.take k)) ∧ iv = .int .i64 (k : Int) ∧ Below u7.heap.size u7 wr) (fun _ iv _ => n1 - (intOf iv).toNat)
      case atStart => exact ⟨0, Nat.zero_le _, rfl, rfl, Below.refl _ _⟩
      case round =>
        obtain ⟨k, hk, rfl, rfl, HB⟩ := hrel
        by_cases hlt : k < n1
        · obtain ⟨⟨a, b⟩, hx⟩ := elem_at (l := ts) (k := k) (by rw [HL.out]; exact hlt)
          obtain ⟨ad, rfl, hb, q0, q1⟩ := tm_at (HBASE.out.2.2.2.2.2.below HB).row hx
          have HST := Lib.hid (least_step hx)
          obtain ⟨S, hS⟩ : ∃ S, leastD (ts.take k) = S := ⟨_, rfl⟩
          rw [hS] at HST ⊢
          have j0 : (0 : Int) ≤ (k : Int) := by omega
          have j1 : (k : Int) < (n1 : Int) := by omega
          have l1 : decide ((k : Int) < (n1 : Int)) = true := decide_eq_true j1
          have KB := Blk.new wr 44 #[.int .i64 a, .int .i64 b]
          have HB1 := HB.alloc HB.size (.cells #[.int .i64 a, .int .i64 b] 44)
          have y0 := KB.cell 0
          have y1 := KB.cell 1
          dsimp only at HST
          clear hx hb hS HB
          by_cases h0 : S = 0
          · have e0 : (S == 0) = true := by simpa using h0
            have HE : Hid (leastD (ts.take (k + 1)) = b) := Lib.hid (by rw [HST.out, if_pos (.inl h0)])
            clear h0 HST
            go_wp2_with fail
            go_roundw
            case rel => exact ⟨k + 1, by omega, by rw [HE.out], by go_num, HB1⟩
            case measure => simp [intOf] <;> omega
          · have e0 : (S == 0) = false := by simpa using h0
            by_cases h1 : b < S
            · have e9 : decide (b < S) = true := decide_eq_true h1
              have HE : Hid (leastD (ts.take (k + 1)) = b) := Lib.hid (by rw [HST.out, if_pos (.inr h1)])
              clear h0 h1 HST
              go_wp2_with fail
              go_roundw
              case rel => exact ⟨k + 1, by omega, by rw [HE.out], by go_num, HB1⟩
              case measure => simp [intOf] <;> omega
            · have e9 : decide (b < S) = false := decide_eq_false h1
              have HE : Hid (leastD (ts.take (k + 1)) = S) := Lib.hid (by rw [HST.out, if_neg (fun h => h.elim h0 h1)])
              clear h0 h1 HST
              go_wp2_with fail
              go_roundw
              case rel => exact ⟨k + 1, by omega, by rw [HE.out], by go_num, HB1⟩
              case measure => simp [intOf] <;> omega
        · obtain rfl : k = n1 := by omega
          have l1 : decide ((k : Int) < (k : Int)) = false := decide_eq_false (by omega)
          have e1t : ts.take k = ts := by rw [← HL.out]; exact List.take_length
          rw [e1t, HLe.out]
          have K0 := HBASE.out.1.below HB HBASE.out.1.lt
          have K8 := HBASE.out.2.1.below HB HBASE.out.2.1.lt
          have W2 := HBASE.out.2.2.1.below HB
          have W3 := HBASE.out.2.2.2.1.below HB
          have GB := HBASE.out.2.2.2.2.1.trans (HB.mono HBASE.out.2.2.2.2.1.size)
          have q3 : (nv != nv) = false := by simp
          clear HB e1t HBASE
          rcases HREF.out with h | ⟨h1, h⟩
          · have q1 : decide (tm < now) = true := decide_eq_true h
            clear h
            have zK00 := K0.cell 0
            have zK01 := K0.cell 1
            have zK80 := K8.cell 0
            have zK81 := K8.cell 1
            go_wp2_with fail
            go_ret
            exact ⟨rfl, GB⟩
          · have q1 : decide (tm < now) = false := decide_eq_false (by omega)
            have q2 : decide (1125899906842624 < tm) = true := decide_eq_true h
            clear h h1
            have zK00 := K0.cell 0
            have zK01 := K0.cell 1
            have zK80 := K8.cell 0
            have zK81 := K8.cell 1
            go_wp2_with fail
            go_ret
            exact ⟨rfl, GB⟩
    · have HACC : Hid (decide (tm < now) = false ∧ decide (1125899906842624 < tm) = false) := Lib.hid ⟨decide_eq_false (by omega), decide_eq_false (by omega)⟩
      obtain ⟨Lx, hLx⟩ : ∃ Lx, (ts.filter fun t => !decide (t.2 ≤ tm)) = Lx := ⟨_, rfl⟩
      obtain ⟨Ld, hLd⟩ : ∃ Ld, laidL (ts.filter fun t => decide (t.2 ≤ tm)) = Ld := ⟨_, rfl⟩
      have hb2 : Lx.length ≤ n := by rw [← hLx, ← HL.out]; exact List.length_filter_le _ _
      have hb3 : Ld.length ≤ n := by rw [← hLd, laid_len, ← HL.out]; exact List.length_filter_le _ _
      have hmem : ∀ a b, (a, b) ∈ Lx → now < b ∧ tm < b ∧ b ≤ 1125899906842624 := fun a b h => by
        rw [← hLx] at h
        obtain ⟨m1, m2⟩ := List.mem_filter.1 h
        have := tmB_iff.1 (hRt.each _ m1)
        simp at m2
        dsimp only at this
        omega
      have HPl : Hid (∀ (x a b : Int) (u : World), (a, b) ∈ Lx → (x = now ∨ x = tm) → Calls Try.prog 21 #[.int .i64 x, .int .i64 b] u fun e w' => e = .returned (.tuple #[.int .i64 (spotT x b).1, .int .i64 (spotT x b).2]) ∧ u = w') := Lib.hid (fun x a b u h hx => by
        have hm := hmem a b h
        have hx0 : 0 ≤ x ∧ x < b := by rcases hx with rfl | rfl <;> omega
        have q := rplace_any x b u hx0.1 (by omega) (by omega) hm.2.2
        rwa [placeF_ok hx0.1 hx0.2 hm.2.2] at q)
      rw [hLx, hLd] at hp HDp
      obtain ⟨mv, hmv⟩ : ∃ mv, sumM now tm Lx = mv := ⟨_, rfl⟩
      rw [show movesV now ts tm = (mv, 0) from by unfold movesV; rw [hp, if_pos rfl, ← hmv]] at HMo
      have HSv := Lib.hid hmv
      rw [hp] at HPa
      have HB2 : Hid (Lx.length ≤ 1000) := Lib.hid (by omega)
      have HB3 : Hid (Ld.length ≤ 1000) := Lib.hid (by omega)
      have HSw := Lib.hid (fun (u : World) (A' : Option Addr) (n' c' : Nat) (B' : Option Addr) (m' d' : Nat) (h : WR u A' n' Lx) (h' : WR u B' m' Lx) => rsame_any tm tm A' B' n' c' m' d' _ _ u h h')
      rw [sameW_rf] at HSw
      have HSt := Lib.hid (fun (u : World) (A' : Option Addr) (n' c' : Nat) (B' : Option Addr) (m' d' : Nat) (h : WR u A' n' Ld) (h' : WR u B' m' Ld) => rtimers_any A' B' n' c' m' d' _ _ u h.row h'.row (by have := h.small; unfold maxLen; omega))
      rw [sameT_rf] at HSt
      clear hc hp hin1 hin2 hLx hLd hb2 hb3 hmem hmv h0 h1 hRt
      go_enter Try.func4, Try.ntmps4
      go_wp2_with fail
      refine (HWk.out _).mono ?_
      rintro e u1 ⟨rfl, h9⟩
      replace K0 := K0.below h9 K0.lt
      replace GB := GB.trans (h9.mono GB.size)
      clear h9 
      have zK00 := K0.cell 0
      have zK01 := K0.cell 1
      go_wp2_with fail
      refine (HCo.out _ GB).mono ?_
      rintro e u2 ⟨A1, n1, c1, rfl, hl1, O1, h9⟩
      obtain rfl : n1 = n := hl1.symm.trans HL.out
      have W1 := WR.of_own O1 hn9
      replace K0 := K0.below h9 K0.lt
      replace GB := GB.trans (h9.mono GB.size)
      clear h9 O1 hl1 zK00 zK01
      have K7 := Blk.new u2 24 #[.int .i64 now, .slice A1 n1 c1]
      replace K0 := K0.alloc (.cells #[.int .i64 now, .slice A1 n1 c1] 24)
      replace W1 := W1.below ((Below.refl _ _).alloc (Nat.le_refl _) (.cells #[.int .i64 now, .slice A1 n1 c1] 24))
      replace GB := GB.alloc GB.size (.cells #[.int .i64 now, .slice A1 n1 c1] 24)
      have zK70 := K7.cell 0
      have zK71 := K7.cell 1
      go_wp2_with fail
      refine (HPa.out _ A1 c1 W1).mono ?_
      rintro e u3 ⟨A2, n2, c2, B2, m2, d2, rfl, hl2, hl3, O2, O3, h9⟩
      replace K0 := K0.below h9 K0.lt
      replace K7 := K7.below h9 K7.lt
      replace W1 := W1.below h9
      have W2 := WR.of_own O2 (by dsimp only at hl2; have := HB2.out; omega)
      have W3 := WR.of_own O3 (by dsimp only at hl3; have := HB3.out; omega)
      replace GB := GB.trans (h9.mono GB.size)
      dsimp only at hl2 hl3
      clear h9 O2 O3 zK70 zK71
      have K8 := Blk.new u3 24 #[.int .i64 tm, .slice A2 n2 c2]
      replace K0 := K0.alloc (.cells #[.int .i64 tm, .slice A2 n2 c2] 24)
      replace K7 := K7.alloc (.cells #[.int .i64 tm, .slice A2 n2 c2] 24)
      replace W1 := W1.below ((Below.refl _ _).alloc (Nat.le_refl _) (.cells #[.int .i64 tm, .slice A2 n2 c2] 24))
      replace W2 := W2.below ((Below.refl _ _).alloc (Nat.le_refl _) (.cells #[.int .i64 tm, .slice A2 n2 c2] 24))
      replace W3 := W3.below ((Below.refl _ _).alloc (Nat.le_refl _) (.cells #[.int .i64 tm, .slice A2 n2 c2] 24))
      replace GB := GB.alloc GB.size (.cells #[.int .i64 tm, .slice A2 n2 c2] 24)
      have zK70 := K7.cell 0
      have zK71 := K7.cell 1
      go_wp2_with fail
      refine (HMo.out _ A1 c1 W1).mono ?_
      rintro e u4 ⟨rfl, h9⟩
      replace K0 := K0.below h9 K0.lt
      replace K7 := K7.below h9 K7.lt
      replace K8 := K8.below h9 K8.lt
      replace W1 := W1.below h9
      replace W2 := W2.below h9
      replace W3 := W3.below h9
      replace GB := GB.trans (h9.mono GB.size)
      clear h9 zK70 zK71
      have zK70 := K7.cell 0
      have zK71 := K7.cell 1
      go_wp2_with fail
      refine (HNx.out _ A1 c1 W1).mono ?_
      rintro e u5 ⟨rfl, h9⟩
      replace K0 := K0.below h9 K0.lt
      replace K7 := K7.below h9 K7.lt
      replace K8 := K8.below h9 K8.lt
      replace W1 := W1.below h9
      replace W2 := W2.below h9
      replace W3 := W3.below h9
      replace GB := GB.trans (h9.mono GB.size)
      clear h9 zK70 zK71
      have zK70 := K7.cell 0
      have zK71 := K7.cell 1
      have zK00 := K0.cell 0
      have zK01 := K0.cell 1
      go_wp2_with fail
      refine (HSm.out _ A1 c1 W1 GB).mono ?_
      rintro e u6 ⟨rfl, h9⟩
      replace K0 := K0.below h9 K0.lt
      replace K7 := K7.below h9 K7.lt
      replace K8 := K8.below h9 K8.lt
      replace W1 := W1.below h9
      replace W2 := W2.below h9
      replace W3 := W3.below h9
      replace GB := GB.trans (h9.mono GB.size)
      clear h9 zK70 zK71 zK00 zK01
      have zK00 := K0.cell 0
      have zK01 := K0.cell 1
      go_wp2_with fail
      refine (HRi.out _ GB).mono ?_
      rintro e u7 ⟨rfl, h9⟩
      replace K0 := K0.below h9 K0.lt
      replace K8 := K8.below h9 K8.lt
      replace W2 := W2.below h9
      replace W3 := W3.below h9
      replace GB := GB.trans (h9.mono GB.size)
      clear h9 zK00 zK01 W1 K7

      have zK00 := K0.cell 0
      have zK01 := K0.cell 1
      go_wp2_with fail
      clear zK00 zK01
      have HBASE := Lib.hid (And.intro K0 (And.intro K8 (And.intro W2 (And.intro W3 (And.intro GB (hG.below GB))))))
      clear K0 K8 W2 W3 GB
      go_loopw [13, 90] (fun sv iv wr => ∃ (k : Nat), k ≤ n1 ∧ sv = .int .i64 (leastD (ts.take k)) ∧ iv = .int .i64 (k : Int) ∧ Below u7.heap.size u7 wr) (fun _ iv _ => n1 - (intOf iv).toNat)
      case atStart => exact ⟨0, Nat.zero_le _, rfl, rfl, Below.refl _ _⟩
      case round =>
        obtain ⟨k, hk, rfl, rfl, HB⟩ := hrel
        by_cases hlt : k < n1
        · obtain ⟨⟨a, b⟩, hx⟩ := elem_at (l := ts) (k := k) (by rw [HL.out]; exact hlt)
          obtain ⟨ad, rfl, hb, q0, q1⟩ := tm_at (HBASE.out.2.2.2.2.2.below HB).row hx
          have HST := Lib.hid (least_step hx)
          obtain ⟨S, hS⟩ : ∃ S, leastD (ts.take k) = S := ⟨_, rfl⟩
          rw [hS] at HST ⊢
          have j0 : (0 : Int) ≤ (k : Int) := by omega
          have j1 : (k : Int) < (n1 : Int) := by omega
          have l1 : decide ((k : Int) < (n1 : Int)) = true := decide_eq_true j1
          have KB := Blk.new wr 44 #[.int .i64 a, .int .i64 b]
          have HB1 := HB.alloc HB.size (.cells #[.int .i64 a, .int .i64 b] 44)
          have y0 := KB.cell 0
          have y1 := KB.cell 1
          dsimp only at HST
          clear hx hb hS HB
          by_cases h0 : S = 0
          · have e0 : (S == 0) = true := by simpa using h0
            have HE : Hid (leastD (ts.take (k + 1)) = b) := Lib.hid (by rw [HST.out, if_pos (.inl h0)])
            clear h0 HST
            go_wp2_with fail
            go_roundw
            case rel => exact ⟨k + 1, by omega, by rw [HE.out], by go_num, HB1⟩
            case measure => simp [intOf] <;> omega
          · have e0 : (S == 0) = false := by simpa using h0
            by_cases h1 : b < S
            · have e9 : decide (b < S) = true := decide_eq_true h1
              have HE : Hid (leastD (ts.take (k + 1)) = b) := Lib.hid (by rw [HST.out, if_pos (.inr h1)])
              clear h0 h1 HST
              go_wp2_with fail
              go_roundw
              case rel => exact ⟨k + 1, by omega, by rw [HE.out], by go_num, HB1⟩
              case measure => simp [intOf] <;> omega
            · have e9 : decide (b < S) = false := decide_eq_false h1
              have HE : Hid (leastD (ts.take (k + 1)) = S) := Lib.hid (by rw [HST.out, if_neg (fun h => h.elim h0 h1)])
              clear h0 h1 HST
              go_wp2_with fail
              go_roundw
              case rel => exact ⟨k + 1, by omega, by rw [HE.out], by go_num, HB1⟩
              case measure => simp [intOf] <;> omega
        · obtain rfl : k = n1 := by omega
          have l1 : decide ((k : Int) < (k : Int)) = false := decide_eq_false (by omega)
          have e1t : ts.take k = ts := by rw [← HL.out]; exact List.take_length
          rw [e1t, HLe.out]
          have K0 := HBASE.out.1.below HB HBASE.out.1.lt
          have K8 := HBASE.out.2.1.below HB HBASE.out.2.1.lt
          have W2 := HBASE.out.2.2.1.below HB
          have W3 := HBASE.out.2.2.2.1.below HB
          have GB := HBASE.out.2.2.2.2.1.trans (HB.mono HBASE.out.2.2.2.2.1.size)
          have q3 : (nv != nv) = false := by simp
          clear HB e1t HBASE
          have q1 : decide (tm < now) = false := HACC.out.1
          have q2 : decide (1125899906842624 < tm) = false := HACC.out.2
          have HG7 := Lib.hid (hG.below GB)
          have zK00 := K0.cell 0
          have zK01 := K0.cell 1
          obtain ⟨X, rfl⟩ : ∃ X, X = wr := ⟨_, rfl⟩
          go_wp2_with fail
          refine (HDp.out _ GB).mono ?_
          rintro e u9 ⟨A6, n6, c6, B6, m6, d6, rfl, hl6, hl7, O6, O7, h9⟩
          replace K0 := K0.below h9 K0.lt
          replace K8 := K8.below h9 K8.lt
          replace W2 := W2.below h9
          replace W3 := W3.below h9
          have W6 := WR.of_own O6 (by have := HB2.out; omega)
          have W7 := WR.of_own O7 (by have := HB3.out; omega)
          replace GB := GB.trans (h9.mono GB.size)
          clear h9 O6 O7 HG7 zK00 zK01
          have K16 := Blk.new u9 24 #[.int .i64 tm, .slice A6 n6 c6]
          replace K0 := K0.alloc (.cells #[.int .i64 tm, .slice A6 n6 c6] 24)
          replace K8 := K8.alloc (.cells #[.int .i64 tm, .slice A6 n6 c6] 24)
          replace W2 := W2.below ((Below.refl _ _).alloc (Nat.le_refl _) (.cells #[.int .i64 tm, .slice A6 n6 c6] 24))
          replace W3 := W3.below ((Below.refl _ _).alloc (Nat.le_refl _) (.cells #[.int .i64 tm, .slice A6 n6 c6] 24))
          replace W6 := W6.below ((Below.refl _ _).alloc (Nat.le_refl _) (.cells #[.int .i64 tm, .slice A6 n6 c6] 24))
          replace W7 := W7.below ((Below.refl _ _).alloc (Nat.le_refl _) (.cells #[.int .i64 tm, .slice A6 n6 c6] 24))
          replace GB := GB.alloc GB.size (.cells #[.int .i64 tm, .slice A6 n6 c6] 24)
          have zK160 := K16.cell 0
          have zK161 := K16.cell 1
          go_wp2_with fail
          clear zK160 zK161
          generalize u9.alloc (.cells #[.int .i64 tm, .slice A6 n6 c6] 24) = X9 at *
          have HL6 := Lib.hid hl6
          have m6b : n6 ≤ 1000 := W6.small
          have HBASE := Lib.hid (And.intro K0 (And.intro K8 (And.intro K16 (And.intro W2 (And.intro W3 (And.intro W6 (And.intro W7 GB)))))))
          clear K0 K8 K16 W2 W3 W6 W7 GB hl6 hl7
          go_loopw [18, 152] (fun sv iv wr => ∃ (k : Nat), k ≤ n6 ∧ sv = .int .i64 (sumM now tm (Lx.take k)) ∧ iv = .int .i64 (k : Int) ∧ Below X9.heap.size X9 wr) (fun _ iv _ => n6 - (intOf iv).toNat)
          case atStart => exact ⟨0, Nat.zero_le _, rfl, rfl, Below.refl _ _⟩
          case round =>
            obtain ⟨k, hk, rfl, rfl, HB⟩ := hrel
            by_cases hlt : k < n6
            · obtain ⟨⟨a, b⟩, hx⟩ := elem_at (l := Lx) (k := k) (by rw [HL6.out]; exact hlt)
              obtain ⟨ad, rfl, hb, p0, p1⟩ := tm_at (HBASE.out.2.2.2.2.2.1.below HB).row hx
              have HQ1 := Lib.hid (fun (u : World) => HPl.out now a b u (List.mem_of_getElem? hx) (.inl rfl))
              have HQ2 := Lib.hid (fun (u : World) => HPl.out tm a b u (List.mem_of_getElem? hx) (.inr rfl))
              have hst := sum_step (now := now) (tm := tm) hx
              have hsm := sum_small now tm (Lx.take k)
              rw [List.length_take, HL6.out] at hsm
              have l1' := spot_level now b
              have l2' := spot_level tm b
              obtain ⟨f1, g1, h1⟩ : ∃ p q, spotT now b = (p, q) := ⟨_, _, rfl⟩
              obtain ⟨f2, g2, h2⟩ : ∃ p q, spotT tm b = (p, q) := ⟨_, _, rfl⟩
              dsimp only at hst
              rw [h1] at HQ1 hst l1'
              rw [h2] at HQ2 hst l2'
              dsimp only at HQ1 HQ2 hst l1' l2'
              obtain ⟨S, hS⟩ : ∃ S, sumM now tm (Lx.take k) = S := ⟨_, rfl⟩
              rw [hS] at hst hsm ⊢
              have HE := Lib.hid hst
              have w1 : wrap64 (f1 - f2) = f1 - f2 := by unfold wrap64; omega
              have w2 : wrap64 (S + (f1 - f2)) = S + (f1 - f2) := by unfold wrap64; omega
              have j0 : (0 : Int) ≤ (k : Int) := by omega
              have j1 : (k : Int) < (n6 : Int) := by omega
              have l1 : decide ((k : Int) < (n6 : Int)) = true := decide_eq_true j1
              have K0 := HBASE.out.1.below HB HBASE.out.1.lt
              have KB := Blk.new wr 44 #[.int .i64 a, .int .i64 b]
              replace K0 := K0.alloc (.cells #[.int .i64 a, .int .i64 b] 44)
              have HB1 := HB.alloc HB.size (.cells #[.int .i64 a, .int .i64 b] 44)
              have x0 := K0.cell 0
              have y0 := KB.cell 0
              have y1 := KB.cell 1
              clear hx hb hst hsm h1 h2 hS l1' l2' HB
              go_wp2_with fail
              refine (HQ1.out _).mono ?_
              rintro e v1 ⟨rfl, rfl⟩
              go_wp2_with fail
              refine (HQ2.out _).mono ?_
              rintro e v2 ⟨rfl, rfl⟩
              go_wp2_with fail
              go_roundw
              case rel => exact ⟨k + 1, by omega, by rw [HE.out, w2], by go_num, HB1⟩
              case measure => simp [intOf] <;> omega
            · obtain rfl : k = n6 := by omega
              have l1 : decide ((k : Int) < (k : Int)) = false := decide_eq_false (by omega)
              have e1t : Lx.take k = Lx := by rw [← HL6.out]; exact List.take_length
              rw [e1t, HSv.out]
              have K8 := HBASE.out.2.1.below HB HBASE.out.2.1.lt
              have K16 := HBASE.out.2.2.1.below HB HBASE.out.2.2.1.lt
              have W2 := HBASE.out.2.2.2.1.below HB
              have W3 := HBASE.out.2.2.2.2.1.below HB
              have W6 := HBASE.out.2.2.2.2.2.1.below HB
              have W7 := HBASE.out.2.2.2.2.2.2.1.below HB
              have GB := HBASE.out.2.2.2.2.2.2.2.trans (HB.mono HBASE.out.2.2.2.2.2.2.2.size)
              have e7 : (mv == mv) = true := by simp
              clear HB e1t HBASE
              have zK80 := K8.cell 0
              have zK81 := K8.cell 1
              have zK160 := K16.cell 0
              have zK161 := K16.cell 1
              go_wp2_with fail
              refine (HSw.out _ A2 n2 c2 A6 k c6 W2 W6).mono ?_
              rintro e v3 ⟨rfl, h9⟩
              replace W3 := W3.below h9
              replace W7 := W7.below h9
              replace GB := GB.trans (h9.mono GB.size)
              clear h9 zK80 zK81 zK160 zK161 K8 K16 W2 W6
              go_wp2_with fail
              refine (HSt.out _ B2 m2 d2 B6 m6 d6 W3 W7).mono ?_
              rintro e v4 ⟨rfl, h9⟩
              replace GB := GB.trans (h9.mono GB.size)
              clear h9 W3 W7
              go_wp2_with fail
              go_ret
              exact ⟨rfl, GB⟩

end Go.Proofs.Ytbhcpkmofnfjgaa
