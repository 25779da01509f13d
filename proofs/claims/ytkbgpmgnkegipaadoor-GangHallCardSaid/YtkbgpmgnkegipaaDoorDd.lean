/-
  The landed gang: the rows of rising places, the function over which one ranges. No statement is proved here.
-/
import Derived.Test.YtkbgpmgnkegipaaDoorDa
import Derived.Test.YtkbgpmgnkegipaaDoorDc
import Derived.Test.YtkbgpmgnkegipaaDoorGl
import Derived.Deep.LoopGhost
namespace Go.Proofs.YtkbgpmgnkegipaaDoor
open Go.RowKit Go.Shelf Go.Maps

attribute [local go_sem] Oper.semAt_some

/-- what holds at the loop's head, m rounds ahead of its end -/
def SR (N B : Nat) (J : List Gg → World → Prop) (m : Nat) (v : Value) (wr : World) : Prop := ∃ pre A n c G, v = .slice A n c ∧ QU wr B A n c G ∧ Ahead N (gsI pre) (gsI G) ∧ m = wts N (gsI G) ∧ m ≤ 256 ∧ J pre wr ∧ B ≤ wr.heap.size
theorem nxt_last {p : List Int} {x : Int} {k : Nat} (hk : p.length = k + 1) (hx : p[k]? = some x) (h0 : 0 ≤ x) : (nxt p : Int) = x + 1 := by
  have h : p.getLast? = some x := by rw [List.getLast?_eq_getElem?, hk]; exact hx
  unfold nxt
  rw [h]
  show (((x + 1).toNat : Nat) : Int) = x + 1
  omega
theorem gsI_cons (e : Gg) (G : List Gg) : gsI (e :: G) = e.2.2.2 :: gsI G := rfl

set_option maxRecDepth 100000 in
set_option maxHeartbeats 16000000 in
theorem sel1_in (n : Nat) (hn : 1 ≤ n) (l g N B b0 : Nat) (hN : N ≤ 8) (hb0 : b0 ≤ B) (J : List Gg → World → Prop) (Jx : World → Prop) (W : World) (hBW : B = W.heap.size)
    (hJ : ∀ pre X Y, J pre X → Below B X Y → J pre Y) (hJg : ∀ pre X, J pre X → Blk X g 3 #[.int .i64 (N : Int)])
    (hY : ∀ pre x X, J pre X → (X.ownsRow b0 3 1 (slG x) x.2.1 (vs x.2.2.2) ∧ Rising N x.2.2.2 ∧ gsI (pre ++ [x]) <+: selL N) → YieldAt Fence.wide (n - 1) Tryd.prog l #[slG x] X fun e Y => (e = .returned (.bool true) ∧ J (pre ++ [x]) Y ∧ KpB B X Y) ∨ (e = .returned (.bool false) ∧ Jx Y))
    (h0 : J [] W) :
    CallsIn Fence.wide n Tryd.prog 42 #[.func (.yield l) #[] #[], .pointer (some ⟨g, 0, none⟩)] W fun e Y => (∃ v, e = .returned v) ∧ ((∃ xs, gsI xs = selL N ∧ J xs Y) ∨ Jx Y) := by
  obtain ⟨i0, hi, hz0, hz1, hz2⟩ := info_parts9 int_info
  have HY := Lib.hid hY
  have hJHid := Lib.hid hJ
  have HJg := Lib.hid hJg
  have HN8 := Lib.hid hN
  have HB0 := Lib.hid hb0
  have HST : Hid (SR N B J (wts N [[]]) (.slice (some ⟨W.heap.size, 0, none⟩) 1 1) (W.alloc (.cells #[.slice none 0 0] 27))) := Lib.hid ⟨[], _, 1, 1, [(none, 0, 0, [])], rfl,
    ⟨rfl, fun _ => ⟨W.heap.size, 0, #[.slice none 0 0], rfl, by omega, Blk.new _ _ _, by simp, Nat.le_refl _, by simp [maxLen], rfl⟩, fun e he => by rw [List.mem_singleton] at he; rw [he]; exact World.ownsRow_nil _ _ _ _⟩,
    ahead_zero N, rfl, by
      have h : wts N [[]] = 2 ^ N := by unfold wts wt nxt; simp
      rw [h]
      exact Nat.le_trans (Nat.pow_le_pow_right (by omega) hN) (by decide), hJ [] W _ h0 ((Below.refl _ _).alloc (by omega) _), by rw [World.size_alloc]; omega⟩
  clear hY hJ hJg hN h0 hBW hb0
  refine callsIn_of_wp Tryd.func42 rfl trivial ?_ rfl
  simp only [Tryd.ntmps42, List.size_toArray, List.length_cons, List.length_nil, Nat.reduceAdd, Nat.reduceSub, Array.replicate_succ, Array.replicate_zero, List.push_toArray, List.append_toArray, List.nil_append, List.cons_append]
  gi_wp2
  gi_loopw [4] (fun v wr => ∃ m, SR N B J m v wr) (fun v wr => leastOf (fun m => SR N B J m v wr))
  case atStart => exact ⟨_, HST.out⟩
  case round =>
    clear HST
    have hS := (leastOf_spec hrel).1
    obtain ⟨pre, A, n5, c5, G, rfl, hQ, hA, hm, hm256, hJ5, hs5⟩ := hS
    obtain ⟨m0, hm0⟩ : ∃ m0, leastOf (fun m => SR N B J m (.slice A n5 c5) wr) = m0 := ⟨_, rfl⟩
    rw [hm0] at hm hm256
    have HM0 := Lib.hid hm0
    have HM256 := Lib.hid hm256
    have HAH := Lib.hid hA
    have HJ5 := Lib.hid hJ5
    have HS5 := Lib.hid hs5
    clear hrel hm0 hm256 hA hJ5 hs5
    cases G with
    | nil =>
      obtain rfl : n5 = 0 := hQ.len.symm
      have HE := Lib.hid (ahead_end HAH.out)
      clear hQ hm
      gi_wp2
      go_end0
      exact ⟨⟨_, rfl⟩, .inl ⟨pre, HE.out, HJ5.out⟩⟩
    | cons e G2 =>
      obtain ⟨Ae, me, ce, ie⟩ := e
      rw [gsI_cons] at hm HAH
      dsimp only at hm HAH
      have HW0 := Lib.hid hm.symm
      have HRI := Lib.hid (ahead_mem HAH.out ie (by simp))
      have HPX : Hid (gsI (pre ++ [(Ae, me, ce, ie)]) <+: selL N) := Lib.hid (by
        have h3 : gsI (pre ++ [(Ae, me, ce, ie)]) = gsI pre ++ [ie] := by unfold gsI; rw [List.map_append]; rfl
        rw [h3]
        exact ahead_prefix (ahead_turn HAH.out))
      obtain ⟨q0, hq0⟩ : ∃ q, nxt ie = q := ⟨_, rfl⟩
      have HQ0 := Lib.hid hq0
      have HLOW : Hid (q0 ≤ N) := Lib.hid (by rw [← hq0]; exact HRI.out.low)
      have hml : ie.length = me := by
        have h := (hQ.mem (Ae, me, ce, ie) (by simp)).1
        dsimp only at h
        rw [length_vs] at h
        omega
      have HML : Hid (me ≤ 8) := Lib.hid (by have := HRI.out.len; have := HRI.out.low; have := HN8.out; omega)
      have HG2 : Hid (G2.length + 1 ≤ 256) := Lib.hid (by
        have h1 := wts_len N (ie :: gsI G2)
        have h2 := HM256.out
        rw [List.length_cons, gsI_len] at h1
        omega)
      have hlen := hQ.len
      rw [List.length_cons] at hlen
      obtain ⟨gq, of5, rfl, hBg, hgl, hnc, c0⟩ := hQ.head
      have l0 : decide ((0 : Int) < (n5 : Int)) = true := decide_eq_true (by omega)
      have i0' : (0 : Int) < (n5 : Int) := by omega
      have l0n : decide (0 < n5) = true := decide_eq_true (by omega)
      have HQ := Lib.hid hQ
      have HIL := Lib.hid hml
      obtain ⟨fn, tmps, assign, body, hy, hR⟩ := HY.out pre (Ae, me, ce, ie) wr HJ5.out ⟨own_down (hQ.mem (Ae, me, ce, ie) (by simp)) HB0.out, HRI.out, HPX.out⟩
      unfold slG at hy c0
      dsimp only at hy c0
      clear hm hQ hlen hBg hgl hnc hq0 hml
      gi_wp2_with fail
      refine hR.mono ?_
      rintro e2 W3 (⟨rfl, hJ3, hk3⟩ | ⟨rfl, hJx3⟩)
      · have HJ3 := Lib.hid hJ3
        have HQ3 := Lib.hid (HQ.out.kp hk3)
        have HS3 : Hid (B ≤ W3.heap.size) := Lib.hid (Nat.le_trans HS5.out hk3.1)
        clear hJ3 hk3 c0 hR hy HQ HJ5 HS5 l0 l0n i0'
        by_cases hme : me = 0
        · have HQZ : Hid (q0 = 0) := Lib.hid (by
            have h : ie = [] := List.eq_nil_of_length_eq_zero (by rw [HIL.out]; exact hme)
            have := HQ0.out
            rw [h] at this
            exact this.symm)
          have l3 : decide ((0 : Int) < (me : Int)) = false := decide_eq_false (by omega)
          have l3n : decide (0 < me) = false := decide_eq_false (by omega)
          clear hme
          gi_wp2
          clear l3 l3n
          gi_loopw [4, 6] (fun v nv wr => ∃ (j : Nat) (A6 : Option Addr) (n6 c6 : Nat) (Gk : List Gg), q0 ≤ j ∧ j ≤ N ∧ v = .slice A6 n6 c6 ∧ nv = .int .i64 (j : Int) ∧ Hid (QU wr B A6 n6 c6 ((Ae, me, ce, ie) :: G2 ++ Gk)) ∧ Hid (gsI Gk = kidsTo ie j) ∧ Hid (J (pre ++ [(Ae, me, ce, ie)]) wr) ∧ Hid (B ≤ wr.heap.size)) (fun _ nv _ => N - (intOf nv).toNat)
          case atStart => exact ⟨q0, _, _, _, [], Nat.le_refl _, HLOW.out, rfl, (by rw [HQZ.out]; rfl), Lib.hid (by rw [List.append_nil]; exact HQ3.out), Lib.hid (kidsTo_zero ie (Nat.le_of_eq HQ0.out.symm)).symm, HJ3, HS3⟩
          case round =>
            clear HQ3 HJ3 HS3
            obtain ⟨j, A6, n6, c6, Gk, hq0, hj, rfl, rfl, HQ6, HGK, HJ6, HS6⟩ := hrel
            have g0 := (HJg.out _ _ HJ6.out).cell 0
            have hlen : n6 = 1 + G2.length + (j - q0) := by
              have h1 := HQ6.out.len
              have h2 := congrArg List.length HGK.out
              rw [kidsTo_len, HQ0.out] at h2
              unfold gsI at h2
              rw [List.length_map] at h2
              rw [List.length_append, List.length_cons] at h1
              omega
            have hG2 := HG2.out
            obtain ⟨g6, of6, rfl, hBg6, hg6, hnc6, d0⟩ := HQ6.out.head
            by_cases hjN : j < N
            · have l2 : decide ((j : Int) < (N : Int)) = true := decide_eq_true (by omega)
              have l2n : decide (j < N) = true := decide_eq_true hjN
              have HIR : Hid (IR wr Ae me ie) := Lib.hid ⟨Reads.of_own (HQ6.out.mem (Ae, me, ce, ie) (by simp)), by have := HML.out; omega⟩
              have HCl := Lib.hid (clone_any Ae me ce ie wr HIR.out)
              have HN6 : Hid (n6 ≤ 1000 ∧ 0 < n6 ∧ me ≤ 8) := Lib.hid ⟨by have := HN8.out; omega, by omega, HML.out⟩
              have HJN : Hid (q0 ≤ j ∧ j < N) := Lib.hid ⟨hq0, hjN⟩
              have j100 : j < 100 := by have := HN8.out; omega
              clear hlen hG2 hjN hq0 hj d0 hnc6
              gi_wp2_with fail
              refine ⟨trivial, ?_⟩
              refine (callsIn_wide.2 HCl.out).mono ?_
              rintro e2 u2 ⟨Ai, ci, rfl, ho2, h9⟩
              have HO2 := Lib.hid ho2
              have HB2 := Lib.hid h9
              clear ho2 h9 g0
              gi_wp2_with (first
                | (gi_at_builtin
                   refine wpListIn_append_own _ rfl (.tmp 38) (.tmp 40) 27 rfl wr.heap.size 3 i0 (.int .i64 0) 1 8 Tryd.underlying27 hi hz0 hz1 hz2 rfl (by decide) (.slice Ai me ci) me (vs ie) rfl (HO2.out.alloc _) ⟨u2.heap.size, 0, none⟩ 1 1 [.int .i64 (j : Int)] rfl rfl (cell_one_new _ _ _) (by simp [Value.oneCell']) (by have := HN6.out; simp only [maxLen]; omega) (by have := HN6.out; omega) (by have := HB2.out.size; simp; omega) ?_
                   intro v9 w9 own9 grow9 _
                   rw [show vs ie ++ [.int .i64 (j : Int)] = vs (ie ++ [(j : Int)]) by unfold vs; rw [List.map_append]; rfl] at own9
                   obtain ⟨A9, c9, rfl, _, _⟩ := own_reads own9
                   have HO9 := Lib.hid own9
                   have HB9 : Hid (Below wr.heap.size wr w9) := Lib.hid ((HB2.out.alloc HB2.out.size _).grown grow9 (by have := HB2.out.size; simp; omega) (fun b hb => (HO2.out.lt b hb).1))
                   clear own9 grow9)
                | (gi_at_builtin
                   refine wpListIn_append_q _ rfl (.tmp 36) (.tmp 42) rfl B (some ⟨g6, of6, none⟩) n6 c6 ((Ae, me, ce, ie) :: G2 ++ Gk) rfl ((HQ6.out.kp (kpb_below HB9.out)).kp (kpb_alloc B w9 _)) HN6.out.2.1 (A9, me + 1, c9, ie ++ [(j : Int)]) w9.heap.size rfl (Blk.new w9 _ _) ((own_down HO9.out HS6.out).alloc _) (by have := HS6.out; have := HB9.out.size; simp; omega) HN6.out.1 ?_
                   intro A7 c7 w7 q7 b7 _
                   have HQ7 := Lib.hid q7
                   have HB7 : Hid (Below B wr w7) := Lib.hid (((HB9.out.mono HS6.out).alloc (Nat.le_trans HS6.out HB9.out.size) _).trans b7)
                   clear q7 b7))
              have HQ8 : Hid (QU w7 B A7 (n6 + 1) c7 ((Ae, me, ce, ie) :: G2 ++ (Gk ++ [(A9, me + 1, c9, ie ++ [(j : Int)])]))) := Lib.hid (by have h := HQ7.out; rwa [List.append_assoc] at h)
              have HG8 : Hid (gsI (Gk ++ [(A9, me + 1, c9, ie ++ [(j : Int)])]) = kidsTo ie (j + 1)) := Lib.hid (by
                have h := HGK.out
                unfold gsI at h ⊢
                rw [List.map_append, h, kidsTo_step ie (by rw [HQ0.out]; exact HJN.out.1)]
                rfl)
              have HJ8 := Lib.hid (hJHid.out _ _ _ HJ6.out HB7.out)
              have HS8 : Hid (B ≤ w7.heap.size) := Lib.hid (Nat.le_trans HS6.out HB7.out.size)
              go_roundw
              case rel => exact ⟨j + 1, A7, n6 + 1, c7, _, by have := HJN.out; omega, HJN.out.2, rfl, by go_num, HQ8, HG8, HJ8, HS8⟩
              case measure => have := HJN.out; simp [intOf] <;> omega
            · obtain rfl : N = j := by omega
              have l2 : decide ((N : Int) < (N : Int)) = false := decide_eq_false (by omega)
              have l2n : decide (N < N) = false := decide_eq_false (by omega)
              obtain ⟨n7, hn7⟩ : ∃ n7, n6 = n7 + 1 := ⟨n6 - 1, by omega⟩
              have HN7E := Lib.hid hn7
              have HN7 : Hid (n6 ≤ c6) := Lib.hid hnc6
              have i5 : (1 : Int) ≤ (n6 : Int) := by omega
              have i6 : (n6 : Int) ≤ (c6 : Int) := by omega
              have i7 : 1 ≤ n6 := by omega
              clear hn7
              have HW9 : Hid (wts N (gsI (G2 ++ Gk)) + 1 = m0) := Lib.hid (by
                have h1 := wts_turn N ie (gsI G2) (by rw [HQ0.out]; exact HLOW.out)
                have h2 : gsI (G2 ++ Gk) = gsI G2 ++ kids N ie := by
                  have h := HGK.out
                  unfold gsI at h ⊢
                  rw [List.map_append, h]
                  rfl
                rw [h2, h1, ← HW0.out])
              have HA9 : Hid (Ahead N (gsI (pre ++ [(Ae, me, ce, ie)])) (gsI (G2 ++ Gk))) := Lib.hid (by
                have h1 := ahead_turn HAH.out
                have h2 : gsI (G2 ++ Gk) = gsI G2 ++ kids N ie := by
                  have h := HGK.out
                  unfold gsI at h ⊢
                  rw [List.map_append, h]
                  rfl
                have h3 : gsI (pre ++ [(Ae, me, ce, ie)]) = gsI pre ++ [ie] := by unfold gsI; rw [List.map_append]; rfl
                rw [h2, h3]
                exact h1)
              clear hlen hG2 hjN hq0 hj d0 hnc6
              gi_wp2_with fail
              have HS9 : ∀ A8, (0 < n7 → A8 = some ⟨g6, of6 + 1, none⟩) → SR N B J (wts N (gsI (G2 ++ Gk))) (.slice A8 (n6 - 1) (c6 - 1)) wr := fun A8 h8 => by
                have h1 := HQ6.out
                have h2 := HN7E.out
                subst h2
                exact ⟨pre ++ [(Ae, me, ce, ie)], A8, n7, c6 - 1, G2 ++ Gk, rfl, h1.tail A8 h8, HA9.out, rfl, by have := HW9.out; have := HM256.out; omega, HJ6.out, HS6.out⟩
              have HSX := HS9 (if c6 = 1 then some ⟨g6, of6, none⟩ else some ⟨g6, of6 + 1, none⟩) (fun h => if_neg (by have := HN7.out; have := HN7E.out; omega))
              refine ⟨⟨_, HSX⟩, ?_⟩
              rw [HM0.out]
              exact Nat.lt_of_le_of_lt ((leastOf_spec ⟨_, HSX⟩).2 _ HSX) (by have := HW9.out; omega)
        · obtain ⟨k, hk⟩ : ∃ k, me = k + 1 := ⟨me - 1, by omega⟩
          obtain ⟨x, hx⟩ := elem_at (l := ie) (k := k) (by rw [HIL.out]; omega)
          have hIR : IR W3 Ae me ie := ⟨Reads.of_own (HQ3.out.mem (Ae, me, ce, ie) (by simp)), by have := HML.out; omega⟩
          obtain ⟨ade, rfl, _, c1⟩ := hIR.at_ hx
          have hx0 := HRI.out.place x (List.mem_of_getElem? hx)
          have hnx := nxt_last (by rw [HIL.out]; exact hk) hx hx0.1
          rw [HQ0.out] at hnx
          have hl8 := HN8.out
          have hlo := HLOW.out
          have m8 := HML.out
          have l3 : decide ((0 : Int) < (me : Int)) = true := decide_eq_true (by omega)
          have l3n : decide (0 < me) = true := decide_eq_true (by omega)
          have s3 : wrap64 ((me : Int) - 1) = (k : Int) := by unfold wrap64; omega
          have s4 : wrap64 (x + 1) = (q0 : Int) := by unfold wrap64; omega
          have HS4 := Lib.hid s4
          have i3 : (0 : Int) ≤ (k : Int) := by omega
          have i4 : (k : Int) < (me : Int) := by omega
          clear hme hk hx hIR hx0 hnx hl8 hlo m8
          gi_wp2
          clear c1 l3 l3n s3 s4 i3 i4
          gi_loopw [4, 6] (fun v nv wr => ∃ (j : Nat) (A6 : Option Addr) (n6 c6 : Nat) (Gk : List Gg), q0 ≤ j ∧ j ≤ N ∧ v = .slice A6 n6 c6 ∧ nv = .int .i64 (j : Int) ∧ Hid (QU wr B A6 n6 c6 (((some ade), me, ce, ie) :: G2 ++ Gk)) ∧ Hid (gsI Gk = kidsTo ie j) ∧ Hid (J (pre ++ [((some ade), me, ce, ie)]) wr) ∧ Hid (B ≤ wr.heap.size)) (fun _ nv _ => N - (intOf nv).toNat)
          case atStart => exact ⟨q0, _, _, _, [], Nat.le_refl _, HLOW.out, rfl, (by first | rfl | rw [HS4.out]), Lib.hid (by rw [List.append_nil]; exact HQ3.out), Lib.hid (kidsTo_zero ie (Nat.le_of_eq HQ0.out.symm)).symm, HJ3, HS3⟩
          case round =>
            clear HQ3 HJ3 HS3
            obtain ⟨j, A6, n6, c6, Gk, hq0, hj, rfl, rfl, HQ6, HGK, HJ6, HS6⟩ := hrel
            have g0 := (HJg.out _ _ HJ6.out).cell 0
            have hlen : n6 = 1 + G2.length + (j - q0) := by
              have h1 := HQ6.out.len
              have h2 := congrArg List.length HGK.out
              rw [kidsTo_len, HQ0.out] at h2
              unfold gsI at h2
              rw [List.length_map] at h2
              rw [List.length_append, List.length_cons] at h1
              omega
            have hG2 := HG2.out
            obtain ⟨g6, of6, rfl, hBg6, hg6, hnc6, d0⟩ := HQ6.out.head
            by_cases hjN : j < N
            · have l2 : decide ((j : Int) < (N : Int)) = true := decide_eq_true (by omega)
              have l2n : decide (j < N) = true := decide_eq_true hjN
              have HIR : Hid (IR wr (some ade) me ie) := Lib.hid ⟨Reads.of_own (HQ6.out.mem ((some ade), me, ce, ie) (by simp)), by have := HML.out; omega⟩
              have HCl := Lib.hid (clone_any (some ade) me ce ie wr HIR.out)
              have HN6 : Hid (n6 ≤ 1000 ∧ 0 < n6 ∧ me ≤ 8) := Lib.hid ⟨by have := HN8.out; omega, by omega, HML.out⟩
              have HJN : Hid (q0 ≤ j ∧ j < N) := Lib.hid ⟨hq0, hjN⟩
              have j100 : j < 100 := by have := HN8.out; omega
              clear hlen hG2 hjN hq0 hj d0 hnc6
              gi_wp2_with fail
              refine ⟨trivial, ?_⟩
              refine (callsIn_wide.2 HCl.out).mono ?_
              rintro e2 u2 ⟨Ai, ci, rfl, ho2, h9⟩
              have HO2 := Lib.hid ho2
              have HB2 := Lib.hid h9
              clear ho2 h9 g0
              gi_wp2_with (first
                | (gi_at_builtin
                   refine wpListIn_append_own _ rfl (.tmp 38) (.tmp 40) 27 rfl wr.heap.size 3 i0 (.int .i64 0) 1 8 Tryd.underlying27 hi hz0 hz1 hz2 rfl (by decide) (.slice Ai me ci) me (vs ie) rfl (HO2.out.alloc _) ⟨u2.heap.size, 0, none⟩ 1 1 [.int .i64 (j : Int)] rfl rfl (cell_one_new _ _ _) (by simp [Value.oneCell']) (by have := HN6.out; simp only [maxLen]; omega) (by have := HN6.out; omega) (by have := HB2.out.size; simp; omega) ?_
                   intro v9 w9 own9 grow9 _
                   rw [show vs ie ++ [.int .i64 (j : Int)] = vs (ie ++ [(j : Int)]) by unfold vs; rw [List.map_append]; rfl] at own9
                   obtain ⟨A9, c9, rfl, _, _⟩ := own_reads own9
                   have HO9 := Lib.hid own9
                   have HB9 : Hid (Below wr.heap.size wr w9) := Lib.hid ((HB2.out.alloc HB2.out.size _).grown grow9 (by have := HB2.out.size; simp; omega) (fun b hb => (HO2.out.lt b hb).1))
                   clear own9 grow9)
                | (gi_at_builtin
                   refine wpListIn_append_q _ rfl (.tmp 36) (.tmp 42) rfl B (some ⟨g6, of6, none⟩) n6 c6 (((some ade), me, ce, ie) :: G2 ++ Gk) rfl ((HQ6.out.kp (kpb_below HB9.out)).kp (kpb_alloc B w9 _)) HN6.out.2.1 (A9, me + 1, c9, ie ++ [(j : Int)]) w9.heap.size rfl (Blk.new w9 _ _) ((own_down HO9.out HS6.out).alloc _) (by have := HS6.out; have := HB9.out.size; simp; omega) HN6.out.1 ?_
                   intro A7 c7 w7 q7 b7 _
                   have HQ7 := Lib.hid q7
                   have HB7 : Hid (Below B wr w7) := Lib.hid (((HB9.out.mono HS6.out).alloc (Nat.le_trans HS6.out HB9.out.size) _).trans b7)
                   clear q7 b7))
              have HQ8 : Hid (QU w7 B A7 (n6 + 1) c7 (((some ade), me, ce, ie) :: G2 ++ (Gk ++ [(A9, me + 1, c9, ie ++ [(j : Int)])]))) := Lib.hid (by have h := HQ7.out; rwa [List.append_assoc] at h)
              have HG8 : Hid (gsI (Gk ++ [(A9, me + 1, c9, ie ++ [(j : Int)])]) = kidsTo ie (j + 1)) := Lib.hid (by
                have h := HGK.out
                unfold gsI at h ⊢
                rw [List.map_append, h, kidsTo_step ie (by rw [HQ0.out]; exact HJN.out.1)]
                rfl)
              have HJ8 := Lib.hid (hJHid.out _ _ _ HJ6.out HB7.out)
              have HS8 : Hid (B ≤ w7.heap.size) := Lib.hid (Nat.le_trans HS6.out HB7.out.size)
              go_roundw
              case rel => exact ⟨j + 1, A7, n6 + 1, c7, _, by have := HJN.out; omega, HJN.out.2, rfl, by go_num, HQ8, HG8, HJ8, HS8⟩
              case measure => have := HJN.out; simp [intOf] <;> omega
            · obtain rfl : N = j := by omega
              have l2 : decide ((N : Int) < (N : Int)) = false := decide_eq_false (by omega)
              have l2n : decide (N < N) = false := decide_eq_false (by omega)
              obtain ⟨n7, hn7⟩ : ∃ n7, n6 = n7 + 1 := ⟨n6 - 1, by omega⟩
              have HN7E := Lib.hid hn7
              have HN7 : Hid (n6 ≤ c6) := Lib.hid hnc6
              have i5 : (1 : Int) ≤ (n6 : Int) := by omega
              have i6 : (n6 : Int) ≤ (c6 : Int) := by omega
              have i7 : 1 ≤ n6 := by omega
              clear hn7
              have HW9 : Hid (wts N (gsI (G2 ++ Gk)) + 1 = m0) := Lib.hid (by
                have h1 := wts_turn N ie (gsI G2) (by rw [HQ0.out]; exact HLOW.out)
                have h2 : gsI (G2 ++ Gk) = gsI G2 ++ kids N ie := by
                  have h := HGK.out
                  unfold gsI at h ⊢
                  rw [List.map_append, h]
                  rfl
                rw [h2, h1, ← HW0.out])
              have HA9 : Hid (Ahead N (gsI (pre ++ [((some ade), me, ce, ie)])) (gsI (G2 ++ Gk))) := Lib.hid (by
                have h1 := ahead_turn HAH.out
                have h2 : gsI (G2 ++ Gk) = gsI G2 ++ kids N ie := by
                  have h := HGK.out
                  unfold gsI at h ⊢
                  rw [List.map_append, h]
                  rfl
                have h3 : gsI (pre ++ [((some ade), me, ce, ie)]) = gsI pre ++ [ie] := by unfold gsI; rw [List.map_append]; rfl
                rw [h2, h3]
                exact h1)
              clear hlen hG2 hjN hq0 hj d0 hnc6
              gi_wp2_with fail
              have HS9 : ∀ A8, (0 < n7 → A8 = some ⟨g6, of6 + 1, none⟩) → SR N B J (wts N (gsI (G2 ++ Gk))) (.slice A8 (n6 - 1) (c6 - 1)) wr := fun A8 h8 => by
                have h1 := HQ6.out
                have h2 := HN7E.out
                subst h2
                exact ⟨pre ++ [((some ade), me, ce, ie)], A8, n7, c6 - 1, G2 ++ Gk, rfl, h1.tail A8 h8, HA9.out, rfl, by have := HW9.out; have := HM256.out; omega, HJ6.out, HS6.out⟩
              have HSX := HS9 (if c6 = 1 then some ⟨g6, of6, none⟩ else some ⟨g6, of6 + 1, none⟩) (fun h => if_neg (by have := HN7.out; have := HN7E.out; omega))
              refine ⟨⟨_, HSX⟩, ?_⟩
              rw [HM0.out]
              exact Nat.lt_of_le_of_lt ((leastOf_spec ⟨_, HSX⟩).2 _ HSX) (by have := HW9.out; omega)
      · gi_wp2
        refine bodyPost_ret (results_none rfl _ _ _) rfl ?_
        exact ⟨⟨_, rfl⟩, .inr hJx3⟩

set_option maxRecDepth 100000 in
set_option maxHeartbeats 1000000 in
theorem sel_in (n : Nat) (N : Nat) (w : World) :
    CallsIn Fence.wide n Tryd.prog 21 #[.int .i64 (N : Int)] w fun e w' => e = .returned (.func (.func 42) #[] #[.pointer (some ⟨w.heap.size, 0, none⟩)]) ∧ w' = w.alloc (.cells #[.int .i64 (N : Int)] 3) := by
  refine callsIn_of_wp Tryd.func21 rfl trivial ?_ rfl
  simp only [Tryd.ntmps21, List.size_toArray, List.length_cons, List.length_nil, Nat.reduceAdd, Nat.reduceSub, Array.replicate_succ, Array.replicate_zero, List.push_toArray, List.append_toArray, List.nil_append, List.cons_append]
  gi_wp2
  go_ret
  exact ⟨rfl, rfl⟩

end Go.Proofs.YtkbgpmgnkegipaaDoor
