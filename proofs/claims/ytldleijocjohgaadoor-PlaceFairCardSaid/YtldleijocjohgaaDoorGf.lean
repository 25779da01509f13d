/-
  The landed place: the function over which one ranges. No statement is proved here.
-/
import Derived.Test.YtldleijocjohgaaDoorGe
import Derived.RangeFuncBox
import Derived.RangeFuncLeaves
import Derived.RangeFuncCalls
import Derived.Shelf.Abstract
import Derived.OwnWalkIn
import Derived.TacticsInMore
import Derived.LoopNIn
import Derived.LoopIn
import Derived.Deep.RegionHeld3
import Derived.BigRegionIn
namespace Go.Proofs.YtldleijocjohgaaDoor
open Go.RowKit Go.Shelf

/-- no deferred call -/
def plainOp : Op → Bool | .defer _ => false | _ => true
theorem plain_ops {ops : Array Oper} (h : ops.toList.all (fun o => plainOp o.op) = true) : ∀ (i : Nat) (o : Oper), ops[i]? = some o → ∀ c, o.op ≠ .defer c := by
  intro i o ho c hc
  rw [List.all_eq_true] at h
  have := h o (by rw [Array.mem_toList_iff]; exact Array.mem_of_getElem? ho)
  rw [hc] at this
  cases this

section
variable {P : Program} {ops : Array Oper} {Q : Exit → Act → World → Prop}
theorem rows_in {n : Nat} {row : String} {args : Array Value} {w : World} {R : Value → World → Prop} (l : Nat) (h : Rows P row args w R) : RowsIn (Fence.wide.inRound l) n P row args w R :=
  fun c cs _ => let ⟨v, w', r, s⟩ := h c cs; ⟨v, w', r, stepsIn_wide.2 s⟩
theorem op_in {o : Oper} {a : Act} {w : World} {K : Act → World → Prop} (l n : Nat) (hd : ∀ c, o.op ≠ .defer c) (h : o.wp P a w K Q) : o.wpIn (Fence.wide.inRound l) n P a w K Q := by
  refine ⟨fun _ _ => trivial, ?_⟩
  rw [Oper.semAt_plain _ _ _ hd]
  unfold Oper.wp at h
  generalize (execOp a.eval o).run P w = r at *
  cases r with
  | ok x w' =>
    cases x with
    | value v => exact h
    | skip => exact h
    | defer d => exact h
    | enter f args => exact ⟨(fun h => by cases h), callsIn_wide.2 h⟩
    | row row args => exact ⟨(fun h => by cases h), rows_in l h⟩
    | round l f tmps assign body => exact h.elim
    | _ => exact h
  | halt x w' => cases x <;> exact h
theorem ops_in (l n : Nat) (ho : ∀ a w, ¬ Q .outgrown a w) (hd : ∀ (i : Nat) o, ops[i]? = some o → ∀ c, o.op ≠ .defer c) : ∀ (is : List Nat) (a : Act) (w : World), wpOps P ops Q is a w → wpOpsIn (Fence.wide.inRound l) n P ops Q is a w
  | [], _, _, h => h
  | i :: is, a, w, h => by
    rw [wpOpsIn_cons]
    rw [wpOps_cons] at h
    unfold wpOpIn
    unfold wpOp at h
    cases hi : ops[i]? with
    | none => rw [hi] at h; exact ops_in l n ho hd is a w h
    | some o =>
      rw [hi] at h
      simp only [] at h ⊢
      split
      · rename_i hw
        rw [if_pos hw] at h
        exact Oper.wpIn_mono (fun a w => ops_in l n ho hd is a w) (op_in l n (hd i o hi) (h.resolve_right fun h => by obtain ⟨a, w, h⟩ := h.2; exact ho a w h))
      · rename_i hw
        rw [if_neg hw] at h
        exact ⟨fun _ _ => trivial, ops_in l n ho hd is _ w h⟩
theorem region_in {S : World → Prop} {id : Nat} {a : Act} {w : World} (l n : Nat) (ho : ∀ a w, ¬ Q .outgrown a w) (hd : ops.toList.all (fun o => plainOp o.op) = true) (hm : P.follows .mixedOrders = true) (hS : S w.drew)
    (h : S w.drew → wpAnyH P .any ops Q S ops.size (Array.replicate ops.size false) a w.drew) : (Code.region id ops true).wpIn (Fence.wide.inRound l) n P Q a w :=
  wpIn_region_draw fun t => by
    simp only [Region.schedule, hm, Bool.true_or, if_true]
    exact ops_in l n ho (plain_ops hd) _ _ _ (wpAny_sound ops.size t _ a _ (wpAny_of_held _ _ _ _ (h hS)))
end


attribute [local go_sem] Oper.semAt_some

theorem abides_b {α : Type} {J : List α → World → Prop} {B : Nat} {s : List α} {W W' : World} (h : AbidesFrom B J) (hs : J s W) (hb : Below W.heap.size W W') : J s W' :=
  h s W W' none hs ⟨hb.os, hb.tape, hb.output, hb.size, fun k hk _ => hb.block k hk⟩ (fun r e => by cases e)
/-- what a round keeps: what lay below, and two blocks besides -/
def Keeps2 (n₀ Bs Bn : Nat) (W W' : World) : Prop := Below n₀ W W' ∧ W'.heap[Bs]? = W.heap[Bs]? ∧ W'.heap[Bn]? = W.heap[Bn]?
theorem keeps2_t {n₀ Bs Bn : Nat} {X Y Z : World} (h : Keeps2 n₀ Bs Bn X Y) (k : Keeps2 n₀ Bs Bn Y Z) : Keeps2 n₀ Bs Bn X Z := ⟨h.1.trans k.1, k.2.1.trans h.2.1, k.2.2.trans h.2.2⟩
theorem keeps2_of {n₀ Bs Bn : Nat} {X Y : World} (h : Below X.heap.size X Y) (h0 : n₀ ≤ X.heap.size) (h1 : Bs < X.heap.size) (h2 : Bn < X.heap.size) : Keeps2 n₀ Bs Bn X Y := ⟨h.mono h0, h.block _ h1, h.block _ h2⟩
theorem keeps2_b {n₀ Bs Bn : Nat} {w : World} (hn : n₀ ≤ w.heap.size) (h1 : Bs < w.heap.size) (h2 : Bn < w.heap.size) (W : World) (l : Nat) (o o' : Obj) (hl : w.heap.size ≤ l) (h : W.heap[l]? = some o) (hc : o.isCells = false) (hw : o.isWalk = false) : Keeps2 n₀ Bs Bn W (W.putObj l o') := by
  have hlt : l < W.heap.size := (Array.getElem?_eq_some_iff.1 h).1
  have hg := grownBy_putObj' W l o'
  exact ⟨belowK_b hn W l o o' hl h hc hw, hg.block Bs (by omega) (by intro e; injection e with e; omega), hg.block Bn (by omega) (by intro e; injection e with e; omega)⟩
/-- a turn of a wish that lies in memory -/
def goodT (t : Tu) : Prop := UW t.w ∧ t.left < 256
abbrev GTu := {t : Tu // goodT t}

set_option maxRecDepth 100000 in
set_option maxHeartbeats 2000000 in
theorem turnsBest_in (n : Nat) (hn : 1 ≤ n) (l B1 B2 B3 n₀ b1 b2 : Nat) (A : Option Addr) (m c : Nat) (ls : List Wi) (S : Nat) (T : Wi → Nat → Int × Bool) (w0 : World) (hn₀ : n₀ ≤ w0.heap.size)
    (K1 : Blk w0 B1 24 #[.int .u32 (S : Int)]) (K2 : Blk w0 B2 22 #[.slice A m c]) (K3 : Blk w0 B3 87 #[.func (.func 28) #[] #[]]) (hb1 : b1 = B3) (hb2 : b2 < w0.heap.size)
    (hS : S < 256) (hR : Reads w0 n₀ 4 A m (wivs ls)) (hm : m ≤ 1000)
    (HH : ∀ (k : Nat) (x : Wi), ls[k]? = some x → ∀ S' : Nat, S' < 256 → ∀ u, Keeps2 n₀ b1 b2 w0 u → w0.heap.size ≤ u.heap.size → Calls Tryd.prog 28 #[.agg (wiA x), .int .u32 (S' : Int)] u (Said (.tuple #[.int .i64 (T x S').1, .bool (T x S').2]) u))
    (J Jx : List Tu → World → Prop) (W : World) (hW : Below w0.heap.size w0 W) (hJa : AbidesFrom W.heap.size J)
    (hY : ∀ pre x W1, J pre W1 → pre.length < (tus T ls S).length → YieldAt Fence.wide (n - 1) Tryd.prog l (tuv x) W1 fun e W' =>
      (e = .returned (.bool true) ∧ J (pre ++ [x]) W' ∧ Keeps2 n₀ b1 b2 W1 W') ∨ (e = .returned (.bool false) ∧ Jx (pre ++ [x]) W'))
    (hJ0 : J [] W) :
    CallsIn Fence.wide n Tryd.prog 48 #[.func (.yield l) #[] #[], .pointer (some ⟨B1, 0, none⟩), .pointer (some ⟨B2, 0, none⟩), .pointer (some ⟨B3, 0, none⟩)] W fun e W' => (∃ v, e = .returned v) ∧
      ((∃ ys, ys = tus T ls S ∧ J ys W') ∨ (∃ pre, pre <+: tus T ls S ∧ Jx pre W')) := by
  have HL := Lib.hid (wishes_len hR)
  have HR := Lib.hid hR
  have HK3 := Lib.hid K3
  have HJA := Lib.hid hJa
  have HHH := Lib.hid HH
  have HY := Lib.hid hY
  have HB1 := Lib.hid hb1
  have HB2 := Lib.hid hb2
  have HN0 := Lib.hid hn₀
  have HSm : ∀ k, Hid (lefts T (ls.take k) S < 256) := fun k => Lib.hid (lefts_small T _ S hS)
  have HSS := Lib.hid (fun k => lefts_small T (ls.take k) S hS)
  have HW0 := Lib.hid (show Keeps2 n₀ b1 b2 w0 W from ⟨hW.mono hn₀, hW.block b1 (by rw [hb1]; exact K3.lt), hW.block b2 hb2⟩)
  have HWs := Lib.hid hW.size
  have k1 := (K1.below hW K1.lt).cell 0
  have k2 := (K2.below hW K2.lt).cell 0
  have hOut := Lib.hid (fun (s : Nat) (c : Int) (h : s < 256) u => out_any (s : Int) c u (by omega) (by omega))
  clear hR K1 K2 K3 hJa HH hY hW hb1 hb2 hn₀ HSm hS
  refine callsIn_of_wp Tryd.func48 rfl trivial ?_ rfl
  simp only [Tryd.ntmps48, List.size_toArray, List.length_cons, List.length_nil, Nat.reduceAdd, Nat.reduceSub, Array.replicate_succ, Array.replicate_zero, List.push_toArray, List.append_toArray, List.nil_append, List.cons_append]
  gi_wp2
  gi_loopw [13, 5] (fun v left wr => ∃ k : Nat, v = .int .i64 (k : Int) ∧ k ≤ m ∧ left = .int .u32 ((lefts T (ls.take k) S : Nat) : Int) ∧ Hid (J (tus T (ls.take k) S) wr) ∧ Hid (Keeps2 n₀ b1 b2 w0 wr) ∧ Hid (w0.heap.size ≤ wr.heap.size))
    (fun v _ _ => m - (intOf v).toNat)
  case atStart => exact ⟨0, rfl, by omega, rfl, Lib.hid hJ0, HW0, HWs⟩
  case round =>
    clear k1 k2 hJ0 HW0 HWs
    obtain ⟨k, rfl, hk, rfl, HJ, HK, HS⟩ := hrel
    by_cases hlt : k < m
    · obtain ⟨x, hx⟩ := elem_at (l := ls) (k := k) (by rw [HL.out]; exact hlt)
      obtain ⟨ad, rfl, hb, d0, d1, d2, d3⟩ := wish_at (HR.out.below HK.out.1) hx
      have HST := Lib.hid (tus_step T hx S)
      have HSL := Lib.hid (lefts_step T hx S)
      have HPR := Lib.hid (tus_prefix T (l := ls) (k + 1) S)
      have HLEN : Hid ((tus T (ls.take k) S).length < (tus T ls S).length) := Lib.hid (by rw [tus_length, tus_length, List.length_take, HL.out]; omega)
      have HX := Lib.hid (HHH.out k x hx (lefts T (ls.take k) S) (HSS.out k))
      have H256 := Lib.hid (HSS.out k)
      obtain ⟨v, a, h, s⟩ := x
      have KN := Blk.new wr 43 #[.int .i64 v, .int .i64 a, .int .u32 h, .int .u32 s]
      have BN := (Below.refl wr.heap.size wr).alloc (Nat.le_refl _) (.cells #[.int .i64 v, .int .i64 a, .int .u32 h, .int .u32 s] 43)
      have HJ1 := Lib.hid (abides_b HJA.out HJ.out BN)
      have HK1 := Lib.hid (keeps2_t HK.out (keeps2_of BN (Nat.le_trans HN0.out HS.out) (Nat.lt_of_lt_of_le (by rw [HB1.out]; exact HK3.out.lt) HS.out) (Nat.lt_of_lt_of_le HB2.out HS.out)))
      have HS1 := Lib.hid (Nat.le_trans HS.out BN.size)
      have HKN := Lib.hid KN
      generalize hL : lefts T (ls.take k) S = L at *
      have HHL := Lib.hid hL
      clear hL
      dsimp only at *
      generalize hT : T ⟨v, a, h, s⟩ L = R at *
      have HRR := Lib.hid hT
      clear hT
      obtain ⟨cc, pp⟩ := R
      dsimp only at *
      unfold wiA at HX
      dsimp only at HX
      have KB := Lib.hid (show Blk (wr.alloc (.cells #[.int .i64 v, .int .i64 a, .int .u32 h, .int .u32 s] 43)) B3 87 #[.func (.func 28) #[] #[]] from by
        have := HK1.out.2.1
        rw [HB1.out] at this
        exact this.trans HK3.out)
      clear KN BN hx hb
      have z0 := HKN.out.cell 0
      have z1 := HKN.out.cell 1
      have z2 := HKN.out.cell 2
      have z3 := HKN.out.cell 3
      have k3 := KB.out.cell 0
      gi_wp2_with fail
      refine ⟨trivial, ?_⟩
      refine (callsIn_wide.2 (HX.out _ HK1.out HS1.out)).mono ?_
      rintro e w2 ⟨rfl, h2⟩
      have HJ2 := Lib.hid (abides_b HJA.out HJ1.out h2)
      have HK2 := Lib.hid (keeps2_t HK1.out (keeps2_of h2 (Nat.le_trans HN0.out HS1.out) (Nat.lt_of_lt_of_le (by rw [HB1.out]; exact HK3.out.lt) HS1.out) (Nat.lt_of_lt_of_le HB2.out HS1.out)))
      have HS2 := Lib.hid (Nat.le_trans HS1.out h2.size)
      have HKN2 := Lib.hid (HKN.out.below h2 HKN.out.lt)
      clear h2 d0 d1 d2 d3 z0 z1 z2 z3 k3
      have z0 := HKN2.out.cell 0
      have z1 := HKN2.out.cell 1
      have z2 := HKN2.out.cell 2
      have z3 := HKN2.out.cell 3
      obtain ⟨fn, tmps, assign, body, hy, hR⟩ := HY.out (tus T (ls.take k) S) ⟨⟨v, a, h, s⟩, cc, pp, L⟩ w2 HJ2.out HLEN.out
      unfold tuv tuA at hy
      dsimp only at hy
      have HO := Lib.hid (hOut.out L cc H256.out)
      rw [out_nonneg] at HO
      have HAY : pp = true → Hid (((lefts T (ls.take (k + 1)) S : Nat) : Int) = (outN L cc : Int)) := fun h => Lib.hid (by rw [HSL.out, h, after_yes])
      have HAN : pp = false → Hid (((lefts T (ls.take (k + 1)) S : Nat) : Int) = (L : Int)) := fun h => Lib.hid (by rw [HSL.out, h, after_no])
      gi_wp2_with fail
      refine hR.mono ?_
      rintro e W3 (⟨rfl, hJ3, hk3⟩ | ⟨rfl, hJx3⟩)
      · have HJ3 : Hid (J (tus T (ls.take (k + 1)) S) W3) := Lib.hid (by rw [HST.out]; exact hJ3)
        have HK3' := Lib.hid (keeps2_t HK2.out hk3)
        have HS3 := Lib.hid (Nat.le_trans HS2.out hk3.1.size)
        clear hJ3 hk3 hR hy
        cases pp with
        | true =>
          have HA := HAY rfl
          clear HAY HAN
          generalize (outV (L : Int) cc).2 = oe at *
          generalize outN L cc = oN at *
          gi_wp2_with fail
          refine ⟨trivial, ?_⟩
          refine (callsIn_wide.2 (HO.out _)).mono ?_
          rintro e w4 ⟨rfl, rfl⟩
          gi_wp2
          go_roundw
          case rel => exact ⟨k + 1, by go_num, by omega, by rw [HA.out], HJ3, HK3', HS3⟩
          case measure => simp [intOf] <;> omega
        | false =>
          have HA := HAN rfl
          clear HAY HAN
          gi_wp2
          go_roundw
          case rel => exact ⟨k + 1, by go_num, by omega, by rw [HA.out], HJ3, HK3', HS3⟩
          case measure => simp [intOf] <;> omega
      · gi_wp2
        refine bodyPost_ret (results_none rfl _ _ _) rfl ?_
        exact ⟨⟨_, rfl⟩, .inr ⟨tus T (ls.take k) S ++ [⟨⟨v, a, h, s⟩, cc, pp, L⟩], by rw [← HST.out]; exact HPR.out, hJx3⟩⟩
    · obtain rfl : m = k := by omega
      have e1 : ls.take m = ls := by rw [← HL.out]; exact List.take_length
      rw [e1] at HJ
      gi_wp2
      go_end0
      exact ⟨⟨_, rfl⟩, .inl ⟨tus T ls S, rfl, HJ.out⟩⟩

set_option maxRecDepth 100000 in
set_option maxHeartbeats 2000000 in
theorem turnsTold_in (n : Nat) (hn : 1 ≤ n) (l B1 B2 B3 Bh n₀ b1 b2 : Nat) (A : Option Addr) (m c : Nat) (ls : List Wi) (S : Nat) (T : Wi → Nat → Int × Bool) (w0 : World) (hn₀ : n₀ ≤ w0.heap.size)
    (K1 : Blk w0 B1 24 #[.int .u32 (S : Int)]) (K2 : Blk w0 B2 22 #[.slice A m c]) (K3 : Blk w0 B3 87 #[.func (.func 37) #[] #[.pointer (some ⟨Bh, 0, none⟩)]]) (hb1 : b1 = B3) (hb2 : b2 < w0.heap.size)
    (hS : S < 256) (hR : Reads w0 n₀ 4 A m (wivs ls)) (hm : m ≤ 1000)
    (HH : ∀ (k : Nat) (x : Wi), ls[k]? = some x → ∀ S' : Nat, S' < 256 → ∀ u, Keeps2 n₀ b1 b2 w0 u → w0.heap.size ≤ u.heap.size → Calls Tryd.prog 37 #[.agg (wiA x), .int .u32 (S' : Int), .pointer (some ⟨Bh, 0, none⟩)] u (Said (.tuple #[.int .i64 (T x S').1, .bool (T x S').2]) u))
    (J Jx : List Tu → World → Prop) (W : World) (hW : Below w0.heap.size w0 W) (hJa : AbidesFrom W.heap.size J)
    (hU : ∀ (k : Nat) (x : Wi), ls[k]? = some x → UW x)
    (hY : ∀ pre x W1, goodT x → J pre W1 → pre.length < (tus T ls S).length → YieldAt Fence.wide (n - 1) Tryd.prog l (tuv x) W1 fun e W' =>
      (e = .returned (.bool true) ∧ J (pre ++ [x]) W' ∧ Keeps2 n₀ b1 b2 W1 W') ∨ (e = .returned (.bool false) ∧ Jx (pre ++ [x]) W'))
    (hJ0 : J [] W) :
    CallsIn Fence.wide n Tryd.prog 48 #[.func (.yield l) #[] #[], .pointer (some ⟨B1, 0, none⟩), .pointer (some ⟨B2, 0, none⟩), .pointer (some ⟨B3, 0, none⟩)] W fun e W' => (∃ v, e = .returned v) ∧
      ((∃ ys, ys = tus T ls S ∧ J ys W') ∨ (∃ pre, pre <+: tus T ls S ∧ Jx pre W')) := by
  have HU := Lib.hid hU
  clear hU
  have HL := Lib.hid (wishes_len hR)
  have HR := Lib.hid hR
  have HK3 := Lib.hid K3
  have HJA := Lib.hid hJa
  have HHH := Lib.hid HH
  have HY := Lib.hid hY
  have HB1 := Lib.hid hb1
  have HB2 := Lib.hid hb2
  have HN0 := Lib.hid hn₀
  have HSm : ∀ k, Hid (lefts T (ls.take k) S < 256) := fun k => Lib.hid (lefts_small T _ S hS)
  have HSS := Lib.hid (fun k => lefts_small T (ls.take k) S hS)
  have HW0 := Lib.hid (show Keeps2 n₀ b1 b2 w0 W from ⟨hW.mono hn₀, hW.block b1 (by rw [hb1]; exact K3.lt), hW.block b2 hb2⟩)
  have HWs := Lib.hid hW.size
  have k1 := (K1.below hW K1.lt).cell 0
  have k2 := (K2.below hW K2.lt).cell 0
  have hOut := Lib.hid (fun (s : Nat) (c : Int) (h : s < 256) u => out_any (s : Int) c u (by omega) (by omega))
  clear hR K1 K2 K3 hJa HH hY hW hb1 hb2 hn₀ HSm hS
  refine callsIn_of_wp Tryd.func48 rfl trivial ?_ rfl
  simp only [Tryd.ntmps48, List.size_toArray, List.length_cons, List.length_nil, Nat.reduceAdd, Nat.reduceSub, Array.replicate_succ, Array.replicate_zero, List.push_toArray, List.append_toArray, List.nil_append, List.cons_append]
  gi_wp2
  gi_loopw [13, 5] (fun v left wr => ∃ k : Nat, v = .int .i64 (k : Int) ∧ k ≤ m ∧ left = .int .u32 ((lefts T (ls.take k) S : Nat) : Int) ∧ Hid (J (tus T (ls.take k) S) wr) ∧ Hid (Keeps2 n₀ b1 b2 w0 wr) ∧ Hid (w0.heap.size ≤ wr.heap.size))
    (fun v _ _ => m - (intOf v).toNat)
  case atStart => exact ⟨0, rfl, by omega, rfl, Lib.hid hJ0, HW0, HWs⟩
  case round =>
    clear k1 k2 hJ0 HW0 HWs
    obtain ⟨k, rfl, hk, rfl, HJ, HK, HS⟩ := hrel
    by_cases hlt : k < m
    · obtain ⟨x, hx⟩ := elem_at (l := ls) (k := k) (by rw [HL.out]; exact hlt)
      obtain ⟨ad, rfl, hb, d0, d1, d2, d3⟩ := wish_at (HR.out.below HK.out.1) hx
      have HGD := Lib.hid (show goodT ⟨x, (T x (lefts T (ls.take k) S)).1, (T x (lefts T (ls.take k) S)).2, lefts T (ls.take k) S⟩ from ⟨HU.out k x hx, HSS.out k⟩)
      have HST := Lib.hid (tus_step T hx S)
      have HSL := Lib.hid (lefts_step T hx S)
      have HPR := Lib.hid (tus_prefix T (l := ls) (k + 1) S)
      have HLEN : Hid ((tus T (ls.take k) S).length < (tus T ls S).length) := Lib.hid (by rw [tus_length, tus_length, List.length_take, HL.out]; omega)
      have HX := Lib.hid (HHH.out k x hx (lefts T (ls.take k) S) (HSS.out k))
      have H256 := Lib.hid (HSS.out k)
      obtain ⟨v, a, h, s⟩ := x
      have KN := Blk.new wr 43 #[.int .i64 v, .int .i64 a, .int .u32 h, .int .u32 s]
      have BN := (Below.refl wr.heap.size wr).alloc (Nat.le_refl _) (.cells #[.int .i64 v, .int .i64 a, .int .u32 h, .int .u32 s] 43)
      have HJ1 := Lib.hid (abides_b HJA.out HJ.out BN)
      have HK1 := Lib.hid (keeps2_t HK.out (keeps2_of BN (Nat.le_trans HN0.out HS.out) (Nat.lt_of_lt_of_le (by rw [HB1.out]; exact HK3.out.lt) HS.out) (Nat.lt_of_lt_of_le HB2.out HS.out)))
      have HS1 := Lib.hid (Nat.le_trans HS.out BN.size)
      have HKN := Lib.hid KN
      generalize hL : lefts T (ls.take k) S = L at *
      have HHL := Lib.hid hL
      clear hL
      dsimp only at *
      generalize hT : T ⟨v, a, h, s⟩ L = R at *
      have HRR := Lib.hid hT
      clear hT
      obtain ⟨cc, pp⟩ := R
      dsimp only at *
      unfold wiA at HX
      dsimp only at HX
      have KB := Lib.hid (show Blk (wr.alloc (.cells #[.int .i64 v, .int .i64 a, .int .u32 h, .int .u32 s] 43)) B3 87 #[.func (.func 37) #[] #[.pointer (some ⟨Bh, 0, none⟩)]] from by
        have := HK1.out.2.1
        rw [HB1.out] at this
        exact this.trans HK3.out)
      clear KN BN hx hb
      have z0 := HKN.out.cell 0
      have z1 := HKN.out.cell 1
      have z2 := HKN.out.cell 2
      have z3 := HKN.out.cell 3
      have k3 := KB.out.cell 0
      gi_wp2_with fail
      refine ⟨trivial, ?_⟩
      refine (callsIn_wide.2 (HX.out _ HK1.out HS1.out)).mono ?_
      rintro e w2 ⟨rfl, h2⟩
      have HJ2 := Lib.hid (abides_b HJA.out HJ1.out h2)
      have HK2 := Lib.hid (keeps2_t HK1.out (keeps2_of h2 (Nat.le_trans HN0.out HS1.out) (Nat.lt_of_lt_of_le (by rw [HB1.out]; exact HK3.out.lt) HS1.out) (Nat.lt_of_lt_of_le HB2.out HS1.out)))
      have HS2 := Lib.hid (Nat.le_trans HS1.out h2.size)
      have HKN2 := Lib.hid (HKN.out.below h2 HKN.out.lt)
      clear h2 d0 d1 d2 d3 z0 z1 z2 z3 k3
      have z0 := HKN2.out.cell 0
      have z1 := HKN2.out.cell 1
      have z2 := HKN2.out.cell 2
      have z3 := HKN2.out.cell 3
      obtain ⟨fn, tmps, assign, body, hy, hR⟩ := HY.out (tus T (ls.take k) S) ⟨⟨v, a, h, s⟩, cc, pp, L⟩ w2 HGD.out HJ2.out HLEN.out
      unfold tuv tuA at hy
      dsimp only at hy
      have HO := Lib.hid (hOut.out L cc H256.out)
      rw [out_nonneg] at HO
      have HAY : pp = true → Hid (((lefts T (ls.take (k + 1)) S : Nat) : Int) = (outN L cc : Int)) := fun h => Lib.hid (by rw [HSL.out, h, after_yes])
      have HAN : pp = false → Hid (((lefts T (ls.take (k + 1)) S : Nat) : Int) = (L : Int)) := fun h => Lib.hid (by rw [HSL.out, h, after_no])
      gi_wp2_with fail
      refine hR.mono ?_
      rintro e W3 (⟨rfl, hJ3, hk3⟩ | ⟨rfl, hJx3⟩)
      · have HJ3 : Hid (J (tus T (ls.take (k + 1)) S) W3) := Lib.hid (by rw [HST.out]; exact hJ3)
        have HK3' := Lib.hid (keeps2_t HK2.out hk3)
        have HS3 := Lib.hid (Nat.le_trans HS2.out hk3.1.size)
        clear hJ3 hk3 hR hy
        cases pp with
        | true =>
          have HA := HAY rfl
          clear HAY HAN
          generalize (outV (L : Int) cc).2 = oe at *
          generalize outN L cc = oN at *
          gi_wp2_with fail
          refine ⟨trivial, ?_⟩
          refine (callsIn_wide.2 (HO.out _)).mono ?_
          rintro e w4 ⟨rfl, rfl⟩
          gi_wp2
          go_roundw
          case rel => exact ⟨k + 1, by go_num, by omega, by rw [HA.out], HJ3, HK3', HS3⟩
          case measure => simp [intOf] <;> omega
        | false =>
          have HA := HAN rfl
          clear HAY HAN
          gi_wp2
          go_roundw
          case rel => exact ⟨k + 1, by go_num, by omega, by rw [HA.out], HJ3, HK3', HS3⟩
          case measure => simp [intOf] <;> omega
      · gi_wp2
        refine bodyPost_ret (results_none rfl _ _ _) rfl ?_
        exact ⟨⟨_, rfl⟩, .inr ⟨tus T (ls.take k) S ++ [⟨⟨v, a, h, s⟩, cc, pp, L⟩], by rw [← HST.out]; exact HPR.out, hJx3⟩⟩
    · obtain rfl : m = k := by omega
      have e1 : ls.take m = ls := by rw [← HL.out]; exact List.take_length
      rw [e1] at HJ
      gi_wp2
      go_end0
      exact ⟨⟨_, rfl⟩, .inl ⟨tus T ls S, rfl, HJ.out⟩⟩


theorem turnsBest_stops (n : Nat) (hn : 1 ≤ n) (B1 B2 B3 n₀ b1 b2 : Nat) (A : Option Addr) (m c : Nat) (ls : List Wi) (S : Nat) (T : Wi → Nat → Int × Bool) (w0 : World) (hn₀ : n₀ ≤ w0.heap.size)
    (K1 : Blk w0 B1 24 #[.int .u32 (S : Int)]) (K2 : Blk w0 B2 22 #[.slice A m c]) (K3 : Blk w0 B3 87 #[.func (.func 28) #[] #[]]) (hb1 : b1 = B3) (hb2 : b2 < w0.heap.size)
    (hS : S < 256) (hR : Reads w0 n₀ 4 A m (wivs ls)) (hm : m ≤ 1000)
    (HH : ∀ (k : Nat) (x : Wi), ls[k]? = some x → ∀ S' : Nat, S' < 256 → ∀ u, Keeps2 n₀ b1 b2 w0 u → w0.heap.size ≤ u.heap.size → Calls Tryd.prog 28 #[.agg (wiA x), .int .u32 (S' : Int)] u (Said (.tuple #[.int .i64 (T x S').1, .bool (T x S').2]) u)) :
    SeqStopsK Fence.wide n Tryd.prog 48 #[.pointer (some ⟨B1, 0, none⟩), .pointer (some ⟨B2, 0, none⟩), .pointer (some ⟨B3, 0, none⟩)] tuv (Keeps2 n₀ b1 b2) (fun ys => ys = tus T ls S) (fun pre => pre <+: tus T ls S) (tus T ls S).length w0 :=
  fun l J Jx W hW hJa _ hY h0 => turnsBest_in n hn l B1 B2 B3 n₀ b1 b2 A m c ls S T w0 hn₀ K1 K2 K3 hb1 hb2 hS hR hm HH J Jx W hW hJa hY h0


theorem turnsTold_stops (n : Nat) (hn : 1 ≤ n) (B1 B2 B3 Bh n₀ b1 b2 : Nat) (A : Option Addr) (m c : Nat) (ls : List Wi) (S : Nat) (T : Wi → Nat → Int × Bool) (w0 : World) (hn₀ : n₀ ≤ w0.heap.size)
    (K1 : Blk w0 B1 24 #[.int .u32 (S : Int)]) (K2 : Blk w0 B2 22 #[.slice A m c]) (K3 : Blk w0 B3 87 #[.func (.func 37) #[] #[.pointer (some ⟨Bh, 0, none⟩)]]) (hb1 : b1 = B3) (hb2 : b2 < w0.heap.size)
    (hS : S < 256) (hR : Reads w0 n₀ 4 A m (wivs ls)) (hm : m ≤ 1000) (hU : ∀ (k : Nat) (x : Wi), ls[k]? = some x → UW x)
    (HH : ∀ (k : Nat) (x : Wi), ls[k]? = some x → ∀ S' : Nat, S' < 256 → ∀ u, Keeps2 n₀ b1 b2 w0 u → w0.heap.size ≤ u.heap.size → Calls Tryd.prog 37 #[.agg (wiA x), .int .u32 (S' : Int), .pointer (some ⟨Bh, 0, none⟩)] u (Said (.tuple #[.int .i64 (T x S').1, .bool (T x S').2]) u)) :
    SeqStopsK Fence.wide n Tryd.prog 48 #[.pointer (some ⟨B1, 0, none⟩), .pointer (some ⟨B2, 0, none⟩), .pointer (some ⟨B3, 0, none⟩)] (fun x : GTu => tuv x.1) (Keeps2 n₀ b1 b2) (fun ys => ys.map (·.1) = tus T ls S) (fun pre => pre.map (·.1) <+: tus T ls S) (tus T ls S).length w0 := by
  intro l J Jx W hW hJa hJxa hY h0
  refine (turnsTold_in n hn l B1 B2 B3 Bh n₀ b1 b2 A m c ls S T w0 hn₀ K1 K2 K3 hb1 hb2 hS hR hm HH (fun pre W => ∃ gp : List GTu, gp.map (·.1) = pre ∧ J gp W) (fun pre W => ∃ gp : List GTu, gp.map (·.1) = pre ∧ Jx gp W) W hW ?_ hU ?_ ⟨[], rfl, h0⟩).mono ?_
  · rintro s X Y row ⟨gp, e, hj⟩ hg hr
    exact ⟨gp, e, hJa gp X Y row hj hg hr⟩
  · rintro pre x W1 hgx ⟨gp, rfl, hj⟩ hlen
    obtain ⟨fn, tmps, assign, body, hy, hR⟩ := hY gp ⟨x, hgx⟩ W1 hj (by rw [List.length_map] at hlen; exact hlen)
    refine ⟨fn, tmps, assign, body, hy, hR.mono ?_⟩
    rintro e W' (⟨rfl, h1, h2⟩ | ⟨rfl, h1⟩)
    · exact .inl ⟨rfl, ⟨gp ++ [⟨x, hgx⟩], by simp, h1⟩, h2⟩
    · exact .inr ⟨rfl, ⟨gp ++ [⟨x, hgx⟩], by simp, h1⟩⟩
  · rintro e W' ⟨h1, h2⟩
    refine ⟨h1, ?_⟩
    rcases h2 with ⟨ys, e1, gp, e2, hj⟩ | ⟨pre, e1, gp, e2, hj⟩
    · exact .inl ⟨gp, e2.trans e1, hj⟩
    · exact .inr ⟨gp, by show gp.map (·.1) <+: _; rw [e2]; exact e1, hj⟩

end Go.Proofs.YtldleijocjohgaaDoor
