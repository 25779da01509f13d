/-
  The contract of the library's Chunk of pairs of bytes. No statement is proved here.
-/
import Derived.Test.YtfalkiinlkfanaaLz
import Derived.BigRegionIn
namespace Go.Proofs.Ytfalkiinlkfanaa
open Go.RowKit Go.Shelf

attribute [local go_sem] Oper.semAt_some

/-- the pair of bytes from place 2k on -/
def pairV (ad : Addr) (k : Nat) : Value := .slice (some (ad.add (2 * k))) 2 2
theorem abides_b {α : Type} {J : List α → World → Prop} {B : Nat} {s : List α} {W W' : World} (h : AbidesFrom B J) (hs : J s W) (hb : Below W.heap.size W W') : J s W' :=
  h s W W' none hs ⟨hb.os, hb.tape, hb.output, hb.size, fun k hk _ => hb.block k hk⟩ (fun r e => by cases e)
/-- the first k pairs' places -/
def firstF (z k : Nat) : List (Fin z) := (List.finRange z).take k
theorem first_step {z k : Nat} (h : k < z) : firstF z (k + 1) = firstF z k ++ [⟨k, h⟩] := by
  unfold firstF
  rw [List.take_add_one, List.getElem?_eq_getElem (by simpa using h)]
  simp
theorem length_first {z k : Nat} (h : k ≤ z) : (firstF z k).length = k := by
  unfold firstF
  rw [List.length_take, List.length_finRange]
  omega
theorem first_prefix (z k : Nat) : firstF z k <+: firstF z z := by
  unfold firstF
  rw [List.take_of_length_le (l := List.finRange z) (i := z) (by simp)]
  exact List.take_prefix _ _

set_option maxRecDepth 100000 in
set_option maxHeartbeats 1000000 in
theorem chunk_any (A : Option Addr) (m c : Nat) (w : World) : Calls Try.prog 70 #[.slice A m c, .int .i64 2] w fun e w' =>
    e = .returned (.func (.func 75) #[] #[.pointer (some ⟨w.heap.size, 0, none⟩), .pointer (some ⟨w.heap.size + 1, 0, none⟩)]) ∧ w' = (w.alloc (.cells #[.slice A m c] 62)).alloc (.cells #[.int .i64 2] 3) := by
  go_enter Try.func70, Try.ntmps70
  go_wp2
  go_ret
  exact ⟨rfl, rfl⟩

/-- what a round keeps: what lay below, and two blocks besides -/
def Keeps2 (n₀ Bs Bn : Nat) (W W' : World) : Prop := Below n₀ W W' ∧ W'.heap[Bs]? = W.heap[Bs]? ∧ W'.heap[Bn]? = W.heap[Bn]?
theorem keeps2_t {n₀ Bs Bn : Nat} {X Y Z : World} (h : Keeps2 n₀ Bs Bn X Y) (k : Keeps2 n₀ Bs Bn Y Z) : Keeps2 n₀ Bs Bn X Z := ⟨h.1.trans k.1, k.2.1.trans h.2.1, k.2.2.trans h.2.2⟩
theorem keeps2_b {n₀ Bs Bn : Nat} {w : World} (hn : n₀ ≤ w.heap.size) (h1 : Bs < w.heap.size) (h2 : Bn < w.heap.size) (W : World) (l : Nat) (o o' : Obj) (hl : w.heap.size ≤ l) (h : W.heap[l]? = some o) (hc : o.isCells = false) (hw : o.isWalk = false) : Keeps2 n₀ Bs Bn W (W.putObj l o') := by
  have hlt : l < W.heap.size := (Array.getElem?_eq_some_iff.1 h).1
  have hg := grownBy_putObj' W l o'
  exact ⟨belowK_b hn W l o o' hl h hc hw, hg.block Bs (by omega) (by intro e; injection e with e; omega), hg.block Bn (by omega) (by intro e; injection e with e; omega)⟩
theorem own_boxed {β : Type} (B : Nat) (t : TypeId) (v : Value) : Own (fun (_ : β) W => Boxed W B t v) := by
  rintro s X Y row hv hg hrow
  refine hv.kept hg (fun e' => ?_)
  obtain ⟨o, ho, hc⟩ := hrow B e'.symm
  rw [show X.heap[B]? = _ from hv] at ho
  cases ho
  cases hc

set_option maxRecDepth 100000 in
set_option maxHeartbeats 2000000 in
theorem chunk_in (n : Nat) (hn : 1 ≤ n) (l Bs Bn : Nat) (A : Option Addr) (ad : Addr) (m c z n₀ : Nat) (w0 : World)
    (hn₀ : n₀ ≤ w0.heap.size) (K1 : Blk w0 Bs 62 #[.slice A m c]) (K2 : Blk w0 Bn 3 #[.int .i64 2]) (hm : m = 2 * z) (hmc : m ≤ c) (hz : z ≤ 300) (hA : 0 < m → A = some ad)
    (J Jx : List (Fin z) → World → Prop) (W : World) (hW : Below w0.heap.size w0 W) (hJa : AbidesFrom W.heap.size J)
    (hY : ∀ pre x W1, J pre W1 → pre.length < (firstF z z).length → YieldAt Fence.wide (n - 1) Try.prog l #[pairV ad x.1] W1 fun e W' =>
      (e = .returned (.bool true) ∧ J (pre ++ [x]) W' ∧ Keeps2 n₀ Bs Bn W1 W') ∨ (e = .returned (.bool false) ∧ Jx (pre ++ [x]) W'))
    (hJ0 : J [] W) :
    CallsIn Fence.wide n Try.prog 75 #[.func (.yield l) #[] #[], .pointer (some ⟨Bs, 0, none⟩), .pointer (some ⟨Bn, 0, none⟩)] W fun e W' => (∃ v, e = .returned v) ∧
      ((∃ ys, ys = firstF z z ∧ J ys W') ∨ (∃ pre, pre <+: firstF z z ∧ Jx pre W')) := by
  have HK1 := Lib.hid (K1.below hW K1.lt)
  have HK2 := Lib.hid (K2.below hW K2.lt)
  have HJA := Lib.hid hJa
  have HY := Lib.hid hY
  have HM := Lib.hid hm
  have HA := Lib.hid hA
  have hm6 : m ≤ 600 := by omega
  have k1 := HK1.out.cell 0
  clear K1 K2 hJa hY hm hA hz
  refine callsIn_of_wp Try.func75 rfl trivial ?_ rfl
  simp only [Try.ntmps75, List.size_toArray, List.length_cons, List.length_nil, Nat.reduceAdd, Nat.reduceSub, Array.replicate_succ, Array.replicate_zero, List.push_toArray, List.append_toArray, List.nil_append, List.cons_append]
  gi_wp2
  clear k1
  gi_loopw [4] (fun v wr => ∃ k i : Nat, v = .int .i64 (i : Int) ∧ Hid (i = 2 * k) ∧ i ≤ m ∧ Hid (J (firstF z k) wr) ∧ Blk wr Bs 62 #[.slice A m c] ∧ Blk wr Bn 3 #[.int .i64 2] ∧ n₀ ≤ wr.heap.size)
    (fun v _ => m - (intOf v).toNat)
  case atStart => exact ⟨0, 0, rfl, Lib.hid rfl, by omega, Lib.hid (by rw [show firstF z 0 = [] from List.take_zero]; exact hJ0), HK1.out, HK2.out, Nat.le_trans hn₀ hW.size⟩
  case round =>
    obtain ⟨k, i, rfl, HI, hi, HJ, K1, K2, hB⟩ := hrel
    have k1 := K1.cell 0
    have k2 := K2.cell 0
    by_cases hlt : i < m
    · obtain rfl := HA.out (by omega)
      have hk : k < z := by have := HI.out; have := HM.out; omega
      have HN : Hid ((firstF z k).length < (firstF z z).length) := Lib.hid (by rw [length_first (Nat.le_of_lt hk), length_first (Nat.le_refl _)]; exact hk)
      have HP := Lib.hid (first_prefix z (k + 1))
      have HS := Lib.hid (first_step hk)
      have i0 : (0 : Int) ≤ (i : Int) := by omega
      have i1 : (i : Int) ≤ (m : Int) := by omega
      have i2 : (i : Int) < (m : Int) := by omega
      have i3 : i + 2 ≤ m := by have := HI.out; have := HM.out; omega
      have e1 : min (2 : Int) ((m : Int) - (i : Int)) = 2 := by omega
      have hc : ¬ c = i := by omega
      have HJ2 := Lib.hid (abides_b HJA.out HJ.out ((Below.refl _ wr).drew))
      have HB2 : Hid (Blk wr.drew Bs 62 #[.slice (some ad) m c] ∧ Blk wr.drew Bn 3 #[.int .i64 2] ∧ n₀ ≤ wr.drew.heap.size) := Lib.hid ⟨K1, K2, hB⟩
      obtain ⟨fn, tmps, assign, body, hy, hR⟩ := HY.out (firstF z k) ⟨k, hk⟩ wr.drew HJ2.out HN.out
      rw [show pairV ad k = .slice (some (ad.add i)) 2 2 by unfold pairV; rw [← HI.out]] at hy
      clear hB K1 K2
      gi_wp2_with fail
      gi_region
      all_goals gi_wp2_with fail
      refine hR.mono ?_
      rintro e W3 (⟨rfl, hJ3, hk3⟩ | ⟨rfl, hJx3⟩)
      · have HB3 : Hid (Blk W3 Bs 62 #[.slice (some ad) m c] ∧ Blk W3 Bn 3 #[.int .i64 2] ∧ n₀ ≤ W3.heap.size) := Lib.hid ⟨hk3.2.1.trans HB2.out.1, hk3.2.2.trans HB2.out.2.1, Nat.le_trans HB2.out.2.2 hk3.1.size⟩
        have HJ3 := Lib.hid hJ3
        clear hk3 hJ3 k1 k2
        have k2 := HB3.out.2.1.cell 0
        gi_wp2
        go_roundw
        case rel => exact ⟨k + 1, i + 2, by go_num, Lib.hid (by have := HI.out; omega), by omega, Lib.hid (by rw [HS.out]; exact HJ3.out), HB3.out.1, HB3.out.2.1, HB3.out.2.2⟩
        case measure => simp [intOf] <;> omega
      · gi_wp2
        refine bodyPost_ret (results_none rfl _ _ _) rfl ?_
        exact ⟨⟨_, rfl⟩, .inr ⟨firstF z k ++ [⟨k, hk⟩], by rw [← HS.out]; exact HP.out, hJx3⟩⟩
    · have hk : k = z := by have := HI.out; have := HM.out; omega
      have HZ := Lib.hid hk
      clear hk
      gi_wp2
      go_end0
      exact ⟨⟨_, rfl⟩, .inl ⟨_, rfl, by have := HJ.out; rwa [HZ.out] at this⟩⟩

theorem chunk_stops (n : Nat) (hn : 1 ≤ n) (Bs Bn : Nat) (A : Option Addr) (ad : Addr) (m c z n₀ : Nat) (w0 : World)
    (hn₀ : n₀ ≤ w0.heap.size) (K1 : Blk w0 Bs 62 #[.slice A m c]) (K2 : Blk w0 Bn 3 #[.int .i64 2]) (hm : m = 2 * z) (hmc : m ≤ c) (hz : z ≤ 300) (hA : 0 < m → A = some ad) :
    SeqStopsK Fence.wide n Try.prog 75 #[.pointer (some ⟨Bs, 0, none⟩), .pointer (some ⟨Bn, 0, none⟩)] (fun x : Fin z => #[pairV ad x.1]) (Keeps2 n₀ Bs Bn) (fun ys => ys = firstF z z) (fun pre => pre <+: firstF z z) (firstF z z).length w0 :=
  fun l J Jx W hW hJa _ hY h0 => chunk_in n hn l Bs Bn A ad m c z n₀ w0 hn₀ K1 K2 hm hmc hz hA J Jx W hW hJa hY h0

end Go.Proofs.Ytfalkiinlkfanaa
