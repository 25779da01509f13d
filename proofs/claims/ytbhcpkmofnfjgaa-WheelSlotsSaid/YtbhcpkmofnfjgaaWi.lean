/-
  The landed wheel: a time's digits, the function over which one ranges. No statement is proved here.
-/
import Derived.Test.YtbhcpkmofnfjgaaWb
import Derived.RangeFuncBox
import Derived.RangeFuncLeaves
import Derived.RangeFuncCalls
import Derived.RangeFuncNested
import Derived.Shelf.Abstract
import Derived.OwnWalkIn
import Derived.TacticsInMore
import Derived.LoopNIn
import Derived.LoopIn
namespace Go.Proofs.Ytbhcpkmofnfjgaa
open Go.RowKit Go.Shelf

attribute [local go_sem] Oper.semAt_some

/-- the levels, the highest first; a level and its digit as the call tells them -/
def dn : Nat → List (Fin 9)
  | 0 => []
  | k + 1 => if h : k < 9 then ⟨k, h⟩ :: dn k else []
theorem dn_succ {k : Nat} (h : k < 9) : dn (k + 1) = ⟨k, h⟩ :: dn k := dif_pos h
theorem dn_len : (dn 9).length = 9 := by decide
theorem dn_all : ∀ k : Fin 9, k ∈ dn 9 := by decide
def encD (x : Int) (k : Fin 9) : Array Value := #[.int .i64 (k.val : Int), .int .i64 (dgT x k.val)]
def lvI (k : Nat) : Int := (k : Int) - 1
theorem lvI_succ (j : Nat) : lvI (j + 1) = (j : Int) := by unfold lvI; omega
/-- what a round keeps: one block -/
def Keeps1 (g : Nat) (W W' : World) : Prop := W'.heap[g]? = W.heap[g]?
theorem keeps1_t {g : Nat} {X Y Z : World} (h : Keeps1 g X Y) (k : Keeps1 g Y Z) : Keeps1 g X Z := k.trans h
theorem keeps1_b {g : Nat} {w : World} (hn : g < w.heap.size) (W : World) (l : Nat) (o o' : Obj) (hl : w.heap.size ≤ l) (h : W.heap[l]? = some o) (_hc : o.isCells = false) (_hw : o.isWalk = false) : Keeps1 g W (W.putObj l o') := by
  have hlt : l < W.heap.size := (Array.getElem?_eq_some_iff.1 h).1
  exact (grownBy_putObj' W l o').block g (by omega) (by intro e; injection e with e; omega)
theorem and63 (n : Int) : bits .and .i64 n 63 = n % 64 := by
  have h63 : (BitVec.ofInt 64 63).toNat = 2 ^ 6 - 1 := by decide
  have key : (BitVec.ofInt 64 n &&& BitVec.ofInt 64 63).toNat = (n % ((2 ^ 64 : Nat) : Int)).toNat % 2 ^ 6 := by
    rw [BitVec.toNat_and, BitVec.toNat_ofInt, h63, Nat.and_two_pow_sub_one_eq_mod]
  show IntKind.i64.wrap ((BitVec.ofInt 64 n &&& BitVec.ofInt 64 63).toNat : Nat) = n % 64
  rw [key, IntKind.wrap_i64]
  omega
theorem pow_six (j : Nat) : (2 : Int) ^ (6 * j) = 64 ^ j := by rw [Int.pow_mul]; rfl

set_option maxRecDepth 100000 in
set_option maxHeartbeats 2000000 in
theorem digits1_in (n : Nat) (hn : 1 ≤ n) (l g : Nat) (x : Int) (h0 : 0 ≤ x) (J Jx : List (Fin 9) → World → Prop)
    (hY : ∀ pre y W, J pre W → pre.length < (dn 9).length → YieldAt Fence.wide (n - 1) Try.prog l (encD x y) W fun e W' =>
      (e = .returned (.bool true) ∧ J (pre ++ [y]) W' ∧ Keeps1 g W W') ∨ (e = .returned (.bool false) ∧ Jx (pre ++ [y]) W'))
    (W : World) (hK : Blk W g 2 #[.int .i64 x]) (hJ0 : J [] W) :
    CallsIn Fence.wide n Try.prog 56 #[.func (.yield l) #[] #[], .pointer (some ⟨g, 0, none⟩)] W fun e W' => (∃ v, e = .returned v) ∧
      ((∃ ys, ys = dn 9 ∧ J ys W') ∨ (∃ pre, pre <+: dn 9 ∧ Jx pre W')) := by
  have HY := Lib.hid hY
  have H0 := Lib.hid h0
  have HK := Lib.hid hK
  have HJ0 := Lib.hid hJ0
  clear hY h0 hK hJ0
  refine callsIn_of_wp Try.func56 rfl trivial ?_ rfl
  simp only [Try.ntmps56, List.size_toArray, List.length_cons, List.length_nil, Nat.reduceAdd, Nat.reduceSub, Array.replicate_succ, Array.replicate_zero, List.push_toArray, List.append_toArray, List.nil_append, List.cons_append]
  gi_wp2
  gi_loopw [3] (fun v wr => ∃ (pre : List (Fin 9)) (k : Nat), k ≤ 9 ∧ v = .int .i64 (lvI k) ∧ Hid (pre ++ dn k = dn 9) ∧ Hid (J pre wr) ∧ Hid (Blk wr g 2 #[.int .i64 x]))
    (fun v _ => (intOf v + 1).toNat)
  case atStart => exact ⟨[], 9, by omega, rfl, Lib.hid rfl, HJ0, HK⟩
  case round =>
    clear HK HJ0
    obtain ⟨pre, k, hk, rfl, HP, HJ, HK⟩ := hrel
    cases k with
    | zero =>
      have e0 : decide ((0 : Int) ≤ lvI 0) = false := by decide
      gi_wp2
      go_end0
      exact ⟨⟨_, rfl⟩, .inl ⟨pre, by have := HP.out; rw [show dn 0 = [] from rfl, List.append_nil] at this; exact this, HJ.out⟩⟩
    | succ j =>
      rw [lvI_succ]
      have hj9 : j < 9 := by omega
      have HN : Hid ((pre ++ [⟨j, hj9⟩]) ++ dn j = dn 9) := Lib.hid (by rw [← HP.out, List.append_assoc, dn_succ hj9]; rfl)
      have HLn : Hid (pre.length < (dn 9).length) := Lib.hid (by rw [← HP.out, dn_succ hj9]; simp)
      have e0 : decide ((0 : Int) ≤ (j : Int)) = true := decide_eq_true (by omega)
      have m1 : wrap64 (6 * (j : Int)) = 6 * (j : Int) := by unfold wrap64; omega
      have z0 := HK.out.cell 0
      obtain ⟨d, hd⟩ : ∃ d, x / 64 ^ j % 64 = d := ⟨_, rfl⟩
      have hdg : dgT x j = d := hd
      have s2 : bits .and .i64 (x / 2 ^ (6 * j)) 63 = d := by rw [and63, pow_six]; exact hd
      have hlv : Hid (lvI j = (j : Int) - 1) := Lib.hid rfl
      obtain ⟨fn, tmps, assign, body, hy, hR⟩ := HY.out pre ⟨j, hj9⟩ wr HJ.out HLn.out
      unfold encD at hy
      dsimp only at hy
      rw [hdg] at hy
      clear hd hdg
      gi_wp2_with fail
      refine hR.mono ?_
      rintro e W3 (⟨rfl, hJ3, hk3⟩ | ⟨rfl, hJx3⟩)
      · have HJ3 := Lib.hid hJ3
        have HK3 : Hid (Blk W3 g 2 #[.int .i64 x]) := Lib.hid (hk3.trans HK.out)
        clear hk3 hJ3
        gi_wp2
        go_roundw
        case rel => exact ⟨pre ++ [⟨j, hj9⟩], j, by omega, by rw [hlv.out], HN, HJ3, HK3⟩
        case measure => simp [intOf] <;> omega
      · gi_wp2
        refine bodyPost_ret (results_none rfl _ _ _) rfl ?_
        exact ⟨⟨_, rfl⟩, .inr ⟨pre ++ [⟨j, hj9⟩], ⟨dn j, HN.out⟩, hJx3⟩⟩

set_option maxRecDepth 100000 in
set_option maxHeartbeats 1000000 in
theorem digits_in (n : Nat) (x : Int) (w : World) :
    CallsIn Fence.wide n Try.prog 50 #[.int .i64 x] w fun e w' => e = .returned (.func (.func 56) #[] #[.pointer (some ⟨w.heap.size, 0, none⟩)]) ∧ w' = w.alloc (.cells #[.int .i64 x] 2) := by
  refine callsIn_of_wp Try.func50 rfl trivial ?_ rfl
  simp only [Try.ntmps50, List.size_toArray, List.length_cons, List.length_nil, Nat.reduceAdd, Nat.reduceSub, Array.replicate_succ, Array.replicate_zero, List.push_toArray, List.append_toArray, List.nil_append, List.cons_append]
  gi_wp2
  go_ret
  exact ⟨rfl, rfl⟩

theorem digits_stops (n : Nat) (hn : 1 ≤ n) (g : Nat) (x : Int) (h0 : 0 ≤ x) (w : World) (K : Blk w g 2 #[.int .i64 x]) :
    SeqStopsK Fence.wide n Try.prog 56 #[.pointer (some ⟨g, 0, none⟩)] (encD x) (Keeps1 g) (fun ys => ys = dn 9) (fun pre => pre <+: dn 9) (dn 9).length w := fun l J Jx W hW _ _ hY hJ =>
  digits1_in n hn l g x h0 J Jx hY W (K.below hW K.lt) hJ

end Go.Proofs.Ytbhcpkmofnfjgaa
