/-
  The contracts of the landed topo: the function over which one ranges, and what it asks of. No statement is proved here.
-/
import Derived.Test.YtfalkiinlkfanaaLn
import Derived.RangeFuncBox
import Derived.RangeFuncLeaves
import Derived.RangeFuncCalls
import Derived.Shelf.Abstract
import Derived.OwnWalkIn
import Derived.TacticsInMore
import Derived.LoopNIn
import Derived.LoopIn
namespace Go.Proofs.Ytfalkiinlkfanaa
open Go.RowKit Go.Shelf

attribute [local go_sem] Oper.semAt_some

/-- the numbers below n of which P holds -/
def toldL (P : Nat → Bool) (n : Nat) : List Int := ((List.range n).filter P).map fun (k : Nat) => (k : Int)
theorem told_yes {P : Nat → Bool} {k : Nat} (h : P k = true) : toldL P (k + 1) = toldL P k ++ [(k : Int)] := by
  unfold toldL
  rw [List.range_succ, List.filter_append, List.map_append]
  simp [h]
theorem told_no {P : Nat → Bool} {k : Nat} (h : P k = false) : toldL P (k + 1) = toldL P k := by
  unfold toldL
  rw [List.range_succ, List.filter_append, List.map_append]
  simp [h]
theorem told_prefix (P : Nat → Bool) {k n : Nat} (h : k ≤ n) : toldL P k <+: toldL P n := by
  induction n with
  | zero => obtain rfl : k = 0 := by omega
            exact List.prefix_refl _
  | succ n ih =>
    by_cases hk : k = n + 1
    · subst hk; exact List.prefix_refl _
    · refine (ih (by omega)).trans ?_
      cases hp : P n with
      | true => rw [told_yes hp]; exact List.prefix_append _ _
      | false => rw [told_no hp]; exact List.prefix_refl _
theorem told_more {P : Nat → Bool} {k n : Nat} (hp : P k = true) (h : k < n) : (toldL P k).length < (toldL P n).length := by
  have := (told_prefix P (show k + 1 ≤ n by omega)).length_le
  rw [told_yes hp, List.length_append] at this
  simp at this
  omega
theorem length_told (P : Nat → Bool) (n : Nat) : (toldL P n).length ≤ n := by
  unfold toldL
  rw [List.length_map]
  exact Nat.le_trans (List.length_filter_le _ _) (by rw [List.length_range]; exact Nat.le_refl _)
def whereL (l : List (Int × Int)) (P : Nat → Bool) (n : Nat) : List Int := if rightT l = true then toldL P n else []
theorem abides_below {J : List Int → World → Prop} {B : Nat} {s : List Int} {W W' : World} (h : AbidesFrom B J) (hs : J s W) (hb : Below W.heap.size W W') : J s W' :=
  h s W W' none hs ⟨hb.os, hb.tape, hb.output, hb.size, fun k hk _ => hb.block k hk⟩ (fun r e => by cases e)

set_option maxRecDepth 100000 in
set_option maxHeartbeats 2000000 in
theorem toldAll_in (n : Nat) (hn : 1 ≤ n) (l Bt Bh : Nat) (A : Option Addr) (m c : Nat) (ls : List (Int × Int)) (P : Nat → Bool) (fT : TypeId) (w0 : World)
    (K1 : Blk w0 Bt 27 #[.slice A m c]) (K2 : Blk w0 Bh fT #[.func (.func 43) #[] #[]]) (hAt : At w0 A m c ls)
    (HH : rightT ls = true → ∀ k : Nat, k < m → ∀ u, Below w0.heap.size w0 u → Calls Try.prog 43 #[.int .i64 (k : Int)] u (Said (.bool (P k)) u))
    (J Jx : List Int → World → Prop) (W : World) (hW : Below w0.heap.size w0 W) (hJa : AbidesFrom W.heap.size J)
    (hY : ∀ pre x W1, J pre W1 → pre.length < (whereL ls P m).length → YieldAt Fence.wide (n - 1) Try.prog l #[.int .i64 x] W1 fun e W' =>
      (e = .returned (.bool true) ∧ J (pre ++ [x]) W' ∧ Below w0.heap.size W1 W') ∨ (e = .returned (.bool false) ∧ Jx (pre ++ [x]) W'))
    (hJ0 : J [] W) :
    CallsIn Fence.wide n Try.prog 65 #[.func (.yield l) #[] #[], .pointer (some ⟨Bt, 0, none⟩), .pointer (some ⟨Bh, 0, none⟩)] W fun e W' => (∃ v, e = .returned v) ∧
      ((∃ ys, ys = whereL ls P m ∧ J ys W') ∨ (∃ pre, pre <+: whereL ls P m ∧ Jx pre W')) := by
  have HC := Lib.hid (tcheck_ok A m c ls W (hAt.below hW))
  have HL := Lib.hid hAt.len
  have HK1 := Lib.hid K1
  have HK2 := Lib.hid K2
  have HA := Lib.hid hAt
  have HJA := Lib.hid hJa
  have hm : m ≤ 300 := hAt.2.2
  have k1 := (K1.below hW K1.lt).cell 0
  have sz : w0.heap.size ≤ W.heap.size := hW.size
  clear hAt K1 K2 hJa
  cases hr : rightT ls with
  | false =>
    rw [hr] at HC
    have HE : Hid (whereL ls P m = []) := Lib.hid (by unfold whereL; rw [hr]; rfl)
    clear hr HH
    refine callsIn_of_wp Try.func65 rfl trivial ?_ rfl
    simp only [Try.ntmps65, List.size_toArray, List.length_cons, List.length_nil, Nat.reduceAdd, Nat.reduceSub, Array.replicate_succ, Array.replicate_zero, List.push_toArray, List.append_toArray, List.nil_append, List.cons_append]
    gi_wp2_with (refine ⟨trivial, ?_⟩; gi_at_call 13; refine (callsIn_wide.2 HC.out).mono ?_; rintro e w1 ⟨rfl, h1⟩; have HJ1 := Lib.hid (abides_below HJA.out hJ0 h1); clear h1)
    refine bodyPost_ret (results_none rfl _ _ _) rfl ?_
    exact ⟨⟨_, rfl⟩, .inl ⟨[], HE.out.symm, HJ1.out⟩⟩
  | true =>
    rw [hr] at HC
    have HE : Hid (whereL ls P m = toldL P m) := Lib.hid (by unfold whereL; rw [hr]; rfl)
    have HH2 := Lib.hid (HH hr)
    rw [HE.out] at hY
    have HY := Lib.hid hY
    clear hr HH hY
    refine callsIn_of_wp Try.func65 rfl trivial ?_ rfl
    simp only [Try.ntmps65, List.size_toArray, List.length_cons, List.length_nil, Nat.reduceAdd, Nat.reduceSub, Array.replicate_succ, Array.replicate_zero, List.push_toArray, List.append_toArray, List.nil_append, List.cons_append]
    gi_wp2_with (refine ⟨trivial, ?_⟩; gi_at_call 13; refine (callsIn_wide.2 HC.out).mono ?_; rintro e w1 ⟨rfl, h1⟩; have HJ1 := Lib.hid (abides_below HJA.out hJ0 h1); have HB1 := Lib.hid (hW.trans (h1.mono sz)); clear k1 h1; have k1 := (HK1.out.below HB1.out HK1.out.lt).cell 0)
    clear k1
    gi_loopw [11] (fun v wr => ∃ k : Nat, v = .int .i64 (k : Int) ∧ k ≤ m ∧ Hid (J (toldL P k) wr) ∧ Below w0.heap.size w0 wr)
      (fun v _ => m - (intOf v).toNat)
    case atStart => exact ⟨0, rfl, by omega, Lib.hid HJ1.out, HB1.out⟩
    case round =>
      obtain ⟨k, rfl, hk, HJ, hB⟩ := hrel
      by_cases hlt : k < m
      · have k2 := (HK2.out.below hB HK2.out.lt).cell 0
        have hsz := hB.size
        cases hp : P k with
        | false =>
          have HS := Lib.hid (told_no (P := P) hp)
          have HX := Lib.hid (HH2.out k hlt)
          rw [hp] at HX
          clear hp
          gi_wp2_with (refine ⟨trivial, ?_⟩; gi_at_call 43; refine (callsIn_wide.2 (HX.out _ hB)).mono ?_; rintro e w2 ⟨rfl, h2⟩; have HJ2 := Lib.hid (abides_below HJA.out HJ.out h2); have HB2 := Lib.hid (hB.trans (h2.mono hsz)); clear h2 k2)
          refine ⟨fun f hf => (by cases hf), ?_⟩
          rename_i K2 hK2 x2 h3 w3 heq
          refine hK2 _ _ ?_
          clear heq hK2 K2
          gi_wp2
          go_roundw
          case rel => exact ⟨k + 1, by go_num, by omega, Lib.hid (by rw [HS.out]; exact HJ2.out), HB2.out⟩
          case measure => simp [intOf]; omega
        | true =>
          have HS := Lib.hid (told_yes (P := P) hp)
          have HX := Lib.hid (HH2.out k hlt)
          rw [hp] at HX
          have HP := Lib.hid (told_prefix P (show k + 1 ≤ m by omega))
          have HN := Lib.hid (told_more (P := P) hp hlt)
          clear hp
          gi_wp2_with (refine ⟨trivial, ?_⟩; gi_at_call 43; refine (callsIn_wide.2 (HX.out _ hB)).mono ?_; rintro e w2 ⟨rfl, h2⟩; have HJ2 := Lib.hid (abides_below HJA.out HJ.out h2); have HB2 := Lib.hid (hB.trans (h2.mono hsz)); clear h2 k2; obtain ⟨fn, tmps, assign, body, hy, hR⟩ := HY.out (toldL P k) (k : Int) w2 HJ2.out HN.out)
          refine hR.mono ?_
          rintro e W3 (⟨rfl, hJ3, hk3⟩ | ⟨rfl, hJx3⟩)
          · have HB3 := Lib.hid (HB2.out.trans hk3)
            have HJ3 := Lib.hid hJ3
            clear hk3 hJ3
            gi_wp2
            go_roundw
            case rel => exact ⟨k + 1, by go_num, by omega, Lib.hid (by rw [HS.out]; exact HJ3.out), HB3.out⟩
            case measure => simp [intOf]; omega
          · gi_wp2
            refine bodyPost_ret (results_none rfl _ _ _) rfl ?_
            exact ⟨⟨_, rfl⟩, .inr ⟨toldL P k ++ [(k : Int)], by rw [← HS.out, HE.out]; exact HP.out, hJx3⟩⟩
      · obtain rfl : m = k := by omega
        gi_wp2
        go_end0
        exact ⟨⟨_, rfl⟩, .inl ⟨toldL P m, HE.out.symm, HJ.out⟩⟩

theorem toldAll_stops (n : Nat) (hn : 1 ≤ n) (Bt Bh : Nat) (A : Option Addr) (m c : Nat) (ls : List (Int × Int)) (P : Nat → Bool) (fT : TypeId) (w0 : World)
    (K1 : Blk w0 Bt 27 #[.slice A m c]) (K2 : Blk w0 Bh fT #[.func (.func 43) #[] #[]]) (hAt : At w0 A m c ls)
    (HH : rightT ls = true → ∀ k : Nat, k < m → ∀ u, Below w0.heap.size w0 u → Calls Try.prog 43 #[.int .i64 (k : Int)] u (Said (.bool (P k)) u)) :
    SeqStopsK Fence.wide n Try.prog 65 #[.pointer (some ⟨Bt, 0, none⟩), .pointer (some ⟨Bh, 0, none⟩)] (fun x : Int => #[Value.int .i64 x]) (Below w0.heap.size) (fun ys => ys = whereL ls P m) (fun pre => pre <+: whereL ls P m) (whereL ls P m).length w0 :=
  fun l J Jx W hW hJa _ hY h0 => toldAll_in n hn l Bt Bh A m c ls P fT w0 K1 K2 hAt HH J Jx W hW hJa hY h0

set_option maxRecDepth 100000 in
set_option maxHeartbeats 2000000 in
theorem toldSock_in (n : Nat) (hn : 1 ≤ n) (l Bt Bh Bt2 Bx : Nat) (A : Option Addr) (m c : Nat) (ls : List (Int × Int)) (P : Nat → Bool) (fT : TypeId) (w0 : World)
    (K1 : Blk w0 Bt 27 #[.slice A m c]) (K2 : Blk w0 Bh fT #[.func (.func 44) #[] #[.pointer (some ⟨Bt2, 0, none⟩), .pointer (some ⟨Bx, 0, none⟩)]]) (hAt : At w0 A m c ls)
    (HH : rightT ls = true → ∀ k : Nat, k < m → ∀ u, Below w0.heap.size w0 u → Calls Try.prog 44 #[.int .i64 (k : Int), .pointer (some ⟨Bt2, 0, none⟩), .pointer (some ⟨Bx, 0, none⟩)] u (Said (.bool (P k)) u))
    (J Jx : List Int → World → Prop) (W : World) (hW : Below w0.heap.size w0 W) (hJa : AbidesFrom W.heap.size J)
    (hY : ∀ pre x W1, J pre W1 → pre.length < (whereL ls P m).length → YieldAt Fence.wide (n - 1) Try.prog l #[.int .i64 x] W1 fun e W' =>
      (e = .returned (.bool true) ∧ J (pre ++ [x]) W' ∧ Below w0.heap.size W1 W') ∨ (e = .returned (.bool false) ∧ Jx (pre ++ [x]) W'))
    (hJ0 : J [] W) :
    CallsIn Fence.wide n Try.prog 65 #[.func (.yield l) #[] #[], .pointer (some ⟨Bt, 0, none⟩), .pointer (some ⟨Bh, 0, none⟩)] W fun e W' => (∃ v, e = .returned v) ∧
      ((∃ ys, ys = whereL ls P m ∧ J ys W') ∨ (∃ pre, pre <+: whereL ls P m ∧ Jx pre W')) := by
  have HC := Lib.hid (tcheck_ok A m c ls W (hAt.below hW))
  have HL := Lib.hid hAt.len
  have HK1 := Lib.hid K1
  have HK2 := Lib.hid K2
  have HA := Lib.hid hAt
  have HJA := Lib.hid hJa
  have hm : m ≤ 300 := hAt.2.2
  have k1 := (K1.below hW K1.lt).cell 0
  have sz : w0.heap.size ≤ W.heap.size := hW.size
  clear hAt K1 K2 hJa
  cases hr : rightT ls with
  | false =>
    rw [hr] at HC
    have HE : Hid (whereL ls P m = []) := Lib.hid (by unfold whereL; rw [hr]; rfl)
    clear hr HH
    refine callsIn_of_wp Try.func65 rfl trivial ?_ rfl
    simp only [Try.ntmps65, List.size_toArray, List.length_cons, List.length_nil, Nat.reduceAdd, Nat.reduceSub, Array.replicate_succ, Array.replicate_zero, List.push_toArray, List.append_toArray, List.nil_append, List.cons_append]
    gi_wp2_with (refine ⟨trivial, ?_⟩; gi_at_call 13; refine (callsIn_wide.2 HC.out).mono ?_; rintro e w1 ⟨rfl, h1⟩; have HJ1 := Lib.hid (abides_below HJA.out hJ0 h1); clear h1)
    refine bodyPost_ret (results_none rfl _ _ _) rfl ?_
    exact ⟨⟨_, rfl⟩, .inl ⟨[], HE.out.symm, HJ1.out⟩⟩
  | true =>
    rw [hr] at HC
    have HE : Hid (whereL ls P m = toldL P m) := Lib.hid (by unfold whereL; rw [hr]; rfl)
    have HH2 := Lib.hid (HH hr)
    rw [HE.out] at hY
    have HY := Lib.hid hY
    clear hr HH hY
    refine callsIn_of_wp Try.func65 rfl trivial ?_ rfl
    simp only [Try.ntmps65, List.size_toArray, List.length_cons, List.length_nil, Nat.reduceAdd, Nat.reduceSub, Array.replicate_succ, Array.replicate_zero, List.push_toArray, List.append_toArray, List.nil_append, List.cons_append]
    gi_wp2_with (refine ⟨trivial, ?_⟩; gi_at_call 13; refine (callsIn_wide.2 HC.out).mono ?_; rintro e w1 ⟨rfl, h1⟩; have HJ1 := Lib.hid (abides_below HJA.out hJ0 h1); have HB1 := Lib.hid (hW.trans (h1.mono sz)); clear k1 h1; have k1 := (HK1.out.below HB1.out HK1.out.lt).cell 0)
    clear k1
    gi_loopw [11] (fun v wr => ∃ k : Nat, v = .int .i64 (k : Int) ∧ k ≤ m ∧ Hid (J (toldL P k) wr) ∧ Below w0.heap.size w0 wr)
      (fun v _ => m - (intOf v).toNat)
    case atStart => exact ⟨0, rfl, by omega, Lib.hid HJ1.out, HB1.out⟩
    case round =>
      obtain ⟨k, rfl, hk, HJ, hB⟩ := hrel
      by_cases hlt : k < m
      · have k2 := (HK2.out.below hB HK2.out.lt).cell 0
        have hsz := hB.size
        cases hp : P k with
        | false =>
          have HS := Lib.hid (told_no (P := P) hp)
          have HX := Lib.hid (HH2.out k hlt)
          rw [hp] at HX
          clear hp
          gi_wp2_with (refine ⟨trivial, ?_⟩; gi_at_call 44; refine (callsIn_wide.2 (HX.out _ hB)).mono ?_; rintro e w2 ⟨rfl, h2⟩; have HJ2 := Lib.hid (abides_below HJA.out HJ.out h2); have HB2 := Lib.hid (hB.trans (h2.mono hsz)); clear h2 k2)
          refine ⟨fun f hf => (by cases hf), ?_⟩
          rename_i K2 hK2 x2 h3 w3 heq
          refine hK2 _ _ ?_
          clear heq hK2 K2
          gi_wp2
          go_roundw
          case rel => exact ⟨k + 1, by go_num, by omega, Lib.hid (by rw [HS.out]; exact HJ2.out), HB2.out⟩
          case measure => simp [intOf]; omega
        | true =>
          have HS := Lib.hid (told_yes (P := P) hp)
          have HX := Lib.hid (HH2.out k hlt)
          rw [hp] at HX
          have HP := Lib.hid (told_prefix P (show k + 1 ≤ m by omega))
          have HN := Lib.hid (told_more (P := P) hp hlt)
          clear hp
          gi_wp2_with (refine ⟨trivial, ?_⟩; gi_at_call 44; refine (callsIn_wide.2 (HX.out _ hB)).mono ?_; rintro e w2 ⟨rfl, h2⟩; have HJ2 := Lib.hid (abides_below HJA.out HJ.out h2); have HB2 := Lib.hid (hB.trans (h2.mono hsz)); clear h2 k2; obtain ⟨fn, tmps, assign, body, hy, hR⟩ := HY.out (toldL P k) (k : Int) w2 HJ2.out HN.out)
          refine hR.mono ?_
          rintro e W3 (⟨rfl, hJ3, hk3⟩ | ⟨rfl, hJx3⟩)
          · have HB3 := Lib.hid (HB2.out.trans hk3)
            have HJ3 := Lib.hid hJ3
            clear hk3 hJ3
            gi_wp2
            go_roundw
            case rel => exact ⟨k + 1, by go_num, by omega, Lib.hid (by rw [HS.out]; exact HJ3.out), HB3.out⟩
            case measure => simp [intOf]; omega
          · gi_wp2
            refine bodyPost_ret (results_none rfl _ _ _) rfl ?_
            exact ⟨⟨_, rfl⟩, .inr ⟨toldL P k ++ [(k : Int)], by rw [← HS.out, HE.out]; exact HP.out, hJx3⟩⟩
      · obtain rfl : m = k := by omega
        gi_wp2
        go_end0
        exact ⟨⟨_, rfl⟩, .inl ⟨toldL P m, HE.out.symm, HJ.out⟩⟩

theorem toldSock_stops (n : Nat) (hn : 1 ≤ n) (Bt Bh Bt2 Bx : Nat) (A : Option Addr) (m c : Nat) (ls : List (Int × Int)) (P : Nat → Bool) (fT : TypeId) (w0 : World)
    (K1 : Blk w0 Bt 27 #[.slice A m c]) (K2 : Blk w0 Bh fT #[.func (.func 44) #[] #[.pointer (some ⟨Bt2, 0, none⟩), .pointer (some ⟨Bx, 0, none⟩)]]) (hAt : At w0 A m c ls)
    (HH : rightT ls = true → ∀ k : Nat, k < m → ∀ u, Below w0.heap.size w0 u → Calls Try.prog 44 #[.int .i64 (k : Int), .pointer (some ⟨Bt2, 0, none⟩), .pointer (some ⟨Bx, 0, none⟩)] u (Said (.bool (P k)) u)) :
    SeqStopsK Fence.wide n Try.prog 65 #[.pointer (some ⟨Bt, 0, none⟩), .pointer (some ⟨Bh, 0, none⟩)] (fun x : Int => #[Value.int .i64 x]) (Below w0.heap.size) (fun ys => ys = whereL ls P m) (fun pre => pre <+: whereL ls P m) (whereL ls P m).length w0 :=
  fun l J Jx W hW hJa _ hY h0 => toldSock_in n hn l Bt Bh Bt2 Bx A m c ls P fT w0 K1 K2 hAt HH J Jx W hW hJa hY h0

set_option maxRecDepth 100000 in
set_option maxHeartbeats 2000000 in
theorem toldSib_in (n : Nat) (hn : 1 ≤ n) (l Bt Bh Bt2 Bx : Nat) (A : Option Addr) (m c : Nat) (ls : List (Int × Int)) (P : Nat → Bool) (fT : TypeId) (w0 : World)
    (K1 : Blk w0 Bt 27 #[.slice A m c]) (K2 : Blk w0 Bh fT #[.func (.func 46) #[] #[.pointer (some ⟨Bt2, 0, none⟩), .pointer (some ⟨Bx, 0, none⟩)]]) (hAt : At w0 A m c ls)
    (HH : rightT ls = true → ∀ k : Nat, k < m → ∀ u, Below w0.heap.size w0 u → Calls Try.prog 46 #[.int .i64 (k : Int), .pointer (some ⟨Bt2, 0, none⟩), .pointer (some ⟨Bx, 0, none⟩)] u (Said (.bool (P k)) u))
    (J Jx : List Int → World → Prop) (W : World) (hW : Below w0.heap.size w0 W) (hJa : AbidesFrom W.heap.size J)
    (hY : ∀ pre x W1, J pre W1 → pre.length < (whereL ls P m).length → YieldAt Fence.wide (n - 1) Try.prog l #[.int .i64 x] W1 fun e W' =>
      (e = .returned (.bool true) ∧ J (pre ++ [x]) W' ∧ Below w0.heap.size W1 W') ∨ (e = .returned (.bool false) ∧ Jx (pre ++ [x]) W'))
    (hJ0 : J [] W) :
    CallsIn Fence.wide n Try.prog 65 #[.func (.yield l) #[] #[], .pointer (some ⟨Bt, 0, none⟩), .pointer (some ⟨Bh, 0, none⟩)] W fun e W' => (∃ v, e = .returned v) ∧
      ((∃ ys, ys = whereL ls P m ∧ J ys W') ∨ (∃ pre, pre <+: whereL ls P m ∧ Jx pre W')) := by
  have HC := Lib.hid (tcheck_ok A m c ls W (hAt.below hW))
  have HL := Lib.hid hAt.len
  have HK1 := Lib.hid K1
  have HK2 := Lib.hid K2
  have HA := Lib.hid hAt
  have HJA := Lib.hid hJa
  have hm : m ≤ 300 := hAt.2.2
  have k1 := (K1.below hW K1.lt).cell 0
  have sz : w0.heap.size ≤ W.heap.size := hW.size
  clear hAt K1 K2 hJa
  cases hr : rightT ls with
  | false =>
    rw [hr] at HC
    have HE : Hid (whereL ls P m = []) := Lib.hid (by unfold whereL; rw [hr]; rfl)
    clear hr HH
    refine callsIn_of_wp Try.func65 rfl trivial ?_ rfl
    simp only [Try.ntmps65, List.size_toArray, List.length_cons, List.length_nil, Nat.reduceAdd, Nat.reduceSub, Array.replicate_succ, Array.replicate_zero, List.push_toArray, List.append_toArray, List.nil_append, List.cons_append]
    gi_wp2_with (refine ⟨trivial, ?_⟩; gi_at_call 13; refine (callsIn_wide.2 HC.out).mono ?_; rintro e w1 ⟨rfl, h1⟩; have HJ1 := Lib.hid (abides_below HJA.out hJ0 h1); clear h1)
    refine bodyPost_ret (results_none rfl _ _ _) rfl ?_
    exact ⟨⟨_, rfl⟩, .inl ⟨[], HE.out.symm, HJ1.out⟩⟩
  | true =>
    rw [hr] at HC
    have HE : Hid (whereL ls P m = toldL P m) := Lib.hid (by unfold whereL; rw [hr]; rfl)
    have HH2 := Lib.hid (HH hr)
    rw [HE.out] at hY
    have HY := Lib.hid hY
    clear hr HH hY
    refine callsIn_of_wp Try.func65 rfl trivial ?_ rfl
    simp only [Try.ntmps65, List.size_toArray, List.length_cons, List.length_nil, Nat.reduceAdd, Nat.reduceSub, Array.replicate_succ, Array.replicate_zero, List.push_toArray, List.append_toArray, List.nil_append, List.cons_append]
    gi_wp2_with (refine ⟨trivial, ?_⟩; gi_at_call 13; refine (callsIn_wide.2 HC.out).mono ?_; rintro e w1 ⟨rfl, h1⟩; have HJ1 := Lib.hid (abides_below HJA.out hJ0 h1); have HB1 := Lib.hid (hW.trans (h1.mono sz)); clear k1 h1; have k1 := (HK1.out.below HB1.out HK1.out.lt).cell 0)
    clear k1
    gi_loopw [11] (fun v wr => ∃ k : Nat, v = .int .i64 (k : Int) ∧ k ≤ m ∧ Hid (J (toldL P k) wr) ∧ Below w0.heap.size w0 wr)
      (fun v _ => m - (intOf v).toNat)
    case atStart => exact ⟨0, rfl, by omega, Lib.hid HJ1.out, HB1.out⟩
    case round =>
      obtain ⟨k, rfl, hk, HJ, hB⟩ := hrel
      by_cases hlt : k < m
      · have k2 := (HK2.out.below hB HK2.out.lt).cell 0
        have hsz := hB.size
        cases hp : P k with
        | false =>
          have HS := Lib.hid (told_no (P := P) hp)
          have HX := Lib.hid (HH2.out k hlt)
          rw [hp] at HX
          clear hp
          gi_wp2_with (refine ⟨trivial, ?_⟩; gi_at_call 46; refine (callsIn_wide.2 (HX.out _ hB)).mono ?_; rintro e w2 ⟨rfl, h2⟩; have HJ2 := Lib.hid (abides_below HJA.out HJ.out h2); have HB2 := Lib.hid (hB.trans (h2.mono hsz)); clear h2 k2)
          refine ⟨fun f hf => (by cases hf), ?_⟩
          rename_i K2 hK2 x2 h3 w3 heq
          refine hK2 _ _ ?_
          clear heq hK2 K2
          gi_wp2
          go_roundw
          case rel => exact ⟨k + 1, by go_num, by omega, Lib.hid (by rw [HS.out]; exact HJ2.out), HB2.out⟩
          case measure => simp [intOf]; omega
        | true =>
          have HS := Lib.hid (told_yes (P := P) hp)
          have HX := Lib.hid (HH2.out k hlt)
          rw [hp] at HX
          have HP := Lib.hid (told_prefix P (show k + 1 ≤ m by omega))
          have HN := Lib.hid (told_more (P := P) hp hlt)
          clear hp
          gi_wp2_with (refine ⟨trivial, ?_⟩; gi_at_call 46; refine (callsIn_wide.2 (HX.out _ hB)).mono ?_; rintro e w2 ⟨rfl, h2⟩; have HJ2 := Lib.hid (abides_below HJA.out HJ.out h2); have HB2 := Lib.hid (hB.trans (h2.mono hsz)); clear h2 k2; obtain ⟨fn, tmps, assign, body, hy, hR⟩ := HY.out (toldL P k) (k : Int) w2 HJ2.out HN.out)
          refine hR.mono ?_
          rintro e W3 (⟨rfl, hJ3, hk3⟩ | ⟨rfl, hJx3⟩)
          · have HB3 := Lib.hid (HB2.out.trans hk3)
            have HJ3 := Lib.hid hJ3
            clear hk3 hJ3
            gi_wp2
            go_roundw
            case rel => exact ⟨k + 1, by go_num, by omega, Lib.hid (by rw [HS.out]; exact HJ3.out), HB3.out⟩
            case measure => simp [intOf]; omega
          · gi_wp2
            refine bodyPost_ret (results_none rfl _ _ _) rfl ?_
            exact ⟨⟨_, rfl⟩, .inr ⟨toldL P k ++ [(k : Int)], by rw [← HS.out, HE.out]; exact HP.out, hJx3⟩⟩
      · obtain rfl : m = k := by omega
        gi_wp2
        go_end0
        exact ⟨⟨_, rfl⟩, .inl ⟨toldL P m, HE.out.symm, HJ.out⟩⟩

theorem toldSib_stops (n : Nat) (hn : 1 ≤ n) (Bt Bh Bt2 Bx : Nat) (A : Option Addr) (m c : Nat) (ls : List (Int × Int)) (P : Nat → Bool) (fT : TypeId) (w0 : World)
    (K1 : Blk w0 Bt 27 #[.slice A m c]) (K2 : Blk w0 Bh fT #[.func (.func 46) #[] #[.pointer (some ⟨Bt2, 0, none⟩), .pointer (some ⟨Bx, 0, none⟩)]]) (hAt : At w0 A m c ls)
    (HH : rightT ls = true → ∀ k : Nat, k < m → ∀ u, Below w0.heap.size w0 u → Calls Try.prog 46 #[.int .i64 (k : Int), .pointer (some ⟨Bt2, 0, none⟩), .pointer (some ⟨Bx, 0, none⟩)] u (Said (.bool (P k)) u)) :
    SeqStopsK Fence.wide n Try.prog 65 #[.pointer (some ⟨Bt, 0, none⟩), .pointer (some ⟨Bh, 0, none⟩)] (fun x : Int => #[Value.int .i64 x]) (Below w0.heap.size) (fun ys => ys = whereL ls P m) (fun pre => pre <+: whereL ls P m) (whereL ls P m).length w0 :=
  fun l J Jx W hW hJa _ hY h0 => toldSib_in n hn l Bt Bh Bt2 Bx A m c ls P fT w0 K1 K2 hAt HH J Jx W hW hJa hY h0

set_option maxRecDepth 100000 in
set_option maxHeartbeats 2000000 in
theorem toldNear_in (n : Nat) (hn : 1 ≤ n) (l Bt Bh Bx : Nat) (A : Option Addr) (m c : Nat) (ls : List (Int × Int)) (P : Nat → Bool) (fT : TypeId) (w0 : World)
    (K1 : Blk w0 Bt 27 #[.slice A m c]) (K2 : Blk w0 Bh fT #[.func (.func 52) #[] #[.pointer (some ⟨Bx, 0, none⟩)]]) (hAt : At w0 A m c ls)
    (HH : rightT ls = true → ∀ k : Nat, k < m → ∀ u, Below w0.heap.size w0 u → Calls Try.prog 52 #[.int .i64 (k : Int), .pointer (some ⟨Bx, 0, none⟩)] u (Said (.bool (P k)) u))
    (J Jx : List Int → World → Prop) (W : World) (hW : Below w0.heap.size w0 W) (hJa : AbidesFrom W.heap.size J)
    (hY : ∀ pre x W1, J pre W1 → pre.length < (whereL ls P m).length → YieldAt Fence.wide (n - 1) Try.prog l #[.int .i64 x] W1 fun e W' =>
      (e = .returned (.bool true) ∧ J (pre ++ [x]) W' ∧ Below w0.heap.size W1 W') ∨ (e = .returned (.bool false) ∧ Jx (pre ++ [x]) W'))
    (hJ0 : J [] W) :
    CallsIn Fence.wide n Try.prog 65 #[.func (.yield l) #[] #[], .pointer (some ⟨Bt, 0, none⟩), .pointer (some ⟨Bh, 0, none⟩)] W fun e W' => (∃ v, e = .returned v) ∧
      ((∃ ys, ys = whereL ls P m ∧ J ys W') ∨ (∃ pre, pre <+: whereL ls P m ∧ Jx pre W')) := by
  have HC := Lib.hid (tcheck_ok A m c ls W (hAt.below hW))
  have HL := Lib.hid hAt.len
  have HK1 := Lib.hid K1
  have HK2 := Lib.hid K2
  have HA := Lib.hid hAt
  have HJA := Lib.hid hJa
  have hm : m ≤ 300 := hAt.2.2
  have k1 := (K1.below hW K1.lt).cell 0
  have sz : w0.heap.size ≤ W.heap.size := hW.size
  clear hAt K1 K2 hJa
  cases hr : rightT ls with
  | false =>
    rw [hr] at HC
    have HE : Hid (whereL ls P m = []) := Lib.hid (by unfold whereL; rw [hr]; rfl)
    clear hr HH
    refine callsIn_of_wp Try.func65 rfl trivial ?_ rfl
    simp only [Try.ntmps65, List.size_toArray, List.length_cons, List.length_nil, Nat.reduceAdd, Nat.reduceSub, Array.replicate_succ, Array.replicate_zero, List.push_toArray, List.append_toArray, List.nil_append, List.cons_append]
    gi_wp2_with (refine ⟨trivial, ?_⟩; gi_at_call 13; refine (callsIn_wide.2 HC.out).mono ?_; rintro e w1 ⟨rfl, h1⟩; have HJ1 := Lib.hid (abides_below HJA.out hJ0 h1); clear h1)
    refine bodyPost_ret (results_none rfl _ _ _) rfl ?_
    exact ⟨⟨_, rfl⟩, .inl ⟨[], HE.out.symm, HJ1.out⟩⟩
  | true =>
    rw [hr] at HC
    have HE : Hid (whereL ls P m = toldL P m) := Lib.hid (by unfold whereL; rw [hr]; rfl)
    have HH2 := Lib.hid (HH hr)
    rw [HE.out] at hY
    have HY := Lib.hid hY
    clear hr HH hY
    refine callsIn_of_wp Try.func65 rfl trivial ?_ rfl
    simp only [Try.ntmps65, List.size_toArray, List.length_cons, List.length_nil, Nat.reduceAdd, Nat.reduceSub, Array.replicate_succ, Array.replicate_zero, List.push_toArray, List.append_toArray, List.nil_append, List.cons_append]
    gi_wp2_with (refine ⟨trivial, ?_⟩; gi_at_call 13; refine (callsIn_wide.2 HC.out).mono ?_; rintro e w1 ⟨rfl, h1⟩; have HJ1 := Lib.hid (abides_below HJA.out hJ0 h1); have HB1 := Lib.hid (hW.trans (h1.mono sz)); clear k1 h1; have k1 := (HK1.out.below HB1.out HK1.out.lt).cell 0)
    clear k1
    gi_loopw [11] (fun v wr => ∃ k : Nat, v = .int .i64 (k : Int) ∧ k ≤ m ∧ Hid (J (toldL P k) wr) ∧ Below w0.heap.size w0 wr)
      (fun v _ => m - (intOf v).toNat)
    case atStart => exact ⟨0, rfl, by omega, Lib.hid HJ1.out, HB1.out⟩
    case round =>
      obtain ⟨k, rfl, hk, HJ, hB⟩ := hrel
      by_cases hlt : k < m
      · have k2 := (HK2.out.below hB HK2.out.lt).cell 0
        have hsz := hB.size
        cases hp : P k with
        | false =>
          have HS := Lib.hid (told_no (P := P) hp)
          have HX := Lib.hid (HH2.out k hlt)
          rw [hp] at HX
          clear hp
          gi_wp2_with (refine ⟨trivial, ?_⟩; gi_at_call 52; refine (callsIn_wide.2 (HX.out _ hB)).mono ?_; rintro e w2 ⟨rfl, h2⟩; have HJ2 := Lib.hid (abides_below HJA.out HJ.out h2); have HB2 := Lib.hid (hB.trans (h2.mono hsz)); clear h2 k2)
          refine ⟨fun f hf => (by cases hf), ?_⟩
          rename_i K2 hK2 x2 h3 w3 heq
          refine hK2 _ _ ?_
          clear heq hK2 K2
          gi_wp2
          go_roundw
          case rel => exact ⟨k + 1, by go_num, by omega, Lib.hid (by rw [HS.out]; exact HJ2.out), HB2.out⟩
          case measure => simp [intOf]; omega
        | true =>
          have HS := Lib.hid (told_yes (P := P) hp)
          have HX := Lib.hid (HH2.out k hlt)
          rw [hp] at HX
          have HP := Lib.hid (told_prefix P (show k + 1 ≤ m by omega))
          have HN := Lib.hid (told_more (P := P) hp hlt)
          clear hp
          gi_wp2_with (refine ⟨trivial, ?_⟩; gi_at_call 52; refine (callsIn_wide.2 (HX.out _ hB)).mono ?_; rintro e w2 ⟨rfl, h2⟩; have HJ2 := Lib.hid (abides_below HJA.out HJ.out h2); have HB2 := Lib.hid (hB.trans (h2.mono hsz)); clear h2 k2; obtain ⟨fn, tmps, assign, body, hy, hR⟩ := HY.out (toldL P k) (k : Int) w2 HJ2.out HN.out)
          refine hR.mono ?_
          rintro e W3 (⟨rfl, hJ3, hk3⟩ | ⟨rfl, hJx3⟩)
          · have HB3 := Lib.hid (HB2.out.trans hk3)
            have HJ3 := Lib.hid hJ3
            clear hk3 hJ3
            gi_wp2
            go_roundw
            case rel => exact ⟨k + 1, by go_num, by omega, Lib.hid (by rw [HS.out]; exact HJ3.out), HB3.out⟩
            case measure => simp [intOf]; omega
          · gi_wp2
            refine bodyPost_ret (results_none rfl _ _ _) rfl ?_
            exact ⟨⟨_, rfl⟩, .inr ⟨toldL P k ++ [(k : Int)], by rw [← HS.out, HE.out]; exact HP.out, hJx3⟩⟩
      · obtain rfl : m = k := by omega
        gi_wp2
        go_end0
        exact ⟨⟨_, rfl⟩, .inl ⟨toldL P m, HE.out.symm, HJ.out⟩⟩

theorem toldNear_stops (n : Nat) (hn : 1 ≤ n) (Bt Bh Bx : Nat) (A : Option Addr) (m c : Nat) (ls : List (Int × Int)) (P : Nat → Bool) (fT : TypeId) (w0 : World)
    (K1 : Blk w0 Bt 27 #[.slice A m c]) (K2 : Blk w0 Bh fT #[.func (.func 52) #[] #[.pointer (some ⟨Bx, 0, none⟩)]]) (hAt : At w0 A m c ls)
    (HH : rightT ls = true → ∀ k : Nat, k < m → ∀ u, Below w0.heap.size w0 u → Calls Try.prog 52 #[.int .i64 (k : Int), .pointer (some ⟨Bx, 0, none⟩)] u (Said (.bool (P k)) u)) :
    SeqStopsK Fence.wide n Try.prog 65 #[.pointer (some ⟨Bt, 0, none⟩), .pointer (some ⟨Bh, 0, none⟩)] (fun x : Int => #[Value.int .i64 x]) (Below w0.heap.size) (fun ys => ys = whereL ls P m) (fun pre => pre <+: whereL ls P m) (whereL ls P m).length w0 :=
  fun l J Jx W hW hJa _ hY h0 => toldNear_in n hn l Bt Bh Bx A m c ls P fT w0 K1 K2 hAt HH J Jx W hW hJa hY h0

end Go.Proofs.Ytfalkiinlkfanaa
