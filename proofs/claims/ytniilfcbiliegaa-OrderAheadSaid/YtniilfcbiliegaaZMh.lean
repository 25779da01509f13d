/-
  The landed comparisons: byFresh, byTime, byOrder, byMember; one behind the other (chain, standing). No statement is proved here.
-/
import Derived.Test.YtniilfcbiliegaaZMb
import Derived.Test.YtniilfcbiliegaaZDLc
namespace Go.Proofs.Ytniilfcbiliegaa
open Go.RowKit

/-- the world is the old one grown -/
abbrev Gr (w w' : World) : Prop := Dw.Below w.heap.size w w'
def Says (v : Value) (w : World) (e : Ending) (w' : World) : Prop := e = .returned v ∧ Gr w w'
theorem Gr.two (w : World) (o p : Obj) : Gr w ((w.alloc o).alloc p) := ((Dw.Below.refl _ w).alloc (Nat.le_refl _) o).alloc (by simp) p
theorem Gr.then_ {w w' w'' : World} (h : Gr w w') (k : Gr w' w'') : Gr w w'' := h.trans (k.mono h.size)
theorem cmp_grown (h l x h' l' x' : Nat) (u : World) (hh : h < 2 ^ 64) (hl : l < 2 ^ 64) (hx : x < 2 ^ 64) (hh' : h' < 2 ^ 64) (hl' : l' < 2 ^ 64) (hx' : x' < 2 ^ 64) :
    Calls Try.prog 27 #[.agg #[.int .u64 (h : Int), .int .u64 (l : Int), .int .u64 (x : Int)], .agg #[.int .u64 (h' : Int), .int .u64 (l' : Int), .int .u64 (x' : Int)]] u (Says (.int .i64 (cmpR (h * 2 ^ 64 + l) x (h' * 2 ^ 64 + l') x')) u) := by
  have q := Dw.compare_ok (h * 2 ^ 64 + l) x (h' * 2 ^ 64 + l') x' u (by omega) hx (by omega) hx'
  rw [Dw.fq_of hl, Dw.fq_of hl'] at q
  exact q

set_option maxRecDepth 100000 in
set_option maxHeartbeats 400000 in
theorem uisnan_any (a : Int) (w : World) : Calls Try.prog 112 #[.int .u64 a] w fun e w' => e = .returned (.bool false) ∧ w = w' := by
  have e0 : (a == a) = true := by simp
  go_enter Try.func112, Try.ntmps112
  go_wp2
  go_ret
  exact ⟨rfl, rfl⟩

set_option maxRecDepth 100000 in
set_option maxHeartbeats 1000000 in
theorem ucompare_any (a b : Nat) (w : World) : Calls Try.prog 92 #[.int .u64 (a : Int), .int .u64 (b : Int)] w fun e w' => e = .returned (.int .i64 (cmpW a b)) ∧ w = w' := by
  have HN := Lib.hid (fun (x : Int) (u : World) => uisnan_any x u)
  by_cases h1 : a < b
  · have HV : Hid (cmpW a b = -1) := Lib.hid (if_pos h1)
    have e1 : decide (a < b) = true := decide_eq_true h1
    go_enter Try.func92, Try.ntmps92
    go_wp2_with fail
    refine (HN.out _ _).mono ?_
    rintro e w' ⟨rfl, rfl⟩
    go_wp2_with fail
    refine (HN.out _ _).mono ?_
    rintro e w' ⟨rfl, rfl⟩
    go_wp2
    go_ret
    exact ⟨retI HV.out.symm, rfl⟩
  · have e1 : decide (a < b) = false := decide_eq_false h1
    by_cases h2 : b < a
    · have HV : Hid (cmpW a b = 1) := Lib.hid (by unfold cmpW; rw [if_neg h1, if_pos h2])
      have e2 : decide (b < a) = true := decide_eq_true h2
      go_enter Try.func92, Try.ntmps92
      go_wp2_with fail
      refine (HN.out _ _).mono ?_
      rintro e w' ⟨rfl, rfl⟩
      go_wp2_with fail
      refine (HN.out _ _).mono ?_
      rintro e w' ⟨rfl, rfl⟩
      go_wp2
      go_ret
      exact ⟨retI HV.out.symm, rfl⟩
    · have HV : Hid (cmpW a b = 0) := Lib.hid (by unfold cmpW; rw [if_neg h1, if_neg h2])
      have e2 : decide (b < a) = false := decide_eq_false h2
      go_enter Try.func92, Try.ntmps92
      go_wp2_with fail
      refine (HN.out _ _).mono ?_
      rintro e w' ⟨rfl, rfl⟩
      go_wp2_with fail
      refine (HN.out _ _).mono ?_
      rintro e w' ⟨rfl, rfl⟩
      go_wp2
      go_ret
      exact ⟨retI HV.out.symm, rfl⟩

set_option maxRecDepth 100000 in
set_option maxHeartbeats 4000000 in
theorem byfresh_any (A : Option Addr) (n c h l x o : Nat) (f : Bool) (A' : Option Addr) (n' c' h' l' x' o' : Nat) (f' : Bool) (w : World) : Calls Try.prog 64 #[.agg (agE A n c h l x o f), .agg (agE A' n' c' h' l' x' o' f')] w (Says (.int .i64 (cmpF f f')) w) := by
  obtain ⟨K0, K1, GB⟩ := blks2 w 47 47 (agE A n c h l x o f) (agE A' n' c' h' l' x' o' f')
  have HG := Lib.hid (Gr.two w (.cells (agE A n c h l x o f) 47) (.cells (agE A' n' c' h' l' x' o' f') 47))
  unfold agE at *
  have z5 := K0.cell 5
  have y5 := K1.cell 5
  clear K0 K1 GB
  cases f <;> cases f'
  all_goals
    go_enter Try.func64, Try.ntmps64
    go_wp2_with fail
    go_ret
    exact ⟨rfl, HG.out⟩

set_option maxRecDepth 100000 in
set_option maxHeartbeats 4000000 in
theorem bytime_any (A : Option Addr) (n c h l x o : Nat) (f : Bool) (A' : Option Addr) (n' c' h' l' x' o' : Nat) (f' : Bool) (w : World) (hh : h < 2 ^ 64) (hl : l < 2 ^ 64) (hx : x < 2 ^ 64) (hh' : h' < 2 ^ 64) (hl' : l' < 2 ^ 64) (hx' : x' < 2 ^ 64) :
    Calls Try.prog 65 #[.agg (agE A n c h l x o f), .agg (agE A' n' c' h' l' x' o' f')] w (Says (.int .i64 (cmpT (h, l, x) (h', l', x'))) w) := by
  have HC := Lib.hid (fun u => cmp_grown h l x h' l' x' u hh hl hx hh' hl' hx')
  have HV : Hid (cmpT (h, l, x) (h', l', x') = cmpR (h * 2 ^ 64 + l) x (h' * 2 ^ 64 + l') x') := Lib.hid rfl
  rw [HV.out]
  generalize cmpR (h * 2 ^ 64 + l) x (h' * 2 ^ 64 + l') x' = r at HC ⊢
  clear HV hh hl hx hh' hl' hx'
  obtain ⟨K0, K1, GB⟩ := blks2 w 47 47 (agE A n c h l x o f) (agE A' n' c' h' l' x' o' f')
  have HG := Lib.hid (Gr.two w (.cells (agE A n c h l x o f) 47) (.cells (agE A' n' c' h' l' x' o' f') 47))
  unfold agE at *
  have z1 := K0.cell 1
  have y1 := K1.cell 1
  have z2 := K0.cell 2
  have y2 := K1.cell 2
  have z3 := K0.cell 3
  have y3 := K1.cell 3
  clear K0 K1 GB
  go_enter Try.func65, Try.ntmps65
  go_wp2_with fail
  refine (HC.out _).mono ?_
  rintro e w1 ⟨rfl, h9⟩
  have HG2 := Lib.hid (HG.out.then_ h9)
  clear h9
  go_wp2
  go_ret
  exact ⟨rfl, HG2.out⟩

set_option maxRecDepth 100000 in
set_option maxHeartbeats 4000000 in
theorem byorder_any (A : Option Addr) (n c h l x o : Nat) (f : Bool) (A' : Option Addr) (n' c' h' l' x' o' : Nat) (f' : Bool) (w : World) : Calls Try.prog 66 #[.agg (agE A n c h l x o f), .agg (agE A' n' c' h' l' x' o' f')] w (Says (.int .i64 (cmpW o o')) w) := by
  have HC := Lib.hid (fun u => ucompare_any o o' u)
  obtain ⟨K0, K1, GB⟩ := blks2 w 47 47 (agE A n c h l x o f) (agE A' n' c' h' l' x' o' f')
  have HG := Lib.hid (Gr.two w (.cells (agE A n c h l x o f) 47) (.cells (agE A' n' c' h' l' x' o' f') 47))
  unfold agE at *
  have z4 := K0.cell 4
  have y4 := K1.cell 4
  clear K0 K1 GB
  go_enter Try.func66, Try.ntmps66
  go_wp2_with fail
  refine (HC.out _).mono ?_
  rintro e w1 ⟨rfl, rfl⟩
  go_wp2
  go_ret
  exact ⟨rfl, HG.out⟩

/-- a row that has a first number -/
def Fst (w : World) (A : Option Addr) (n : Nat) (i : Int) : Prop := 0 < n ∧ ∃ ad, A = some ad ∧ ad.block < w.heap.size ∧ w.cell? ad = some (.int .i64 i)
theorem Fst.gr {w w' : World} {A : Option Addr} {n : Nat} {i : Int} (h : Fst w A n i) (g : Gr w w') : Fst w' A n i := by
  obtain ⟨h0, ad, e, hb, hc⟩ := h
  exact ⟨h0, ad, e, Nat.lt_of_lt_of_le hb g.size, (g.cell hb).trans hc⟩

set_option maxRecDepth 100000 in
set_option maxHeartbeats 4000000 in
theorem bymember_any (A : Option Addr) (n c h l x o : Nat) (f : Bool) (A' : Option Addr) (n' c' h' l' x' o' : Nat) (f' : Bool) (i i' : Int) (w : World) (hF : Fst w A n i) (hF' : Fst w A' n' i') : Calls Try.prog 67 #[.agg (agE A n c h l x o f), .agg (agE A' n' c' h' l' x' o' f')] w (Says (.int .i64 (cmpY i i')) w) := by
  have HC := Lib.hid (fun u => icompare_any i i' u)
  obtain ⟨K0, K1, GB⟩ := blks2 w 47 47 (agE A n c h l x o f) (agE A' n' c' h' l' x' o' f')
  have HG := Lib.hid (Gr.two w (.cells (agE A n c h l x o f) 47) (.cells (agE A' n' c' h' l' x' o' f') 47))
  unfold agE at *
  obtain ⟨h0, ad, rfl, hb, hc⟩ := hF.gr HG.out
  obtain ⟨h0', ad', rfl, hb', hc'⟩ := hF'.gr HG.out
  have e1 : (0 : Int) < (n : Int) := by omega
  have e2 : (0 : Int) < (n' : Int) := by omega
  have e3 : ¬ n = 0 := by omega
  have e4 : ¬ n' = 0 := by omega
  have z0 := K0.cell 0
  have y0 := K1.cell 0
  clear K0 K1 GB hF hF' hb hb'
  go_enter Try.func67, Try.ntmps67
  go_wp2_with fail
  go_quiet ((go_at_call 93; exact (HC.out _).mono fun _ _ h => ⟨h.1, _, h.2.symm⟩))
  go_wp2_with fail
  go_ret
  exact ⟨rfl, Dw.below_drewN HG.out _⟩

end Go.Proofs.Ytniilfcbiliegaa
