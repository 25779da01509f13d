/-
  The contract of the landed cpuset's function over which one ranges. No statement is proved here.
-/
import Derived.Test.YtkbgpmgnkegipaaDoorMj
import Derived.RangeFuncBox
import Derived.RangeFuncLeaves
import Derived.RangeFuncCalls
import Derived.Shelf.Abstract
import Derived.OwnWalkIn
import Derived.TacticsInMore
import Derived.LoopNIn
import Derived.LoopIn
namespace Go.Proofs.YtkbgpmgnkegipaaDoor
open Go.RowKit Go.Shelf

attribute [local go_sem] Oper.semAt_some

theorem tz_step {r : Nat} (h0 : 0 < r) (h1 : r < 256) : ∃ r' n : Nat, n = tzN r ∧ n < 8 ∧ r' < r ∧ bits .andNot .u32 (r : Int) (2 ^ n) = (r' : Int) ∧ mem (r : Int) = (n : Int) :: mem (r' : Int) := by
  obtain ⟨t8, _, hm, hh⟩ := tz_facts h0 h1
  have hc : cpuB (tzN r : Int) = true := cpuB_yes (by omega) (by omega)
  have h2 := (or_there (s := (r : Int)) (by omega) (by omega) hc hh).2
  have h3 := bit_in (s := (r : Int)) (by omega) (by omega) hc hh
  rw [Int.toNat_natCast] at h2 h3
  have h4 := two_pos_m (tzN r)
  refine ⟨((r : Int) - 2 ^ tzN r).toNat, tzN r, rfl, t8, by omega, ?_, ?_⟩
  · rw [h2]; omega
  · rw [hm, Int.toNat_of_nonneg h3]

set_option maxRecDepth 100000 in
set_option maxHeartbeats 2000000 in
theorem each1_in (n : Nat) (hn : 1 ≤ n) (l Bs n₀ : Nat) (s : Int) (s0 : 0 ≤ s) (s1 : s < 4294967296) (hg : 0 < n₀) (J Jx : List Int → World → Prop)
    (hY : ∀ pre x W, J pre W → pre.length < (mem s).length → YieldAt Fence.wide (n - 1) Tryd.prog l #[.int .i64 x] W fun e W' =>
      (e = .returned (.bool true) ∧ J (pre ++ [x]) W' ∧ Below n₀ W W') ∨ (e = .returned (.bool false) ∧ Jx (pre ++ [x]) W'))
    (W : World) (hBs : W.cell? ⟨Bs, 0, none⟩ = some (.int .u32 s)) (hT : Db W) (hJ0 : J [] W) :
    CallsIn Fence.wide n Tryd.prog 55 #[.func (.yield l) #[] #[], .pointer (some ⟨Bs, 0, none⟩)] W fun e W' => (∃ v, e = .returned v) ∧
      ((∃ ys, ys = mem s ∧ J ys W') ∨ (∃ pre, pre <+: mem s ∧ Jx pre W')) := by
  have ha := and_all_m s0 s1
  obtain ⟨x, hx⟩ : ∃ x : Nat, s % 256 = (x : Int) := ⟨(s % 256).toNat, by omega⟩
  have hx8 : x < 256 := by omega
  have hm : mem s = mem (x : Int) := by rw [← hx, mem_mod]
  rw [hx] at ha
  have HX := Lib.hid hx8
  have HM := Lib.hid hm
  have HT := Lib.hid hT
  clear hx hx8 hm s0 s1 hT
  refine callsIn_of_wp Tryd.func55 rfl trivial ?_ rfl
  simp only [Tryd.ntmps55, List.size_toArray, List.length_cons, List.length_nil, Nat.reduceAdd, Nat.reduceSub, Array.replicate_succ, Array.replicate_zero, List.push_toArray, List.append_toArray, List.nil_append, List.cons_append]
  gi_wp2
  gi_loopw [3] (fun v wr => ∃ (pre : List Int) (r : Nat), v = .int .u32 (r : Int) ∧ r < 256 ∧ mem s = pre ++ mem (r : Int) ∧ J pre wr ∧ Db wr)
    (fun v _ => (intOf v).toNat)
  case atStart => exact ⟨[], x, rfl, HX.out, HM.out, hJ0, HT.out⟩
  case round =>
    obtain ⟨pre, r, rfl, hr, hpre, hJs, hD⟩ := hrel
    by_cases hz : r = 0
    · subst hz
      have he : mem s = pre := by rw [hpre]; show pre ++ mem 0 = pre; rw [show mem 0 = [] from rfl, List.append_nil]
      clear hpre hr
      gi_wp2
      go_end0
      exact ⟨⟨_, rfl⟩, .inl ⟨pre, he.symm, hJs⟩⟩
    · obtain ⟨r', t, ht, ht8, hlt, hbits, hmr⟩ := tz_step (by omega) hr
      have hz2 : ((r : Int) == 0) = false := by simp; omega
      have HZ := Lib.hid (fun u hu => tz_any r u hu (by omega) hr)
      rw [← ht] at HZ
      have HB := Lib.hid (fun u => bit_any_m (t : Int) u (by omega) (by omega))
      rw [Int.toNat_natCast] at HB
      have HL := Lib.hid hlt
      have HR := Lib.hid (show r' < 256 by omega)
      rw [hmr] at hpre
      have HP : Hid (mem s = (pre ++ [(t : Int)]) ++ mem (r' : Int)) := Lib.hid (by rw [hpre]; simp)
      have hlen : pre.length < (mem s).length := by rw [hpre]; simp
      have HD := Lib.hid hD
      obtain ⟨fn, tmps, assign, body, hy, hR⟩ := hY pre (t : Int) wr hJs hlen
      generalize (2 : Int) ^ t = X at *
      clear hz hr ht ht8 hlt hmr hpre hlen hD
      gi_wp2_with (refine ⟨trivial, ?_⟩; gi_at_call 56; refine (callsIn_wide.2 (HZ.out _ HD.out)).mono ?_; rintro e w' ⟨rfl, rfl⟩)
      refine hR.mono ?_
      rintro e W3 (⟨rfl, hJ3, hk3⟩ | ⟨rfl, hJx3⟩)
      · have HD3 := Lib.hid (HD.out.below hk3 hg)
        clear hk3
        gi_wp2_with (refine ⟨trivial, ?_⟩; gi_at_call 57; refine (callsIn_wide.2 (HB.out _)).mono ?_; rintro e w' ⟨rfl, rfl⟩)
        go_roundw
        case rel => exact ⟨pre ++ [(t : Int)], r', by simp, HR.out, HP.out, hJ3, HD3.out⟩
        case measure => have := HL.out; simp [intOf]; omega
      · gi_wp2
        refine bodyPost_ret (results_none rfl _ _ _) rfl ?_
        exact ⟨⟨_, rfl⟩, .inr ⟨pre ++ [(t : Int)], ⟨mem (r' : Int), HP.out.symm⟩, hJx3⟩⟩

set_option maxRecDepth 100000 in
set_option maxHeartbeats 1000000 in
theorem each_in (n : Nat) (s : Int) (w : World) :
    CallsIn Fence.wide n Tryd.prog 37 #[.int .u32 s] w fun e w' => e = .returned (.func (.func 55) #[] #[.pointer (some ⟨w.heap.size, 0, none⟩)]) ∧ w' = w.alloc (.cells #[.int .u32 s] 31) := by
  refine callsIn_of_wp Tryd.func37 rfl trivial ?_ rfl
  simp only [Tryd.ntmps37, List.size_toArray, List.length_cons, List.length_nil, Nat.reduceAdd, Nat.reduceSub, Array.replicate_succ, Array.replicate_zero, List.push_toArray, List.append_toArray, List.nil_append, List.cons_append]
  gi_wp2
  go_ret
  exact ⟨rfl, rfl⟩

theorem each_stops (n : Nat) (hn : 1 ≤ n) (Bs n₀ : Nat) (s : Int) (s0 : 0 ≤ s) (s1 : s < 4294967296) (w : World) (hg : 0 < n₀) (hBs : Bs < w.heap.size)
    (hc : w.cell? ⟨Bs, 0, none⟩ = some (.int .u32 s)) (hT : Db w) :
    SeqStopsK Fence.wide n Tryd.prog 55 #[.pointer (some ⟨Bs, 0, none⟩)] (fun x : Int => #[Value.int .i64 x]) (Below n₀) (fun ys => ys = mem s) (fun pre => pre <+: mem s) (mem s).length w := fun l J Jx W hW _ _ hY h0 =>
  each1_in n hn l Bs n₀ s s0 s1 hg J Jx hY W ((hW.cell (p := ⟨Bs, 0, none⟩) hBs).trans hc) (hT.below hW (by omega)) h0

end Go.Proofs.YtkbgpmgnkegipaaDoor
