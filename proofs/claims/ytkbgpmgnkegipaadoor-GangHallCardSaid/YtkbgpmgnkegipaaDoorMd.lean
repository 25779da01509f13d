/-
  The contracts of the document's List, Next and SameInts. No statement is proved here.
-/
import Derived.Test.YtkbgpmgnkegipaaDoorTa
namespace Go.Proofs.YtkbgpmgnkegipaaDoor
open Go.RowKit

def memb (s : Int) (k : Nat) : List Int := ((List.range k).map fun (i : Nat) => (i : Int)).filter (hasB s)
def mem (s : Int) : List Int := memb s 8
theorem memb_yes {s : Int} {k : Nat} (h : hasB s k = true) : memb s (k + 1) = memb s k ++ [(k : Int)] := by
  unfold memb
  rw [List.range_succ, List.map_append, List.filter_append]
  simp [h]
theorem memb_no {s : Int} {k : Nat} (h : hasB s k = false) : memb s (k + 1) = memb s k := by
  unfold memb
  rw [List.range_succ, List.map_append, List.filter_append]
  simp [h]
theorem length_memb (s : Int) (k : Nat) : (memb s k).length ≤ k := by
  refine Nat.le_trans (List.length_filter_le _ _) ?_
  simp

def Lists (w : World) (l : List Int) (e : Ending) (w' : World) : Prop :=
  ∃ A c, e = .returned (.slice A l.length c) ∧ w'.ownsRow w.heap.size 3 1 (.slice A l.length c) l.length (vs l) ∧ Below w.heap.size w w'
theorem lists_of {w w' : World} {v : Value} {l : List Int} {m : Nat} (hm : m = l.length) (h : w'.ownsRow w.heap.size 3 1 v m (vs l)) (hb : Below w.heap.size w w') : Lists w l (.returned v) w' := by
  subst hm
  obtain ⟨A, c, rfl⟩ : ∃ A c, v = .slice A l.length c := by
    rcases h.2 with ⟨rfl, h0⟩ | ⟨g, cap, cur, rfl, _⟩
    · exact ⟨none, 0, by rw [h0]⟩
    · exact ⟨_, _, rfl⟩
  exact ⟨A, c, rfl, h, hb⟩

set_option maxRecDepth 100000 in
set_option maxHeartbeats 1000000 in
theorem rlist_any (s : Int) (w : World) (h0 : 0 ≤ s) : Calls Tryd.prog 19 #[.int .u32 s] w (Lists w (mem s)) := by
  obtain ⟨i0, hi0, hz0, hz1, hz2⟩ := info_parts int_info
  have HH := Lib.hid (fun c u => rhas_any s c u h0)
  go_enter Tryd.func19, Tryd.ntmps19
  go_wp2_with fail
  go_loopw [3, 5] (fun v i wr => ∃ k m : Nat, k ≤ 8 ∧ i = .int .i64 k ∧ m = (memb s k).length ∧ wr.ownsRow w.heap.size 3 1 v m (vs (memb s k)) ∧ Below w.heap.size w wr) (fun _ i _ => 8 - (intOf i).toNat)
  case atStart => exact ⟨0, 0, by omega, rfl, rfl, World.ownsRow_nil _ _ _ _, Below.refl _ _⟩
  case round =>
    obtain ⟨k, m, hk, rfl, hm, hO, hB⟩ := hrel
    have hm8 : m ≤ 8 := by have := length_memb s k; omega
    by_cases hlt : k < 8
    · by_cases hb : hasB s k = true
      · have HM := Lib.hid (memb_yes hb)
        have HL := Lib.hid hm
        have HO := Lib.hid hO
        have HC := Lib.hid (fun u => hb ▸ HH.out k u)
        clear hb hm hO
        have hzw := hB.size
        go_wp2_with fail
        refine (HC.out _).mono ?_
        rintro e w' ⟨rfl, rfl⟩
        go_wp2_with (
          at_builtin
          refine wpList_append_own _ rfl (.tmp 11) (.tmp 13) 27 rfl w.heap.size 3 i0 (.int .i64 0) 1 8 Tryd.underlying27 hi0 hz0 hz1 hz2 rfl (by decide) _ m _ rfl (HO.out.alloc _) ⟨_, 0, none⟩ 1 1 [.int .i64 k] rfl rfl (cell_one_new _ _ _) (by simp [Value.oneCell']) (by simp only [maxLen]; omega) (by omega) (by simp; omega) ?_
          intro v2 w2 hown2 hg2 _)
        have hO2 : w2.ownsRow w.heap.size 3 1 v2 (m + 1) (vs (memb s (k + 1))) := by
          rw [HM.out, vs_append, vs_one]
          exact hown2
        have hB2 : Below w.heap.size w w2 := (hB.alloc hzw _).grown hg2 (by simp; omega) (fun g hg => (HO.out.lt g hg).1)
        have hl2 : m + 1 = (memb s (k + 1)).length := by rw [HM.out, List.length_append, ← HL.out]; rfl
        go_roundw
        case rel => exact ⟨k + 1, m + 1, by omega, by go_num, hl2, hO2, hB2⟩
        case measure => simp [intOf]; omega
      · have hb' : hasB s k = false := by simpa using hb
        have HM := Lib.hid (memb_no hb')
        have HC := Lib.hid (fun u => hb' ▸ HH.out k u)
        have HL := Lib.hid hm
        have HO := Lib.hid hO
        clear hb hb' hm hO
        go_wp2_with fail
        refine (HC.out _).mono ?_
        rintro e w' ⟨rfl, rfl⟩
        go_wp2
        go_roundw
        case rel => exact ⟨k + 1, m, by omega, by go_num, by rw [HM.out]; exact HL.out, by rw [HM.out]; exact HO.out, hB⟩
        case measure => simp [intOf]; omega
    · obtain rfl : k = 8 := by omega
      go_wp2
      go_ret
      exact lists_of hm hO hB

theorem own_below_m {w w' : World} {base n size : Nat} {e : TypeId} {v : Value} {xs : List Value} (h : w.ownsRow base e size v n xs) (hb : Below w.heap.size w w') : w'.ownsRow base e size v n xs :=
  h.kept (row := none) ⟨hb.os, hb.tape, hb.output, hb.size, fun k hk _ => hb.block k hk⟩ (by cases v.ownBlock <;> simp)
/-- a value answered; what was there has not turned -/
def Ans (v : Value) (w : World) (e : Ending) (w' : World) : Prop := e = .returned v ∧ Below w.heap.size w w'

set_option maxRecDepth 100000 in
set_option maxHeartbeats 1000000 in
theorem same_same_m (A1 A2 : Option Addr) (n c1 c2 : Nat) (l : List Int) (w : World) (h1 : Reads w w.heap.size 1 A1 n (vs l)) (h2 : Reads w w.heap.size 1 A2 n (vs l)) (hn : n ≤ 100000) :
    Calls Tryd.prog 8 #[.slice A1 n c1, .slice A2 n c2] w (Draws (.bool true) w) := by
  go_enter Tryd.func8, Tryd.ntmps8
  go_wp2_with fail
  go_loopw [13] (fun i wr => ∃ k q : Nat, k ≤ n ∧ i = .int .i64 k ∧ wr = w.drewN q) (fun i _ => n - (intOf i).toNat)
  case atStart => exact ⟨0, 0, Nat.zero_le _, rfl, rfl⟩
  case round =>
    obtain ⟨k, q, hk, rfl, rfl⟩ := hrel
    by_cases hlt : k < n
    · obtain ⟨ad, v, rfl, _, hx, hc⟩ := h1.at_ hlt
      obtain ⟨ad', v', rfl, _, hx', hc'⟩ := h2.at_ hlt
      obtain rfl : v = v' := by rw [hx] at hx'; injection hx'
      obtain ⟨x, _, rfl⟩ := vs_at hx
      clear hx hx'
      have j0 : (0 : Int) ≤ (k : Int) := by omega
      have j1 : (k : Int) < (n : Int) := by omega
      go_wp2_with fail
      go_quiet (fail)
      go_wp2
      go_roundw
      case rel => exact ⟨k + 1, q + nq, by omega, by go_num, rfl⟩
      case measure => simp [intOf]; omega
    · obtain rfl : k = n := by omega
      go_wp2
      go_ret
      exact ⟨rfl, _, rfl⟩

theorem drop_at {l : List Int} {k : Nat} {x : Int} (h : l[k]? = some x) : l.drop k = x :: l.drop (k + 1) := by
  obtain ⟨hk, hx⟩ := List.getElem?_eq_some_iff.1 h
  rw [List.drop_eq_getElem_cons hk, hx]

/-- the first one above a -/
def nextV (l : List Int) (a : Int) : Int × Bool := match l.find? (fun n => decide (a < n)) with
  | some n => (n, true)
  | none => (0, false)
theorem next_hit {l : List Int} {k : Nat} {x a : Int} (h : l[k]? = some x) (ha : a < x) : nextV (l.drop k) a = (x, true) := by
  rw [drop_at h]
  unfold nextV
  rw [List.find?_cons_of_pos (by simpa using ha)]
theorem next_miss {l : List Int} {k : Nat} {x a : Int} (h : l[k]? = some x) (ha : ¬ a < x) : nextV (l.drop k) a = nextV (l.drop (k + 1)) a := by
  rw [drop_at h]
  unfold nextV
  rw [List.find?_cons_of_neg (by simpa using ha)]
theorem next_end (l : List Int) (a : Int) : nextV (l.drop l.length) a = (0, false) := by
  rw [List.drop_length]
  rfl


end Go.Proofs.YtkbgpmgnkegipaaDoor
