/-
  The contracts of Collect of what is told, of the first error of two, and of the landed Near. No statement is proved here.
-/
import Derived.Test.YtfalkiinlkfanaaLp
import Derived.Test.YtfalkiinlkfanaaLg
import Derived.Test.YtfalkiinlkfanaaLb
import Derived.Maps.AppendAt
namespace Go.Proofs.Ytfalkiinlkfanaa
open Go.RowKit Go.Shelf

attribute [local go_sem] Oper.semAt_some

/-- a call answers a row of numbers in memory of its own -/
def Gath (w : World) (L : List Int) (e : Ending) (w' : World) : Prop := ∃ v, e = .returned v ∧ w'.ownsRow w.heap.size 3 1 v L.length (vs L) ∧ Below w.heap.size w w'
theorem gath_of {w w' : World} {L : List Int} {v : Value} (ho : w'.ownsRow w.heap.size 3 1 v L.length (vs L)) (hb : Below w.heap.size w w') : Gath w L (.returned v) w' := ⟨v, rfl, ho, hb⟩

set_option maxRecDepth 100000 in
set_option maxHeartbeats 2000000 in
theorem appendseq_any (Bt Bh : Nat) (L : List Int) (w : World) (hl8 : L.length ≤ 8)
    (hs : SeqStopsK Fence.wide 4 Try.prog 65 #[.pointer (some ⟨Bt, 0, none⟩), .pointer (some ⟨Bh, 0, none⟩)] (fun x : Int => #[Value.int .i64 x]) (Below w.heap.size) (fun ys => ys = L) (fun pre => pre <+: L) L.length w) :
    Calls Try.prog 66 #[.slice none 0 0, .func (.func 65) #[] #[.pointer (some ⟨Bt, 0, none⟩), .pointer (some ⟨Bh, 0, none⟩)]] w (Gath w L) := by
  obtain ⟨i0, hi, hz0, hz1, hz2⟩ := info_parts int_info
  refine (callsIn_wide (n := 5)).1 ?_
  refine callsIn_of_wp_marks Try.func66 rfl trivial ?_ rfl
  simp only [Try.ntmps66, List.size_toArray, List.length_cons, List.length_nil, Nat.reduceAdd, Nat.reduceSub, Array.replicate_succ, Array.replicate_zero, List.push_toArray, List.append_toArray, List.nil_append, List.cons_append]
  gi_wp2
  have bO := Boxed.new w 23 (.slice none 0 0)
  have hB0 : Below w.heap.size w (w.alloc (.cells #[.slice none 0 0] 23)) := (Below.refl _ w).alloc (Nat.le_refl _) _
  refine wpIn_rangeFunc_ownG rfl (by decide) (gf := 65) (lb := #[.pointer (some ⟨Bt, 0, none⟩), .pointer (some ⟨Bh, 0, none⟩)]) rfl trivial (enters_of Try.func65 (by kernel_rfl) rfl)
    hs belowK_t (belowK_b (by simp)) hB0 (fun _ => rfl)
    (fun pre W => (∃ v, Boxed W w.heap.size 23 v ∧ W.ownsRow w.heap.size 3 1 v pre.length (vs pre) ∧ True) ∧ Below w.heap.size w W)
    (fun _ _ _ => False)
    (OwnFrom.and (Own.from (holdsRow_own w.heap.size w.heap.size 23 3 1 (fun pre => pre.length) (fun pre => vs pre) (fun _ _ => True)) _) (ownFrom_below (Nat.le_refl _) (by simp)))
    (fun _ _ _ _ _ hs _ _ => hs)
    ⟨⟨_, bO, World.ownsRow_nil _ _ _ _, trivial⟩, hB0⟩
    (fun x => { tmps := #[.slice none 0 0, .func (.func 65) #[] #[.pointer (some ⟨Bt, 0, none⟩), .pointer (some ⟨Bh, 0, none⟩)], .pointer (some ⟨w.heap.size, 0, none⟩), undef, .slice none 0 0, .int .i64 x, .func (.func 65) #[] #[.pointer (some ⟨Bt, 0, none⟩), .pointer (some ⟨Bh, 0, none⟩)], .int .i64 x, undef, undef, undef, undef, undef], defers := [] }) ?assign ?body ?done ?stop
  case assign =>
    intro l x W K hK
    gi_wp2
    exact hK
  case body =>
    rintro l pre x W ⟨⟨v, hv, hrow, _⟩, hB⟩ hlt
    have hc := hv.cell
    have hl9 : pre.length < 8 := by omega
    clear hlt
    gi_wp2_with (gi_at_builtin; refine wpListIn_append_own _ rfl _ _ 23 rfl w.heap.size 3 i0 (.int .i64 0) 1 8 Try.underlying23 hi hz0 hz1 hz2 rfl (by decide) _ _ _ rfl (hrow.alloc _) ⟨W.heap.size, 0, none⟩ 1 1 [.int .i64 x] rfl rfl (cell_one_new _ _ _) (by simp [Value.oneCell']) (by simp only [maxLen]; omega) (by omega) (by have := hB.size; simp; omega) ?_; intro v' w1 hown' hgrow _; obtain ⟨g', cap', rfl⟩ := ownsRow_succ hown'; obtain ⟨hv1, hv2, hr2, hk2, hb2⟩ := hv.appended (by decide) hrow hB.size (Nat.le_refl _) hown' hgrow; have hc1 := hv1.cell; have hf1 := hv1.frozen)
    exact ⟨hk2.from _, hb2, ⟨_, hv2, by rw [vs_append, vs_one]; simpa using hr2, trivial⟩, hB.trans hb2⟩
  case done =>
    rintro D ys W hD rfl ⟨⟨v, hv, hrow, _⟩, hB⟩ hK
    have hc := hv.cell
    gi_wp2
    refine ⟨by simp, .inl ⟨_, _, rfl, run_takeDeferred hK, ?_⟩⟩
    exact ⟨_, results_tmp rfl _ _ _, gath_of (ownsRow_putObj hrow _ hK rfl) (hB.trans (belowK_b (w := w) (Nat.le_refl _) W D _ _ (by simp at hD; omega) hK rfl rfl))⟩
  case stop =>
    rintro D c pre W _ _ h _
    exact h.elim

set_option maxRecDepth 100000 in
set_option maxHeartbeats 1000000 in
theorem collect_any (Bt Bh : Nat) (L : List Int) (w : World) (hl8 : L.length ≤ 8)
    (hs : SeqStopsK Fence.wide 4 Try.prog 65 #[.pointer (some ⟨Bt, 0, none⟩), .pointer (some ⟨Bh, 0, none⟩)] (fun x : Int => #[Value.int .i64 x]) (Below w.heap.size) (fun ys => ys = L) (fun pre => pre <+: L) L.length w) :
    Calls Try.prog 51 #[.func (.func 65) #[] #[.pointer (some ⟨Bt, 0, none⟩), .pointer (some ⟨Bh, 0, none⟩)]] w (Gath w L) := by
  have HA := Lib.hid (appendseq_any Bt Bh L w hl8 hs)
  clear hs hl8
  go_enter Try.func51, Try.ntmps51
  go_wp2_with fail
  refine HA.out.mono ?_
  rintro e w1 ⟨v, rfl, ho, hb⟩
  go_wp2
  go_ret
  exact ⟨v, rfl, ho, hb⟩

set_option maxRecDepth 100000 in
set_option maxHeartbeats 1000000 in
theorem has1_any (Ba : Nat) (s : Int) (k : Nat) (w : World) (s0 : 0 ≤ s) (s1 : s < 4294967296) (K : Blk w Ba 34 #[.int .u32 s]) :
    Calls Try.prog 52 #[.int .i64 (k : Int), .pointer (some ⟨Ba, 0, none⟩)] w (Said (.bool (hasB s (k : Int))) w) := by
  have HH := Lib.hid (fun u => has_any s (k : Int) u s0 s1)
  have k0 := K.cell 0
  clear K s0 s1
  go_enter Try.func52, Try.ntmps52
  go_wp2_with fail
  refine (HH.out _).mono ?_
  rintro e w1 ⟨rfl, rfl⟩
  go_wp2
  go_ret
  exact ⟨rfl, Below.refl _ _⟩

set_option maxRecDepth 100000 in
set_option maxHeartbeats 2000000 in
theorem or_any (C : Option Addr) (d : Nat) (a b : Int) (w : World) (hC : Reads w w.heap.size 1 C 2 (vs [a, b])) :
    Calls Try.prog 49 #[.slice C 2 d] w fun e w' => e = .returned (.int .i64 (if a = 0 then b else a)) ∧ w = w' := by
  obtain ⟨ad, u, rfl, _, hu, c0⟩ := hC.at_ (k := 0) (by omega)
  obtain ⟨ad', u', e', _, hu', c1⟩ := hC.at_ (k := 1) (by omega)
  obtain rfl := Option.some.inj e'
  obtain rfl : Value.int .i64 a = u := by simpa [vs] using hu
  obtain rfl : Value.int .i64 b = u' := by simpa [vs] using hu'
  have c0 : w.cell? ad = some (.int .i64 a) := c0
  have c1 : w.cell? (ad.add (0 + (0 + 1))) = some (.int .i64 b) := c1
  rw [add_past ad 0 0] at c1
  have c1 : w.cell? ⟨ad.block, ad.off + 1, none⟩ = some (.int .i64 b) := c1
  clear hC hu hu' e'
  by_cases ha : a = 0
  · have ha2 : (a == 0) = true := by simpa using ha
    have HA := Lib.hid ha
    rw [if_pos ha]
    clear ha
    by_cases hb : b = 0
    · have hb2 : (b == 0) = true := by simpa using hb
      have HB := Lib.hid hb
      clear hb
      go_enter Try.func49, Try.ntmps49
      go_wp2
      go_loopw [8] (fun i wr => ∃ k : Nat, k ≤ 2 ∧ i = .int .i64 (k : Int) ∧ wr = w) (fun i _ => 2 - (intOf i).toNat)
      case atStart => exact ⟨0, by omega, rfl, rfl⟩
      case round =>
        obtain ⟨k, hk, rfl, rfl⟩ := hrel
        have h3 : k = 0 ∨ k = 1 ∨ k = 2 := by omega
        clear hk
        rcases h3 with rfl | rfl | rfl
        · go_wp2
          go_roundw
          case rel => exact ⟨1, by omega, by go_num, by first | rfl | trivial⟩
          case measure => simp [intOf] <;> omega
        · go_wp2
          go_roundw
          case rel => exact ⟨2, by omega, by go_num, by first | rfl | trivial⟩
          case measure => simp [intOf] <;> omega
        · go_wp2
          go_ret
          exact ⟨retI HB.out.symm, rfl⟩
    · have hb2 : (b == 0) = false := by simpa using hb
      clear hb
      go_enter Try.func49, Try.ntmps49
      go_wp2
      go_loopw [8] (fun i wr => ∃ k : Nat, k ≤ 1 ∧ i = .int .i64 (k : Int) ∧ wr = w) (fun i _ => 2 - (intOf i).toNat)
      case atStart => exact ⟨0, by omega, rfl, rfl⟩
      case round =>
        obtain ⟨k, hk, rfl, rfl⟩ := hrel
        have h3 : k = 0 ∨ k = 1 := by omega
        clear hk
        rcases h3 with rfl | rfl
        · go_wp2
          go_roundw
          case rel => exact ⟨1, by omega, by go_num, by first | rfl | trivial⟩
          case measure => simp [intOf] <;> omega
        · go_wp2
          go_ret
          exact ⟨rfl, rfl⟩
  · have ha2 : (a == 0) = false := by simpa using ha
    rw [if_neg ha]
    clear ha
    go_enter Try.func49, Try.ntmps49
    go_wp2
    go_loopw [8] (fun i wr => i = .int .i64 0 ∧ wr = w) (fun i _ => 2 - (intOf i).toNat)
    case atStart => exact ⟨rfl, rfl⟩
    case round =>
      obtain ⟨rfl, rfl⟩ := hrel
      go_wp2
      go_ret
      exact ⟨rfl, rfl⟩

end Go.Proofs.Ytfalkiinlkfanaa
