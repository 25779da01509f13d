/-
  The landed frac: outermost, Most, Least. No statement is proved here.
-/
import Derived.Test.YtfgabmelmopgdaaEo
import Derived.Lib.SmallJoins
import Derived.Maps.AppendAt
namespace Go.Proofs.Ytfgabmelmopgdaa
open Go.RowKit

set_option maxRecDepth 100000 in
theorem value_info : (Try.prog.info? 88).map (fun i => (i.zero, i.size, i.bytes)) = some (some (.agg #[.int .u64 0, .int .u64 0, .int .u64 0]), 3, 24) := by kernel_rfl
set_option maxRecDepth 100000 in
theorem cells3_new (w : World) (o : Obj) (a b c : Value) (t : TypeId) : ∀ j u, [a, b, c][j]? = some u → ((w.alloc o).alloc (.cells #[a, b, c] t)).cell? ((⟨w.heap.size + 1, 0, none⟩ : Addr).add j) = some u := by
  intro j u hj
  have hB : Blk ((w.alloc o).alloc (.cells #[a, b, c] t)) (w.heap.size + 1) t #[a, b, c] := by
    have := Blk.new (w.alloc o) t #[a, b, c]
    simpa using this
  match j, hj with
  | 0, hj => simp at hj; subst hj; exact hB.cell 0
  | 1, hj => simp at hj; subst hj; exact hB.cell 1
  | 2, hj => simp at hj; subst hj; exact hB.cell 2
/-- what a search over all of them answers -/
def Found (T : (Nat → Nat) → (Nat → Nat) → Nat → Nat → Prop) (l : List (Nat × Nat × Nat)) (k0 : Nat) (okb : Bool) : Prop :=
  (okb = true ∧ 0 < l.length ∧ allB l = true ∧ T (aF l) (bF l) l.length k0) ∨ (okb = false ∧ k0 = 0 ∧ (l.length = 0 ∨ allB l = false))
set_option maxRecDepth 100000 in
theorem Found.none_ {T : (Nat → Nat) → (Nat → Nat) → Nat → Nat → Prop} {l : List (Nat × Nat × Nat)} {k0 : Nat} {okb : Bool} (h : Found T l k0 okb) (h2 : l.length = 0 ∨ allB l = false) : k0 = 0 ∧ okb = false := by
  rcases h with ⟨_, h3, h4, _⟩ | ⟨h3, h4, _⟩
  · rcases h2 with h2 | h2
    · omega
    · rw [h4] at h2; cases h2
  · exact ⟨h4, h3⟩
set_option maxRecDepth 100000 in
theorem Found.some_ {T : (Nat → Nat) → (Nat → Nat) → Nat → Nat → Prop} {l : List (Nat × Nat × Nat)} {k0 n : Nat} {okb : Bool} (h : Found T l k0 okb) (hn : 0 < l.length) (ha : allB l = true) (hl : l.length = n := by assumption) : okb = true ∧ T (aF l) (bF l) n k0 := by
  rcases h with ⟨h1, _, _, h4⟩ | ⟨_, _, h3 | h3⟩
  · exact ⟨h1, hl ▸ h4⟩
  · omega
  · rw [ha] at h3; cases h3

set_option maxRecDepth 100000 in
set_option maxHeartbeats 4000000 in
theorem outer_top (A : Option Addr) (n c : Nat) (l : List (Nat × Nat × Nat)) (w : World) (hl : l.length = n) (hn : n ≤ 100) (hs : Small l) (hr : Frow w w.heap.size A l) (k0 : Nat) (okb : Bool) (hk0 : Found Top l k0 okb) :
    Calls Try.prog 90 #[.slice A n c, .func (.func 56) #[] #[]] w (Said (.tuple #[.int .i64 (k0 : Int), .bool okb]) w) := by
  obtain ⟨i0, hi0, hz0, hz1, hz2⟩ := info_parts value_info
  have HC := Lib.hid (checkall_any A n c l w hl (by unfold maxLen; omega) hr)
  by_cases h0 : n = 0
  · obtain ⟨rfl, rfl⟩ := hk0.none_ (.inl (by omega))
    have e0 : ((n : Int) == 0) = true := by simp; omega
    clear h0 hl hs hr hk0 hi0 hz0 hz1 hz2 HC
    go_enter Try.func90, Try.ntmps90
    go_wp2
    go_ret2
    exact ⟨rfl, Below.refl _ _⟩
  · have e0 : ((n : Int) == 0) = false := by simp; omega
    cases ha : allB l with
    | false =>
      obtain ⟨rfl, rfl⟩ := hk0.none_ (.inr ha)
      rw [show allE l = 150 by unfold allE; rw [ha]; rfl] at HC
      clear h0 hl hs hr hk0 ha hi0 hz0 hz1 hz2
      go_enter Try.func90, Try.ntmps90
      go_wp2_with fail
      refine HC.out.mono ?_
      rintro e w1 ⟨rfl, h1⟩
      go_wp2
      go_ret2
      exact ⟨rfl, h1⟩
    | true =>
      obtain ⟨rfl, ht⟩ := hk0.some_ (by omega) ha
      rw [show allE l = 0 by unfold allE; rw [ha]; rfl] at HC
      have HT := Lib.hid ht
      have HR := Lib.hid hr
      have HL := Lib.hid hl
      have HS := Lib.hid hs
      have HA := Lib.hid ha
      have HN := Lib.hid (show 0 < n by omega)
      clear h0 hl hs hr hk0 ha ht
      go_enter Try.func90, Try.ntmps90
      go_wp2_with fail
      refine HC.out.mono ?_
      rintro e w1 ⟨rfl, h1⟩
      clear HC
      go_wp2_with fail
      go_loopw [6, 19] (fun v i wr => ∃ k : Nat, k ≤ n ∧ i = .int .i64 (k : Int) ∧ wr.ownsRow w.heap.size 88 3 v k (fvs (l.take k)) ∧ Below w.heap.size w wr) (fun _ i _ => n - (intOf i).toNat)
      case atStart => exact ⟨0, by omega, rfl, World.ownsRow_nil _ _ _ _, h1⟩
      case round =>
        obtain ⟨k, hk, rfl, hO, hB⟩ := hrel
        by_cases hlt : k < n
        · obtain ⟨p, q, x, hm⟩ := each_at (l := l) (k := k) (by rw [HL.out]; exact hlt)
          obtain ⟨ad, rfl, hb, d0, d1, d2⟩ := (HR.out.below hB (Nat.le_refl _)) k p q x hm
          have HM := Lib.hid (fvs_step hm)
          have HO := Lib.hid hO
          have hsz := hB.size
          clear hm hO
          go_wp2_with (
            at_builtin
            refine wpList_append_own _ rfl (.tmp 23) (.tmp 25) 140 rfl w.heap.size 88 i0 (.agg #[.int .u64 0, .int .u64 0, .int .u64 0]) 3 24 Try.underlying140 hi0 hz0 hz1 hz2 rfl (by decide) _ k _ rfl ((HO.out.alloc _).alloc _) ⟨_, 0, none⟩ 1 1 [.int .u64 (p : Int), .int .u64 (q : Int), .int .u64 (x : Int)] rfl rfl (cells3_new _ _ _ _ _ _) (by simp [Value.oneCell']) (by simp only [maxLen]; omega) (by omega) (by simp; omega) ?_
            intro v2 w2 hown2 hg2 _)
          have hO2 : w2.ownsRow w.heap.size 88 3 v2 (k + 1) (fvs (l.take (k + 1))) := by
            rw [HM.out]
            exact hown2
          have hB2 : Below w.heap.size w w2 := ((hB.alloc hsz _).alloc (by simp; omega) _).grown hg2 (by simp; omega) (fun g hg => (HO.out.lt g hg).1)
          go_roundw
          case rel => exact ⟨k + 1, by omega, by go_num, hO2, hB2⟩
          case measure => simp [intOf]; omega
        · obtain rfl : n = k := by omega
          rw [show l.take n = l by rw [← HL.out]; exact List.take_length] at hO
          obtain ⟨g, cap, rfl, hg1, hg2⟩ := hO.form HN.out
          have HF := Lib.hid (first_top ⟨g, 0, none⟩ n cap l wr HL.out HN.out (by unfold maxLen; omega) HS.out HA.out (Reads.of_own hO).frow k0 HT.out)
          clear hO
          go_wp2_with fail
          refine HF.out.mono ?_
          rintro e w3 ⟨rfl, h3⟩
          go_wp2
          go_ret2
          exact ⟨rfl, hB.trans (h3.mono hB.size)⟩


set_option maxRecDepth 100000 in
set_option maxHeartbeats 1000000 in
theorem most_any (A : Option Addr) (n c : Nat) (l : List (Nat × Nat × Nat)) (w : World) (hl : l.length = n) (hn : n ≤ 100) (hs : Small l) (hr : Frow w w.heap.size A l) (k0 : Nat) (okb : Bool) (hk0 : Found Top l k0 okb) :
    Calls Try.prog 68 #[.slice A n c] w (Said (.tuple #[.int .i64 (k0 : Int), .bool okb]) w) := by
  have H := Lib.hid (outer_top A n c l w hl hn hs hr k0 okb hk0)
  clear hl hn hs hr hk0
  go_enter Try.func68, Try.ntmps68
  go_wp2_with fail
  refine H.out.mono ?_
  rintro e w1 ⟨rfl, h1⟩
  go_wp2
  go_ret2
  exact ⟨rfl, h1⟩


end Go.Proofs.Ytfgabmelmopgdaa
