/-
  The contract of the document's Bytes of topologies that may be. No statement is proved here.
-/
import Derived.Test.YtfalkiinlkfanaaTe
namespace Go.Proofs.Ytfalkiinlkfanaa
open Go.RowKit

/-- bytes as values -/
def bv (l : List Int) : List Value := l.map fun i => .int .u8 i
theorem length_bv (l : List Int) : (bv l).length = l.length := by simp [bv]
theorem bv_append (a b : List Int) : bv (a ++ b) = bv a ++ bv b := by simp [bv]
theorem bv_ones (l : List Int) : ∀ u ∈ bv l, u.oneCell' = true := by
  intro u hu
  unfold bv at hu
  obtain ⟨x, _, rfl⟩ := List.mem_map.1 hu
  rfl
theorem bv_at {l : List Int} {k : Nat} {v : Value} (h : (bv l)[k]? = some v) : ∃ x, l[k]? = some x ∧ v = .int .u8 x := by
  unfold bv at h
  rw [List.getElem?_map] at h
  cases hl : l[k]? with
  | none => rw [hl] at h; cases h
  | some x => rw [hl] at h; injection h with h; exact ⟨x, rfl, h.symm⟩
/-- a topology's bytes -/
def sb (s : Int × Int) : List Int := [s.1, s.2]
def bytesL (l : List (Int × Int)) : List Int := (l.length : Int) :: l.flatMap sb
theorem bytes_step {l : List (Int × Int)} {k : Nat} {x y : Int} (h : l[k]? = some (x, y)) (m : Int) : m :: (l.take (k + 1)).flatMap sb = (m :: (l.take k).flatMap sb) ++ [x, y] := by
  rw [List.take_add_one, h, List.flatMap_append]
  simp [sb]
theorem length_seats (l : List (Int × Int)) : (l.flatMap sb).length = l.length * 2 := by
  induction l with
  | nil => rfl
  | cons a l ih => rw [List.flatMap_cons, List.length_append, ih, List.length_cons]; show 2 + _ = _; omega
theorem length_bytesL (l : List (Int × Int)) : (bytesL l).length = 1 + 2 * l.length := by
  unfold bytesL
  rw [List.length_cons, length_seats]
  omega
theorem u8_in {x : Int} (h0 : 0 ≤ x) (h1 : x < 256) : IntKind.u8.wrap x = x := by simp [IntKind.wrap, IntKind.bits, IntKind.signed]; omega
theorem byte_info : (Try.prog.info? 5).map (fun i => (i.zero, i.size, i.bytes)) = some (some (.int .u8 0), 1, 1) := by kernel_rfl
theorem two_new (w : World) (a b : Value) (t : TypeId) : ∀ j u, [a, b][j]? = some u → (w.alloc (.cells #[a, b] t)).cell? ((⟨w.heap.size, 0, none⟩ : Addr).add j) = some u := by
  intro j u hj
  have hB := Blk.new w t #[a, b]
  match j, hj with
  | 0, hj => simp at hj; subst hj; exact hB.cell 0
  | 1, hj => simp at hj; subst hj; exact hB.cell 1
theorem own_built {w : World} {base : Nat} {e : TypeId} (cur : Array Value) (n : Nat) (hb : base ≤ w.heap.size) (hn : cur.size = n) (hm : n ≤ maxLen) : (w.alloc (.cells cur e)).ownsRow base e 1 (.slice (some ⟨w.heap.size, 0, none⟩) n n) n cur.toList :=
  ⟨by simp [hn], .inr ⟨w.heap.size, n, cur, rfl, hb, heap_alloc_new w _, Nat.le_refl _, hm, by omega, by rw [Nat.mul_one, ← hn]; exact List.take_length⟩⟩

/-- a call answers a row of bytes in memory of its own -/
def Tells8 (w : World) (l : List Int) (e : Ending) (w' : World) : Prop :=
  ∃ A n c, e = .returned (.slice A n c) ∧ n = l.length ∧ n ≤ c ∧ Reads w' w'.heap.size 1 A n (bv l) ∧ Below w.heap.size w w'

set_option maxRecDepth 100000 in
set_option maxHeartbeats 4000000 in
theorem rbytes_any (A : Option Addr) (n c : Nat) (l : List (Int × Int)) (w : World) (hR : Reads w w.heap.size 2 A n (svs l)) (hr : rightT l = true) :
    Calls Try.prog 31 #[.agg #[.slice A n c]] w (Tells8 w (bytesL l)) := by
  obtain ⟨i0, hi0, hz0, hz1, hz2⟩ := info_parts byte_info
  have hl := reads_len hR
  obtain ⟨r1, r2, r3⟩ := right_parts hr
  have n9 : n ≤ 8 := by omega
  have wn : IntKind.u8.wrap (n : Int) = (n : Int) := u8_in (by omega) (by omega)
  have HL := Lib.hid hl
  have HA := Lib.hid r1
  have HR := Lib.hid hR
  obtain ⟨K, B⟩ : Blk (w.alloc (.cells #[.slice A n c] 27)) w.heap.size 27 #[.slice A n c] ∧ Below w.heap.size w (w.alloc (.cells #[.slice A n c] 27)) := ⟨Blk.new _ _ _, (Below.refl _ _).alloc (Nat.le_refl _) _⟩
  have HB := Lib.hid (B.alloc B.size (.cells #[.int .u8 (n : Int)] 5))
  have HO : Hid (((w.alloc (.cells #[.slice A n c] 27)).alloc (.cells #[.int .u8 (n : Int)] 5)).ownsRow w.heap.size 5 1 (.slice (some ⟨w.heap.size + 1, 0, none⟩) 1 1) 1 (bv [(n : Int)])) := Lib.hid (by
    have := own_built (w := w.alloc (.cells #[.slice A n c] 27)) (base := w.heap.size) (e := 5) #[.int .u8 (n : Int)] 1 (by simp) rfl (by simp [maxLen])
    simpa [bv] using this)
  clear hR hl r1 r2 r3 hr K B
  go_enter Try.func31, Try.ntmps31
  go_wp2_with fail
  go_loopw [3, 14] (fun v i wr => ∃ k m : Nat, k ≤ n ∧ i = .int .i64 (k : Int) ∧ Hid (m = 1 + 2 * k) ∧ Hid (wr.ownsRow w.heap.size 5 1 v m (bv ((n : Int) :: (l.take k).flatMap sb))) ∧ Below w.heap.size w wr) (fun _ i _ => n - (intOf i).toNat)
  case atStart => exact ⟨0, 1, by omega, rfl, Lib.hid rfl, Lib.hid HO.out, HB.out⟩
  case round =>
    obtain ⟨k, m, hk, rfl, Hm, HO2, hB⟩ := hrel
    by_cases hlt : k < n
    · obtain ⟨⟨x, y⟩, hm⟩ := elem_at (l := l) (k := k) (by rw [HL.out]; exact hlt)
      obtain ⟨ad, rfl, hb, d0, d1⟩ := seat_at (HR.out.below hB) hm
      obtain ⟨s1, s2, s3, s4⟩ := seat_yes (right_seat HA.out hm)
      have HM := Lib.hid (bytes_step hm (n : Int))
      have wx : IntKind.u8.wrap x = x := u8_in (by omega) (by omega)
      have wy : IntKind.u8.wrap y = y := u8_in (by omega) (by omega)
      have hsz := hB.size
      have Hm20 : Hid (m ≤ 20) := Lib.hid (by rw [Hm.out]; omega)
      have m20 := Hm20.out
      clear hm s1 s2 s3 s4
      go_wp2_with (
        at_builtin
        refine wpList_append_own _ rfl (.tmp 18) (.tmp 25) 62 rfl w.heap.size 5 i0 (.int .u8 0) 1 1 Try.underlying62 hi0 hz0 hz1 hz2 rfl (by decide) _ m _ rfl ((HO2.out.alloc _).alloc _) ⟨_, 0, none⟩ 2 2 [.int .u8 x, .int .u8 y] rfl rfl (by simpa using two_new (wr.alloc (.cells #[.int .i64 x, .int .i64 y] 37)) (.int .u8 x) (.int .u8 y) 5) (by simp [Value.oneCell']) (by simp only [maxLen]; omega) (by omega) (by simp <;> omega) ?_
        intro v2 w3 hown3 hg3 _)
      have hO3 : w3.ownsRow w.heap.size 5 1 v2 (m + 2) (bv ((n : Int) :: (l.take (k + 1)).flatMap sb)) := by
        rw [HM.out, bv_append]
        exact hown3
      have hB2 := hB.alloc hsz (.cells #[.int .i64 x, .int .i64 y] 37)
      have hB3 := hB2.alloc hB2.size (.cells #[.int .u8 x, .int .u8 y] 5)
      have hB4 : Below w.heap.size w w3 := hB3.grown hg3 hB3.size (fun g hg => (HO2.out.lt g hg).1)
      go_roundw
      case rel => exact ⟨k + 1, m + 2, by omega, by go_num, Lib.hid (by rw [Hm.out]; omega), Lib.hid hO3, hB4⟩
      case measure => simp [intOf]; omega
    · obtain rfl : n = k := by omega
      obtain ⟨A2, c2, rfl, hc2, hr⟩ := own_reads HO2.out
      have HF : Hid (Reads wr wr.heap.size 1 A2 m (bv (bytesL l))) := Lib.hid (by
        unfold bytesL
        rw [HL.out]
        rwa [show l.take n = l by rw [← HL.out]; exact List.take_length] at hr)
      have HC := Lib.hid hc2
      clear HO2 hr hc2
      go_wp2
      go_ret
      exact ⟨A2, m, c2, rfl, by rw [length_bytesL, HL.out]; exact Hm.out, HC.out, HF.out, hB⟩

end Go.Proofs.Ytfalkiinlkfanaa
