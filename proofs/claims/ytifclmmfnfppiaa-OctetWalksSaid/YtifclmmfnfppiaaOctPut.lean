/-
  The contracts of octet's shift, put, Put16, Put32 and Put64: which bytes they answer, in memory of their own. No statement is proved here.
-/
import Derived.Test.YtifclmmfnfppiaaMem
namespace Go.Proofs.Ytifclmmfnfppiaa
open Go.RowKit

set_option maxHeartbeats 400000 in
theorem shift_any (p wd : Int) (w : World) (h0 : 0 ≤ p) (h1 : p < wd) (h2 : wd ≤ 8) :
    Calls Try.prog 39 #[.int .i64 p, .int .i64 wd] w fun e w' => e = .returned (.int .i64 (8 * (wd - 1 - p))) ∧ w = w' := by
  go_enter Try.func39, Try.ntmps39
  go_wp2
  go_ret
  exact ⟨rfl, rfl⟩

/-- byte k of a number of so many bytes, the highest first -/
def beB (x wd k : Nat) : UInt8 := UInt8.ofNat (x / 2 ^ (8 * (wd - 1 - k)))
def be (x wd : Nat) : List UInt8 := (List.range wd).map (beB x wd)
theorem length_be (x wd : Nat) : (be x wd).length = wd := by simp [be]
theorem beB_toNat (x wd k : Nat) : (beB x wd k).toNat = x / 2 ^ (8 * (wd - 1 - k)) % 256 := by simp [beB]
theorem be_take_succ (x wd k : Nat) (h : k < wd) : (be x wd).take (k + 1) = (be x wd).take k ++ [beB x wd k] := by
  rw [List.take_succ_eq_append_getElem (by rw [length_be]; exact h)]
  simp [be]
theorem beB_int (x wd k : Nat) : (x : Int) / 2 ^ (8 * (wd - 1 - k)) % 256 = (((beB x wd k).toNat : Nat) : Int) := by
  rw [beB_toNat]
  simp

/-- a slice of so many bytes that the call owns, and what it holds -/
def Own (w : World) (base : Nat) (A : Option Addr) (m c : Nat) (l : List UInt8) : Prop := w.ownsRow base 5 1 (.slice A m c) m (bs l)
theorem Own.length {w : World} {base m c : Nat} {A : Option Addr} {l : List UInt8} (h : Own w base A m c l) : l.length = m := by
  have := h.1
  simpa [length_bs] using this
theorem Own.reads {w : World} {base m c : Nat} {A : Option Addr} {l : List UInt8} (h : Own w base A m c l) : Reads w w.heap.size 1 A m (bs l) := Reads.of_own h
theorem Own.mono {w : World} {base base' m c : Nat} {A : Option Addr} {l : List UInt8} (h : Own w base A m c l) (hb : base' ≤ base) : Own w base' A m c l := by
  refine ⟨h.1, ?_⟩
  rcases h.2 with h2 | ⟨g, cap, cur, hv, hg, r⟩
  · exact .inl h2
  · exact .inr ⟨g, cap, cur, hv, by omega, r⟩
theorem Own.cap {w : World} {base m c : Nat} {A : Option Addr} {l : List UInt8} (h : Own w base A m c l) : m ≤ c := by
  rcases h.2 with ⟨hv, h0⟩ | ⟨g, cap, cur, hv, _, _, hc, _⟩
  · omega
  · injection hv with _ _ hcc
    omega
theorem Own.fresh {w : World} {base m c : Nat} {A : Option Addr} {l : List UInt8} (h : Own w base A m c l) : ∀ ad, A = some ad → base ≤ ad.block ∧ ad.block < w.heap.size ∧ ad.off = 0 ∧ ad = ⟨ad.block, 0, none⟩ := by
  rintro ad rfl
  rcases h.2 with ⟨hv, h0⟩ | ⟨g, cap, cur, hv, hb, hh, _⟩
  · cases hv
  · injection hv with ha _ _
    injection ha with ha
    subst ha
    refine ⟨hb, ?_, rfl, rfl⟩
    rcases Nat.lt_or_ge g w.heap.size with hlt | hge
    · exact hlt
    · rw [Array.getElem?_eq_none hge] at hh; cases hh

theorem own_lit (w : World) (base : Nat) (l : List UInt8) (hb : base ≤ w.heap.size) (hm : l.length ≤ maxLen) :
    Own (w.alloc (.cells (bs l).toArray 5)) base (some ⟨w.heap.size, 0, none⟩) l.length l.length l :=
  ⟨by simp [length_bs], .inr ⟨w.heap.size, l.length, _, rfl, hb, heap_alloc_new w _, Nat.le_refl _, hm, by simp [length_bs], by
    rw [Nat.mul_one]
    exact List.take_of_length_le (by simp [length_bs])⟩⟩

/-- a call answers a slice of m bytes in memory of its own -/
def Gives (w : World) (m : Nat) (l : List UInt8) (e : Ending) (w' : World) : Prop :=
  ∃ A c, e = .returned (.slice A m c) ∧ Own w' w.heap.size A m c l ∧ Below w.heap.size w w'
theorem own_slice {w : World} {base m : Nat} {v : Value} {l : List UInt8} (h : w.ownsRow base 5 1 v m (bs l)) : ∃ A c, v = .slice A m c ∧ Own w base A m c l := by
  rcases h.2 with ⟨rfl, rfl⟩ | ⟨g, cap, cur, rfl, _⟩
  · exact ⟨none, 0, rfl, h⟩
  · exact ⟨_, cap, rfl, h⟩
theorem gives_of {w w' : World} {m : Nat} {v : Value} {l : List UInt8} (h : w'.ownsRow w.heap.size 5 1 v m (bs l)) (hb : Below w.heap.size w w') : Gives w m l (.returned v) w' := by
  obtain ⟨A, c, rfl, ho⟩ := own_slice h
  exact ⟨A, c, rfl, ho, hb⟩

theorem own_after_copy {w : World} {g base n m : Nat} {l : List UInt8} (hbase : base ≤ g) (hl : l.length = n) (hm : n + m ≤ maxLen)
    (h : w.heap[g]? = some (.cells (splice (List.replicate (n + m) (Value.int .u8 0)) 0 (bs l)).toArray 5 (0, 0))) :
    w.ownsRow base 5 1 (.slice (some ⟨g, 0, none⟩) n (n + m)) n (bs l) := by
  refine ⟨by simp [length_bs, hl], .inr ⟨g, n + m, _, rfl, hbase, h, by omega, hm, ?_, ?_⟩⟩
  · simp [splice, length_bs]; omega
  · simp [splice, length_bs, hl]

theorem own_step {w : World} {base n k x wd : Nat} {v : Value} {l : List UInt8} (hk : k < wd)
    (h : w.ownsRow base 5 1 v (n + k + 1) (bs (l ++ (be x wd).take k) ++ [.int .u8 ((beB x wd k).toNat : Int)])) : w.ownsRow base 5 1 v (n + (k + 1)) (bs (l ++ (be x wd).take (k + 1))) := by
  rw [be_take_succ x wd k hk, ← List.append_assoc, bs_append, bs_one]
  exact h

set_option maxHeartbeats 1000000 in
theorem put_any (A : Option Addr) (n c : Nat) (l : List UInt8) (x wd : Nat) (w : World) (hl : l.length = n) (hr : Reads w w.heap.size 1 A n (bs l)) (hn : n ≤ 100000)
    (hx : (x : Int) ≤ 18446744073709551615) (hw1 : 1 ≤ wd) (hw8 : wd ≤ 8) :
    Calls Try.prog 33 #[.slice A n c, .int .u64 x, .int .i64 wd] w (Gives w (n + wd) (l ++ be x wd)) := by
  obtain ⟨i0, hi0, hz0, hz1, hz2⟩ := info_parts byte_info
  have hmk : ∀ u : World, (Instr.makeSlice 22 (.int .i64 (n : Int)) (.int .i64 ((n : Int) + (wd : Int)))).run Try.prog u =
      .ok (.slice (some ⟨u.heap.size, 0, none⟩) n (n + wd)) (u.alloc (.cells (madeCells #[.int .u8 0] (n + wd)) 5)) := fun u => by
    have h := run_make (P := Try.prog) u 22 5 i0 (.int .u8 0) Try.underlying22 hi0 hz0 .i64 .i64 (n : Int) ((n : Int) + (wd : Int)) (by omega) (by omega) (by rw [hz2]; omega) (by omega)
    have e : ((n : Int) + (wd : Int)).toNat = n + wd := by omega
    rw [e] at h
    simpa [hz1, Value.cells] using h
  obtain ⟨w1, hcp, HG, HB⟩ := run_copy_reads (P := Try.prog) (w.alloc (.cells (madeCells #[.int .u8 0] (n + wd)) 5)) 22 3 5 w.heap.size w.heap.size (n + wd) A n c (List.replicate (n + wd) (.int .u8 0)) (bs l) 5
    Try.underlying22 byte_size (by rw [heap_alloc_new, ← toList_madeCells_one]) (hr.alloc (Nat.le_refl _) _) (bs_ones l) (by simp)
  have HO : Hid (w1.ownsRow w.heap.size 5 1 (.slice (some ⟨w.heap.size, 0, none⟩) n (n + wd)) (n + 0) (bs (l ++ (be x wd).take 0))) := by
    refine Lib.hid ?_
    simpa [bs_append, bs] using own_after_copy (Nat.le_refl _) hl (by simp only [maxLen]; omega) HG
  have hB1 : Below w.heap.size w w1 := ((Below.refl _ _).alloc (Nat.le_refl _) _).trans HB
  clear HG HB
  have hX := Lib.hid hx
  clear hl hr
  go_enter Try.func33, Try.ntmps33
  go_wp2_with fail
  go_loopw [7, 20] (fun v i wr => ∃ k : Nat, k ≤ wd ∧ i = .int .i64 k ∧ wr.ownsRow w.heap.size 5 1 v (n + k) (bs (l ++ (be x wd).take k)) ∧ Below w.heap.size w wr) (fun _ i _ => wd - (intOf i).toNat)
  case atStart => exact ⟨0, by omega, rfl, HO.out, hB1⟩
  case round =>
    obtain ⟨k, hk, rfl, hown', hB⟩ := hrel
    by_cases hlt : k < wd
    · have hE := beB_int x wd k
      have hx0 := hX.out
      have hzw : w.heap.size ≤ wr.heap.size := hB.size
      go_wp2_with (first
        | (go_at_call 39; refine (shift_any _ _ _ (by omega) (by omega) (by omega)).mono ?_; rintro e w' ⟨rfl, rfl⟩)
        | (at_builtin
           refine wpList_append_own _ rfl (.tmp 23) (.tmp 30) 22 rfl w.heap.size 5 i0 (.int .u8 0) 1 1 Try.underlying22 hi0 hz0 hz1 hz2 rfl (by decide) u7 (n + k) _ rfl (hown'.alloc _) ⟨wr.heap.size, 0, none⟩ 1 1 [.int .u8 ((beB x wd k).toNat : Int)] rfl rfl (cell_one_new _ _ _) (by simp [Value.oneCell']) (by simp only [maxLen]; omega) (by omega) (by simp; omega) ?_
           intro v2 w2 hown2 hg2 _))
      have hB2 : Below w.heap.size w w2 := (hB.alloc hzw _).grown hg2 (by simp; omega) (fun g hg => (hown'.lt g hg).1)
      have hO2 := own_step hlt hown2
      go_roundw
      case rel => exact ⟨k + 1, by omega, by go_num, hO2, hB2⟩
      case measure => simp [intOf]; omega
    · obtain rfl : k = wd := by omega
      go_wp2
      go_ret
      rw [List.take_of_length_le (by rw [length_be]; omega)] at hown'
      exact gives_of hown' hB

set_option maxHeartbeats 400000 in
theorem put16_any (A : Option Addr) (n c : Nat) (l : List UInt8) (x : Nat) (w : World) (hl : l.length = n) (hr : Reads w w.heap.size 1 A n (bs l)) (hn : n ≤ 100000)
    (hx : (x : Int) ≤ 65535) :
    Calls Try.prog 10 #[.slice A n c, .int .u16 x] w (Gives w (n + 2) (l ++ be x 2)) := by
  have H : Calls Try.prog 33 #[.slice A n c, .int .u64 x, .int .i64 2] w (Gives w (n + 2) (l ++ be x 2)) := put_any A n c l x 2 w hl hr hn (by omega) (by omega) (by omega)
  have h := Lib.hid H
  clear H hl hr
  go_enter Try.func10, Try.ntmps10
  go_wp2_with (go_at_call 33; refine h.out.mono ?_; rintro e w' ⟨A1, c1, rfl, hO, hB⟩)
  go_ret
  exact ⟨A1, c1, rfl, hO, hB⟩

set_option maxHeartbeats 400000 in
theorem put32_any (A : Option Addr) (n c : Nat) (l : List UInt8) (x : Nat) (w : World) (hl : l.length = n) (hr : Reads w w.heap.size 1 A n (bs l)) (hn : n ≤ 100000)
    (hx : (x : Int) ≤ 4294967295) :
    Calls Try.prog 11 #[.slice A n c, .int .u32 x] w (Gives w (n + 4) (l ++ be x 4)) := by
  have H : Calls Try.prog 33 #[.slice A n c, .int .u64 x, .int .i64 4] w (Gives w (n + 4) (l ++ be x 4)) := put_any A n c l x 4 w hl hr hn (by omega) (by omega) (by omega)
  have h := Lib.hid H
  clear H hl hr
  go_enter Try.func11, Try.ntmps11
  go_wp2_with (go_at_call 33; refine h.out.mono ?_; rintro e w' ⟨A1, c1, rfl, hO, hB⟩)
  go_ret
  exact ⟨A1, c1, rfl, hO, hB⟩

set_option maxHeartbeats 400000 in
theorem put64_any (A : Option Addr) (n c : Nat) (l : List UInt8) (x : Nat) (w : World) (hl : l.length = n) (hr : Reads w w.heap.size 1 A n (bs l)) (hn : n ≤ 100000)
    (hx : (x : Int) ≤ 18446744073709551615) :
    Calls Try.prog 12 #[.slice A n c, .int .u64 x] w (Gives w (n + 8) (l ++ be x 8)) := by
  have H : Calls Try.prog 33 #[.slice A n c, .int .u64 x, .int .i64 8] w (Gives w (n + 8) (l ++ be x 8)) := put_any A n c l x 8 w hl hr hn (by omega) (by omega) (by omega)
  have h := Lib.hid H
  clear H hl hr
  go_enter Try.func12, Try.ntmps12
  go_wp2_with (go_at_call 33; refine h.out.mono ?_; rintro e w' ⟨A1, c1, rfl, hO, hB⟩)
  go_ret
  exact ⟨A1, c1, rfl, hO, hB⟩

end Go.Proofs.Ytifclmmfnfppiaa
