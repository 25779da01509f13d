/-
  The contract of the document's Bytes, of pools that may be. No statement is proved here.
-/
import Derived.Test.YtnckfgnhlnichaaVe
namespace Go.Proofs.Ytnckfgnhlnichaa
open Go.RowKit

/-- bytes as values -/
def ub (l : List Nat) : List Value := l.map fun (x : Nat) => .int .u8 (x : Int)
theorem length_ub (l : List Nat) : (ub l).length = l.length := by simp [ub]
theorem ub_append (a b : List Nat) : ub (a ++ b) = ub a ++ ub b := by simp [ub]
theorem ub_ones (l : List Nat) : ∀ u ∈ ub l, u.oneCell' = true := by
  intro u hu
  unfold ub at hu
  obtain ⟨x, _, rfl⟩ := List.mem_map.1 hu
  rfl
theorem ub_at {l : List Nat} {k : Nat} {v : Value} (h : (ub l)[k]? = some v) : ∃ x, l[k]? = some x ∧ v = .int .u8 ((x : Nat) : Int) := by
  unfold ub at h
  rw [List.getElem?_map] at h
  cases hl : l[k]? with
  | none => rw [hl] at h; cases h
  | some x => rw [hl] at h; injection h with h; exact ⟨x, rfl, h.symm⟩
theorem ubytes_len {w : World} {B n : Nat} {A : Option Addr} {l : List Nat} (h : Reads w B 1 A n (ub l)) : l.length = n := by
  have := h.1
  rw [length_ub] at this
  omega
theorem ubyte_at {w : World} {B n : Nat} {A : Option Addr} {l : List Nat} (h : Reads w B 1 A n (ub l)) {k : Nat} (hk : k < n) :
    ∃ ad x, A = some ad ∧ ad.block < B ∧ l[k]? = some x ∧ w.cell? (ad.add k) = some (.int .u8 ((x : Nat) : Int)) := by
  obtain ⟨ad, u, e, hb, hu, hc⟩ := h.at_ hk
  obtain ⟨x, hx, rfl⟩ := ub_at hu
  exact ⟨ad, x, e, hb, hx, hc⟩
theorem byte_info8 : (Try.prog.info? 5).map (fun i => (i.zero, i.size, i.bytes)) = some (some (.int .u8 0), 1, 1) := by kernel_rfl
theorem u8_nat {x : Nat} (h : x < 256) : IntKind.u8.wrap (x : Int) = (x : Int) := by simp [IntKind.wrap, IntKind.bits, IntKind.signed]; omega
theorem own_built {w : World} {base : Nat} {e : TypeId} (cur : Array Value) (n : Nat) (hb : base ≤ w.heap.size) (hn : cur.size = n) (hm : n ≤ maxLen) : (w.alloc (.cells cur e)).ownsRow base e 1 (.slice (some ⟨w.heap.size, 0, none⟩) n n) n cur.toList :=
  ⟨by simp [hn], .inr ⟨w.heap.size, n, cur, rfl, hb, heap_alloc_new w _, Nat.le_refl _, hm, by omega, by rw [Nat.mul_one, ← hn]; exact List.take_length⟩⟩
theorem reads_b1 (w : World) (t : TypeId) (x : Nat) {g : Nat} (hg : g = w.heap.size) : Reads (w.alloc (.cells #[.int .u8 (x : Int)] t)) (w.alloc (.cells #[.int .u8 (x : Int)] t)).heap.size 1 (some ⟨g, 0, none⟩) 1 (ub [x]) := by
  subst hg
  refine ⟨rfl, fun _ => ⟨_, rfl, by simp, fun j u hu => ?_⟩⟩
  have hb := Blk.new w t #[.int .u8 (x : Int)]
  match j, hu with
  | 0, hu => simp [ub] at hu; subst hu; exact hb.cell 0
  | j + 1, hu => simp [ub] at hu
/-- a call answers a row of bytes in memory of its own -/
def TellsU (w : World) (l : List Nat) (e : Ending) (w' : World) : Prop :=
  ∃ A c, e = .returned (.slice A l.length c) ∧ w'.ownsRow w.heap.size 5 1 (.slice A l.length c) l.length (ub l) ∧ Below w.heap.size w w'
/-- pools' bytes -/
def bytesP (l : List Nat) : List Nat := l.length :: l

set_option maxRecDepth 100000 in
set_option maxHeartbeats 4000000 in
theorem rbytesP_any (A : Option Addr) (n c : Nat) (l : List Nat) (w : World) (hR : Reads w w.heap.size 1 A n (us l)) (hr : rightP l = true) :
    Calls Try.prog 26 #[.agg #[.slice A n c]] w (TellsU w (bytesP l)) := by
  obtain ⟨i0, hi0, hz0, hz1, hz2⟩ := info_parts8 byte_info8
  have hl := usets_len hR
  obtain ⟨r1, r4, rs, _⟩ := right_parts8 hr
  have wn : IntKind.u8.wrap (n : Int) = (n : Int) := u8_nat (by omega)
  have HL := Lib.hid hl
  have HSets := Lib.hid rs
  have HN4 : Hid (n ≤ 4) := Lib.hid (by omega)
  have HR := Lib.hid hR
  obtain ⟨K, B⟩ : Blk (w.alloc (.cells #[.slice A n c] 24)) w.heap.size 24 #[.slice A n c] ∧ Below w.heap.size w (w.alloc (.cells #[.slice A n c] 24)) := ⟨Blk.new _ _ _, (Below.refl _ _).alloc (Nat.le_refl _) _⟩
  have HB := Lib.hid (And.intro (B.alloc B.size (.cells #[.int .u8 (n : Int)] 5)) (K.alloc (.cells #[.int .u8 (n : Int)] 5)))
  have kz : ((w.alloc (.cells #[.slice A n c] 24)).alloc (.cells #[.int .u8 (n : Int)] 5)).cell? ⟨w.heap.size, 0, none⟩ = some (.slice A n c) := HB.out.2.cell 0
  have HO : Hid (((w.alloc (.cells #[.slice A n c] 24)).alloc (.cells #[.int .u8 (n : Int)] 5)).ownsRow w.heap.size 5 1 (.slice (some ⟨w.heap.size + 1, 0, none⟩) 1 1) 1 (ub [n])) := Lib.hid (by
    have := own_built (w := w.alloc (.cells #[.slice A n c] 24)) (base := w.heap.size) (e := 5) #[.int .u8 (n : Int)] 1 (by simp) rfl (by simp [maxLen])
    simpa [ub] using this)
  clear hR hl r1 r4 rs hr K B
  go_enter Try.func26, Try.ntmps26
  go_wp2_with fail
  clear kz
  go_loopw [3, 14] (fun v i wr => ∃ k m : Nat, k ≤ n ∧ i = .int .i64 (k : Int) ∧ Hid (m = 1 + k) ∧ Hid (wr.ownsRow w.heap.size 5 1 v m (ub (n :: l.take k))) ∧ Below w.heap.size w wr) (fun _ i _ => n - (intOf i).toNat)
  case atStart => exact ⟨0, 1, by omega, rfl, Lib.hid rfl, Lib.hid HO.out, HB.out.1⟩
  case round =>
    obtain ⟨k, m, hk, rfl, Hm, HO2, hB⟩ := hrel
    by_cases hlt : k < n
    · obtain ⟨ad, x, rfl, hb, hm, d0⟩ := uset_at (HR.out.below hB) hlt
      obtain ⟨x8, x0⟩ := sets_at HSets.out hm
      have wx : IntKind.u8.wrap (x : Int) = (x : Int) := u8_nat x8
      have HM : Hid (n :: l.take (k + 1) = (n :: l.take k) ++ [x]) := Lib.hid (by rw [List.take_add_one, hm]; rfl)
      have hsz := hB.size
      have hk9 : k < 100 := by have := HN4.out; omega
      have m20 : m ≤ 20 := by have := HN4.out; rw [Hm.out]; omega
      obtain ⟨A2, c2, rfl, _, _⟩ := own_reads HO2.out
      clear hm x8 x0
      go_wp2_with (
        at_builtin
        refine wpList_append_any _ rfl (.tmp 18) (.tmp 21) 51 rfl w.heap.size 5 i0 (.int .u8 0) 1 1 Try.underlying51 hi0 hz0 hz1 hz2 rfl (by decide) (.slice A2 m c2) m (ub (n :: l.take k)) rfl (HO2.out.alloc _) _ (some ⟨wr.heap.size, 0, none⟩) 1 1 (ub [x]) rfl (reads_b1 _ 5 x rfl) (ub_ones _) (by simp only [maxLen]; omega) (by omega) (by unfold World.alloc; simp <;> omega) ?_
        intro v9 w9 own9 grow9 _
        rw [← ub_append] at own9
        have B9' := hB.alloc hsz (.cells #[.int .u8 (x : Int)] 5)
        have HT := Lib.hid (And.intro own9 (show Below w.heap.size w w9 from B9'.grown grow9 B9'.size (fun g hg => (HO2.out.lt g hg).1)))
        clear own9 grow9 B9')
      go_wp2_with fail
      go_roundw
      case rel => exact ⟨k + 1, m + 1, by omega, by go_num, Lib.hid (by rw [Hm.out]; omega), Lib.hid (by rw [HM.out]; exact HT.out.1), HT.out.2⟩
      case measure => simp [intOf] <;> omega
    · obtain rfl : n = k := by omega
      obtain ⟨A2, c2, rfl, hc2, _⟩ := own_reads HO2.out
      have HF : Hid (wr.ownsRow w.heap.size 5 1 (.slice A2 m c2) m (ub (bytesP l))) := Lib.hid (by
        have := HO2.out
        rw [show l.take n = l by rw [← HL.out]; exact List.take_length] at this
        unfold bytesP
        rw [HL.out]
        exact this)
      have hml : Hid ((bytesP l).length = m) := Lib.hid (by unfold bytesP; rw [List.length_cons, HL.out, Hm.out]; omega)
      clear HO2 hc2
      go_wp2
      go_ret
      exact ⟨A2, c2, by rw [hml.out]; rfl, by rw [hml.out]; exact HF.out, hB⟩

end Go.Proofs.Ytnckfgnhlnichaa
