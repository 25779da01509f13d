/-
  The landed pool: width, readSets. No statement is proved here.
-/
import Derived.Test.YtnckfgnhlnichaaPd
namespace Go.Proofs.Ytnckfgnhlnichaa
open Go.RowKit

set_option maxRecDepth 100000 in
set_option maxHeartbeats 400000 in
theorem lwidth_any (z : Nat) (w : World) (h : z < 256) : Calls Try.prog 45 #[.int .u8 (z : Int)] w fun e w' => e = .returned (.int .i64 (1 + (z : Int))) ∧ w = w' := by
  have h1 : IntKind.i64.wrap (z : Int) = (z : Int) := by rw [IntKind.wrap_i64]; omega
  have h2 : IntKind.i64.wrap (1 + (z : Int)) = 1 + (z : Int) := by rw [IntKind.wrap_i64]; omega
  go_enter Try.func45, Try.ntmps45
  go_wp2
  go_ret
  exact ⟨rfl, rfl⟩

/-- sets in memory of their own -/
def TellsS (w : World) (l : List Nat) (e : Ending) (w' : World) : Prop :=
  ∃ A c, e = .returned (.slice A l.length c) ∧ w'.ownsRow w.heap.size 29 1 (.slice A l.length c) l.length (us l) ∧ Below w.heap.size w w'

set_option maxRecDepth 100000 in
set_option maxHeartbeats 4000000 in
theorem lreads_any (A : Option Addr) (n c : Nat) (bs : List Nat) (w : World) (hR : Reads w w.heap.size 1 A n (ub bs)) (hby : ∀ x ∈ bs, x < 256) (hn : n ≤ 400) :
    Calls Try.prog 46 #[.slice A n c] w (TellsS w bs) := by
  obtain ⟨i0, hi0, hz0, hz1, hz2⟩ := info_parts8 cpus_info
  have HL := Lib.hid (ubytes_len hR)
  have HR := Lib.hid hR
  have HBy := Lib.hid hby
  have HN := Lib.hid hn
  clear hR hby hn
  go_enter Try.func46, Try.ntmps46
  go_wp2_with fail
  go_loopw [3, 8] (fun v i wr => ∃ k m : Nat, k ≤ n ∧ i = .int .i64 (k : Int) ∧ Hid (m = k) ∧ Hid (wr.ownsRow w.heap.size 29 1 v m (us (bs.take k))) ∧ Below w.heap.size w wr) (fun _ i _ => n - (intOf i).toNat)
  case atStart => exact ⟨0, 0, by omega, rfl, Lib.hid rfl, Lib.hid (World.ownsRow_nil _ _ _ _), Below.refl _ _⟩
  case round =>
    obtain ⟨k, m, hk, rfl, Hm, HO2, hB⟩ := hrel
    by_cases hlt : k < n
    · obtain ⟨ad, x, rfl, hb, hm, d0⟩ := ubyte_at (HR.out.below hB) hlt
      have x8 := HBy.out x (List.mem_of_getElem? hm)
      have wx : IntKind.u32.wrap (x : Int) = (x : Int) := by rw [IntKind.wrap_u32']; omega
      have HM : Hid (bs.take (k + 1) = bs.take k ++ [x]) := Lib.hid (by rw [List.take_add_one, hm]; rfl)
      have hsz := hB.size
      have hk9 : k < 400 := by have := HN.out; omega
      have m20 : m ≤ 400 := by have := HN.out; rw [Hm.out]; omega
      obtain ⟨A2, c2, rfl, _, _⟩ := own_reads HO2.out
      clear hm x8
      go_wp2_with (
        at_builtin
        refine wpList_append_any _ rfl (.tmp 12) (.tmp 15) 22 rfl w.heap.size 29 i0 (.int .u32 0) 1 4 Try.underlying22 hi0 hz0 hz1 hz2 rfl (by decide) (.slice A2 m c2) m (us (bs.take k)) rfl (HO2.out.alloc _) _ (some ⟨wr.heap.size, 0, none⟩) 1 1 (us [x]) rfl (reads_u1' _ 29 x rfl) (us_ones _) (by simp only [maxLen]; omega) (by omega) (by unfold World.alloc; simp <;> omega) ?_
        intro v9 w9 own9 grow9 _
        rw [← us_append] at own9
        have B9' := hB.alloc hsz (.cells #[.int .u32 (x : Int)] 29)
        have HT := Lib.hid (And.intro own9 (show Below w.heap.size w w9 from B9'.grown grow9 B9'.size (fun g hg => (HO2.out.lt g hg).1)))
        clear own9 grow9 B9')
      go_wp2_with fail
      go_roundw
      case rel => exact ⟨k + 1, m + 1, by omega, by go_num, Lib.hid (by rw [Hm.out]), Lib.hid (by rw [HM.out]; exact HT.out.1), HT.out.2⟩
      case measure => simp [intOf] <;> omega
    · obtain rfl : n = k := by omega
      obtain ⟨A2, c2, rfl, hc2, _⟩ := own_reads HO2.out
      have HF : Hid (wr.ownsRow w.heap.size 29 1 (.slice A2 m c2) m (us bs)) := Lib.hid (by
        have := HO2.out
        rwa [show bs.take n = bs by rw [← HL.out]; exact List.take_length] at this)
      have hml : Hid (bs.length = m) := Lib.hid (by rw [HL.out, Hm.out])
      clear HO2 hc2
      go_wp2
      go_ret
      exact ⟨A2, c2, by rw [hml.out]; rfl, by rw [hml.out]; exact HF.out, hB⟩

end Go.Proofs.Ytnckfgnhlnichaa
