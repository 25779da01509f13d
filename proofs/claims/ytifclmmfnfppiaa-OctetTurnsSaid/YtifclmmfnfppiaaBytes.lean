/-
  The contracts of bytes.Equal and slices.Concat (of two) as the statements call them. No statement is proved here.
-/
import Derived.Test.YtifclmmfnfppiaaOctPut
import Derived.Lib.AppendZerosOnto
import Derived.Laws.BytesString
namespace Go.Proofs.Ytifclmmfnfppiaa
open Go.RowKit

theorem push_bytes (l : List UInt8) : ∀ s : ByteArray, (l.map fun x => (x.toNat : Int)).foldl (fun r n => r.push (UInt8.ofNat n.toNat)) s = ⟨s.data ++ l.toArray⟩ := by
  induction l with
  | nil => intro s; simp
  | cons x l ih =>
    intro s
    rw [List.map_cons, List.foldl_cons, ih]
    have e : UInt8.ofNat ((x.toNat : Int)).toNat = x := by simp
    rw [e]
    congr 1
    show (s.data.push x) ++ l.toArray = _
    apply Array.ext'
    simp
theorem conv_bytes (src dst e : TypeId) (hs : Try.prog.underlying src = some (.slice e)) (he : Try.prog.underlying e = some (.int .u8)) (hd : Try.prog.underlying dst = some .string)
    {B n c : Nat} {A : Option Addr} {l : List UInt8} {w : World} (hr : Reads w B 1 A n (bs l)) :
    (convert src dst (.slice A n c)).run Try.prog w = .ok (.string ⟨l.toArray⟩) w := by
  have hl : l.length = n := by have := hr.1; simpa [length_bs] using this
  rw [run_convert_bytes_string w src dst e _ n c hs he hd]
  have go : ∀ ad : Addr, (∀ j u, (bs l)[j]? = some u → w.cell? (ad.add j) = some u) → (Conv.bytesToString (.slice (some ad) n c)).run Try.prog w = .ok (.string ⟨l.toArray⟩) w := fun ad hc => by
    have h := run_loadCells_list (P := Try.prog) (w := w) ad (bs l) hc
    rw [length_bs, hl] at h
    have e1 : bs l = (l.map fun x => (x.toNat : Int)).map (Value.int .u8) := by simp [bs]
    rw [e1] at h
    rw [run_bytesToString w ad n c _ h, push_bytes]
    congr 3
    show (#[] : Array UInt8) ++ l.toArray = l.toArray
    simp
  rcases A with _ | ad
  · have h0 : n = 0 := by
      rcases Nat.eq_zero_or_pos n with h | h
      · exact h
      · obtain ⟨ad, h1, _⟩ := hr.2 h
        cases h1
    subst h0
    obtain rfl := List.eq_nil_of_length_eq_zero hl
    simp [Conv.bytesToString]
    rfl
  · rcases Nat.eq_zero_or_pos n with h | h
    · subst h
      obtain rfl := List.eq_nil_of_length_eq_zero hl
      exact go ad (by simp [bs])
    · obtain ⟨ad', e1, _, hc⟩ := hr.2 h
      injection e1 with e1
      subst e1
      exact go ad hc

set_option maxHeartbeats 400000 in
theorem equal_same (A1 A2 : Option Addr) (n1 n2 c1 c2 B1 B2 : Nat) (l : List UInt8) (w : World) (h1 : Reads w B1 1 A1 n1 (bs l)) (h2 : Reads w B2 1 A2 n2 (bs l)) :
    Calls Try.prog 31 #[.slice A1 n1 c1, .slice A2 n2 c2] w fun e w' => e = .returned (.bool true) ∧ w = w' := by
  have k1 := conv_bytes 22 9 5 Try.underlying22 Try.underlying5 Try.underlying9 (c := c1) h1
  have k2 := conv_bytes 22 9 5 Try.underlying22 Try.underlying5 Try.underlying9 (c := c2) h2
  clear h1 h2
  go_enter Try.func31, Try.ntmps31
  go_wp2
  go_ret
  exact ⟨rfl, rfl⟩

set_option maxHeartbeats 1000000 in
theorem grow_nil (n : Nat) (w : World) (h0 : 0 < n) (hn : n ≤ 200000) :
    Calls Try.prog 38 #[.slice none 0 0, .int .i64 n] w (Gives w 0 []) := by
  obtain ⟨i0, hi0, hz0, hz1, hz2⟩ := info_parts byte_info
  have hrz : ∀ ty, (Builtin.append_ #[22, 3] ty #[.slice none 0 0, .int .i64 (n : Int)]).run Try.prog w =
      .ok (.slice (some ⟨w.heap.size, 0, none⟩) n (grownCap w n 0 5)) (w.drew.alloc (.cells (([] : List Value).toArray ++ Builtin.zeroCells (Value.int .u8 0).cells n ++ Builtin.zeroCells (Value.int .u8 0).cells (grownCap w n 0 5 - n)) 5)) := fun ty => by
    have h := Lib.run_append_grow_zeros (P := Try.prog) w 22 3 ty 5 i0 (.int .u8 0) .i64 .i64 Try.underlying22 Try.underlying3 hi0 hz0 none 0 0 [] (run_firstCells_none w.drew i0.size 0 0 0) n h0 (by omega) (by omega) (by omega) (by rw [hz2]; omega)
      (growslice_fits (by omega) (by rw [hz2]; omega))
    simpa using h
  have hGn : n ≤ grownCap w n 0 5 := grownCap_ge w _ _ _
  have hG63 : grownCap w n 0 5 ≤ maxLen := grownCap_le_maxLen w n 0 5 (by unfold maxLen; omega)
  generalize grownCap w n 0 5 = G at hrz hGn hG63
  have HO : Hid (Own (w.alloc (.cells (Builtin.zeroCells #[.int .u8 0] n ++ Builtin.zeroCells #[.int .u8 0] (G - n)) 5)).drew w.heap.size (some ⟨w.heap.size, 0, none⟩) 0 G []) :=
    World.ownsRow_made w _ G (Nat.le_refl _) hG63 (by simp [size_zeroCells]; omega)
  unfold maxLen at hG63
  go_enter Try.func38, Try.ntmps38
  go_wp2_with (at_builtin; refine Lib.wpList_append_run _ rfl _ _ _ _ rfl _ _ rfl rfl _ _ (hrz _) ?_)
  all_goals go_ret
  all_goals exact ⟨_, _, rfl, HO.out, ((Below.refl _ _).alloc (Nat.le_refl _) _).drew⟩

set_option maxHeartbeats 1000000 in
theorem concat_two (g : Nat) (A1 A2 : Option Addr) (n1 n2 c1 c2 : Nat) (l1 l2 : List UInt8) (w : World) (hg : Blk w g 22 #[.slice A1 n1 c1, .slice A2 n2 c2])
    (h1 : Reads w w.heap.size 1 A1 n1 (bs l1)) (h2 : Reads w w.heap.size 1 A2 n2 (bs l2)) (h0 : 0 < n1 + n2) (hn1 : n1 ≤ 100000) (hn2 : n2 ≤ 100000) :
    Calls Try.prog 32 #[.slice (some ⟨g, 0, none⟩) 2 2] w (Gives w (n1 + n2) (l1 ++ l2)) := by
  obtain ⟨i0, hi0, hz0, hz1, hz2⟩ := info_parts byte_info
  have hgr : Calls Try.prog 38 #[.slice none 0 0, .int .i64 ((n1 : Int) + n2)] w (Gives w 0 []) := by
    have := grow_nil (n1 + n2) w h0 (by omega)
    simpa using this
  have HG := Lib.hid hgr
  clear hgr
  have d0 := hg.cell 0
  have d1 := hg.cell 1
  have hlt := hg.lt
  go_enter Try.func32, Try.ntmps32
  go_wp2_with fail
  refine wp_loop_rounds 3 ?_
  rw [rounds_succ]
  go_wp2_with fail
  rw [rounds_succ]
  go_wp2_with fail
  rw [rounds_succ]
  go_wp2_with fail
  refine HG.out.mono ?_
  rintro e w1 ⟨A3, c3, rfl, hO, hB⟩
  have hg1 := hg.below hB hlt
  have e0 := hg1.cell 0
  have e1 := hg1.cell 1
  go_wp2_with fail
  refine wp_loop_rounds 3 ?_
  rw [rounds_succ]
  have hA1 := ((h1.below hB).more hB.size)
  go_wp2_with (
    at_builtin
    refine wpList_append_any _ rfl (.tmp 31) (.tmp 32) 22 rfl w.heap.size 5 i0 (.int .u8 0) 1 1 Try.underlying22 hi0 hz0 hz1 hz2 rfl (by decide) (.slice A3 0 c3) 0 (bs []) rfl hO w1.heap.size A1 n1 c1 (bs l1) rfl hA1 (bs_ones _) (by simp only [maxLen]; omega) (by omega) hB.size ?_
    intro v2 w2 hown2 hg2 hat2)
  have hOw : w1.ownsRow w.heap.size 5 1 (.slice A3 0 c3) 0 (bs []) := hO
  have hB2 : Below w.heap.size w w2 := hB.grown hg2 hB.size (fun k hk => (hOw.lt k hk).1)
  have hg3 : Blk w2 g 22 #[.slice A1 n1 c1, .slice A2 n2 c2] := hg1.grown hg2 (fun e => own_blk_ne hOw hg1 (by decide) e.symm)
  have f0 := hg3.cell 0
  have f1 := hg3.cell 1
  have hA2 : Reads w2 w.heap.size 1 A2 n2 (bs l2) := (h2.below hB).grown hg2 hB.size (fun k hk => (hOw.lt k hk).1)
  have hown3 : w2.ownsRow w.heap.size 5 1 v2 n1 (bs l1) := by simpa [bs] using hown2
  clear hO hown2 hOw hat2 hA1 h1 h2
  rw [rounds_succ]
  go_wp2_with (
    at_builtin
    refine wpList_append_any _ rfl (.tmp 31) (.tmp 32) 22 rfl w.heap.size 5 i0 (.int .u8 0) 1 1 Try.underlying22 hi0 hz0 hz1 hz2 rfl (by decide) v2 n1 (bs l1) rfl hown3 w.heap.size A2 n2 c2 (bs l2) rfl hA2 (bs_ones _) (by simp only [maxLen]; omega) (by omega) hB2.size ?_
    intro v3 w3 hown4 hg4 hat4)
  rw [rounds_succ]
  go_wp2
  go_ret
  rw [← bs_append] at hown4
  exact gives_of hown4 (hB2.grown hg4 hB2.size (fun k hk => (hown3.lt k hk).1))

end Go.Proofs.Ytifclmmfnfppiaa
