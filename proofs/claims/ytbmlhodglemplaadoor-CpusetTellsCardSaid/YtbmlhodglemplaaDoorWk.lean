/-
  The contract of the statements' own wakes, and what the rows' listed variables give. No statement is proved here.
-/
import Derived.Test.YtbmlhodglemplaaDoorCk
import Derived.Stop.LaidErr
import Derived.Lay
import Derived.MakeChecks
namespace Go.Proofs.YtbmlhodglemplaaDoor
open Go.RowKit

theorem wake_text : textE 11 = (⟨#[48, 45, 49, 44, 51]⟩, 0) := by decide +kernel
theorem wake_parse : parE ⟨#[48, 45, 49, 44, 51]⟩ = (11, 0) := by
  have : textB ((11 : Nat) : Int) = ⟨#[48, 45, 49, 44, 51]⟩ := by decide +kernel
  rw [parE_hit (s := 11) (by omega) this]
  rfl

theorem reads3 (w : World) (t : TypeId) (a b c : Int) : Reads (w.alloc (.cells #[.int .i64 a, .int .i64 b, .int .i64 c] t)) (w.alloc (.cells #[.int .i64 a, .int .i64 b, .int .i64 c] t)).heap.size 1 (some ⟨w.heap.size, 0, none⟩) 3 (vs [a, b, c]) := by
  refine ⟨rfl, fun _ => ⟨_, rfl, by simp, fun j u hu => ?_⟩⟩
  have hb := Blk.new w t #[.int .i64 a, .int .i64 b, .int .i64 c]
  have e : (⟨w.heap.size, 0, none⟩ : Addr).add j = ⟨w.heap.size, j, none⟩ := by
    unfold Addr.add
    split
    · rename_i h; subst h; rfl
    · simp
  rw [e, hb.cell]
  rw [← hu]
  simp [vs]

set_option maxRecDepth 100000 in
set_option maxHeartbeats 1000000 in
theorem wakes_any (w : World) (hG : Gd w) : Calls Tryd.prog 10 #[] w fun e w' => e = .returned (.bool true) ∧ Below w.heap.size w w' := by
  have HO := Lib.hid (fun (A : Option Addr) (u : World) (h : Reads u u.heap.size 1 A 3 (vs [1, 3, 1])) => of_any A 3 [1, 3, 1] u (by decide) h)
  rw [show ofE [1, 3, 1] = (10, 0) by decide +kernel] at HO
  have HT := Lib.hid (fun u hu => text_any 11 u hu (by omega) (by omega))
  rw [wake_text] at HT
  have HP := Lib.hid (fun u hu => parse_any ⟨#[48, 45, 49, 44, 51]⟩ u (by decide) hu)
  rw [wake_parse] at HP
  have HG := Lib.hid hG
  clear hG
  go_enter Tryd.func10, Tryd.ntmps10
  go_wp2_with fail
  have hR := reads3 w 3 1 3 1
  have hB : Below w.heap.size w (w.alloc (.cells #[.int .i64 1, .int .i64 3, .int .i64 1] 3)) := (Below.refl _ _).alloc (Nat.le_refl _) _
  refine (HO.out _ _ hR).mono ?_
  clear hR
  generalize w.alloc (.cells #[.int .i64 1, .int .i64 3, .int .i64 1] 3) = w1 at *
  rintro e w' ⟨rfl, rfl⟩
  have hG1 := HG.out.below hB
  go_wp2_with fail
  refine (HT.out _ hG1.1).mono ?_
  rintro e w2 ⟨rfl, hB2⟩
  have hG2 := hG1.below hB2
  have b2 := hB.trans (hB2.mono hB.size)
  clear hB hB2 hG1
  go_wp2_with fail
  refine (HP.out _ hG2).mono ?_
  rintro e w3 ⟨rfl, hB3⟩
  have b3 := b2.trans (hB3.mono b2.size)
  clear b2 hB3 hG2
  go_wp2
  go_ret
  exact ⟨rfl, b3⟩

theorem star_err : "*errors.errorString" = "*" ++ "errors.errorString" := by decide
theorem name_err (u : TypeId) (h : Tryd.prog.typeName? 3 u = some "*errors.errorString") : u = 121 :=
  typeName_ptr_named (nm := "errors.errorString") (by rw [← star_err]; kernel_rfl) (by kernel_rfl) (by decide) u (by rw [← star_err]; exact h)

/-- what the rows list gives the table and the errors -/
theorem gd_of_laid {W : World} (h : laidMetH Tryd.prog Rows.cpusetOfRow.laid W) : Gd W := by
  rw [MakeChecks.laidMetH_plain _ _ _ (by kernel_rfl)] at h
  have h1 : Db W := Lib.tabIs_of_head (rest := _) (g := 0) (t := 83) (e := 5) (n := 32) (by kernel_rfl) (by kernel_rfl) Tryd.underlying83 Tryd.underlying5 (by kernel_rfl) (by kernel_rfl) h
  have hr := h.tail.tail.tail
  have hs := hr.tail
  obtain ⟨a1, s1, e1, _⟩ := laid_sentinel hr (g := 4) (ti := 77) (tp := 121) (te := 123) (ts := 9) (by kernel_rfl) (by kernel_rfl) Tryd.underlying77 name_err Tryd.underlying121 Tryd.underlying123 rfl rfl Tryd.underlying9 (by kernel_rfl) (by kernel_rfl)
  obtain ⟨a2, s2, e2, _⟩ := laid_sentinel hs (g := 3) (ti := 77) (tp := 121) (te := 123) (ts := 9) (by kernel_rfl) (by kernel_rfl) Tryd.underlying77 name_err Tryd.underlying121 Tryd.underlying123 rfl rfl Tryd.underlying9 (by kernel_rfl) (by kernel_rfl)
  have c1 := World.var?_cell (show Tryd.prog.globalNamed "strconv.ErrRange" = some 4 by kernel_rfl) e1 0
  have c2 := World.var?_cell (show Tryd.prog.globalNamed "strconv.ErrSyntax" = some 3 by kernel_rfl) e2 0
  exact ⟨h1, ⟨_, _, by simpa using c2⟩, ⟨_, _, by simpa using c1⟩⟩

end Go.Proofs.YtbmlhodglemplaaDoor
