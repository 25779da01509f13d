/-
  The contract of the statements' own wakes, and what the rows' listed tables give. No statement is proved here.
-/
import Derived.Test.YtdoplpgmnoefeaaDoorTx
import Derived.Stop.LaidErr
import Derived.Lay
import Derived.MakeChecks
namespace Go.Proofs.YtdoplpgmnoefeaaDoor
open Go.RowKit

theorem wake_text : txt 1500000000 = [49, 46, 53] := by
  have h1 : Lib.decDigits 1500000000 = [49, 53, 48, 48, 48, 48, 48, 48, 48, 48] := by
    rw [Lib.decDigits_eq, show Lib.nDigits 1500000000 = 10 from Lib.nDigits_unique 9 _ (by omega) (by omega)]
    decide
  have h2 : Lib.decDigits 1 = [49] := Lib.decDigits_one (by omega)
  unfold txt fracL
  rw [if_neg (by omega)]
  simp only [show 1500000000 / 1000000000 = 1 from rfl, show 1500000000 % 1000000000 = 500000000 from rfl, show 1000000000 + 500000000 = 1500000000 from rfl, h1, h2]
  decide

set_option maxHeartbeats 1000000 in
theorem wakes_any (w : World) (hT : Tab w) : Calls Tryd.prog 10 #[] w fun e w' => e = .returned (.bool true) ∧ Below w.heap.size w w' := by
  have H1 := Lib.hid (fun u => two_of (a' := 5) (b' := 0) (add_any 2 3 u) (by decide) (by decide))
  have H2 := Lib.hid (fun u => two_of (a' := 0) (b' := 6) (add_any 1125899906842624 1 u) (by decide) (by decide))
  have H3 : Hid (∀ u, Tab u → Calls Tryd.prog 26 #[.int .i64 1500000000] u (Says [49, 46, 53] 0 u)) := Lib.hid (fun u hu => by
    have h := text_ok 1500000000 (by omega) u hu
    rw [wake_text] at h
    exact h)
  have HT := Lib.hid hT
  clear hT
  go_enter Tryd.func10, Tryd.ntmps10
  go_wp2_with fail
  refine (H1.out _).mono ?_
  rintro e w1 ⟨rfl, hb1⟩
  go_wp2_with fail
  refine (H2.out _).mono ?_
  rintro e w2 ⟨rfl, hb2⟩
  have b2 := hb1.trans (hb2.mono hb1.size)
  clear hb1 hb2
  go_wp2_with fail
  refine (H3.out _ (HT.out.below b2)).mono ?_
  rintro e w3 ⟨rfl, hb3⟩
  have b3 := b2.trans (hb3.mono b2.size)
  clear b2 hb3
  go_wp2
  go_ret
  exact ⟨rfl, b3⟩

/-- what the rows list gives the table -/
theorem tab_of_laid {W : World} (h : laidMetH Tryd.prog Rows.clockAddsRow.laid W) : Tab W := by
  rw [MakeChecks.laidMetH_plain _ _ _ (by kernel_rfl)] at h
  exact Lib.tabIs_of_head (rest := _) (g := 0) (t := 82) (e := 70) (n := 20) (by kernel_rfl) (by kernel_rfl) Tryd.underlying82 Tryd.underlying70 (by kernel_rfl) (by kernel_rfl) h.tail.tail

end Go.Proofs.YtdoplpgmnoefeaaDoor
