/-
  The contract of the statements' own wakes: it answers true, and turns nothing that was there. No statement is proved here.
-/
import Derived.Test.YtifclmmfnfppiaaOctU
namespace Go.Proofs.Ytifclmmfnfppiaa
open Go.RowKit

theorem lead_wake (w : World) : Calls Try.prog 16 #[.slice (some ⟨w.heap.size, 0, none⟩) 3 3] (w.alloc (.cells #[.int .u8 0, .int .u8 0, .int .u8 1] 5))
    fun e w' => e = .returned (.int .i64 2) ∧ w.alloc (.cells #[.int .u8 0, .int .u8 0, .int .u8 1] 5) = w' :=
  lead_any (some ⟨w.heap.size, 0, none⟩) 3 3 [0, 0, 1] _ rfl (Own.reads (base := 0) (own_lit w 0 [0, 0, 1] (Nat.zero_le _) (by decide))) (by omega)

set_option maxHeartbeats 1000000 in
theorem wakes_any (w : World) : Calls Try.prog 9 #[] w fun e w' => e = .returned (.bool true) ∧ Below w.heap.size w w' := by
  have hput : Calls Try.prog 11 #[.slice (some ⟨w.heap.size, 0, none⟩) 1 1, .int .u32 65537] (w.alloc (.cells #[.int .u8 8] 5)) (Gives (w.alloc (.cells #[.int .u8 8] 5)) 5 [8, 0, 1, 0, 1]) :=
    put32_any (some ⟨w.heap.size, 0, none⟩) 1 1 [8] 65537 _ rfl (Own.reads (base := 0) (own_lit w 0 [8] (Nat.zero_le _) (by decide))) (by omega) (by omega)
  have HP := Lib.hid hput
  clear hput
  go_enter Try.func9, Try.ntmps9
  go_wp2_with fail
  refine HP.out.mono ?_
  rintro e w1 ⟨A1, c1, rfl, hO, hB⟩
  have hR1 := hO.reads
  obtain ⟨ad, v2, hA, _, hx2, hc2⟩ := hR1.at_ (k := 2) (by omega)
  obtain ⟨ad', v4, hA', _, hx4, hc4⟩ := hR1.at_ (k := 4) (by omega)
  obtain rfl : ad = ad' := by rw [hA] at hA'; injection hA' with h
  subst hA
  obtain rfl : v2 = .int .u8 1 := by simpa [bs] using hx2.symm
  obtain rfl : v4 = .int .u8 1 := by simpa [bs] using hx4.symm
  clear hA' hx2 hx4
  have hlt : ad.block < w1.heap.size := (hO.fresh ad rfl).2.1
  obtain ⟨g, rfl⟩ : ∃ g, ad = ⟨g, 0, none⟩ := ⟨_, (hO.fresh ad rfl).2.2.2⟩
  have HR := Lib.hid (read_any (some ⟨g, 0, none⟩) 5 c1 [8, 0, 1, 0, 1] w1 rfl hR1 (by omega))
  go_wp2_with fail
  refine HR.out.mono ?_
  rintro e w2 ⟨p, rfl, hp, hRd, hB2⟩
  have d2 : w2.cell? ⟨g, 2, none⟩ = some (.int .u8 1) := (hB2.cell (p := ⟨g, 2, none⟩) hlt).trans (by simpa [Addr.add] using hc2)
  have d4 : w2.cell? ⟨g, 4, none⟩ = some (.int .u8 1) := (hB2.cell (p := ⟨g, 4, none⟩) hlt).trans (by simpa [Addr.add] using hc4)
  have HU : Calls Try.prog 20 #[.pointer (some ⟨p, 0, none⟩)] w2 fun e w' => e = .returned (.int .u8 8) ∧ Rd w' p [0, 1, 0, 1] 0 ∧ w2.grownBy w' (some p) := u8_ok p [8, 0, 1, 0, 1] w2 hRd (by decide)
  have HU1 := Lib.hid HU
  clear HU HR hO hR1 hc2 hc4
  go_wp2_with fail
  refine HU1.out.mono ?_
  rintro e w3 ⟨rfl, hRd3, hg3⟩
  have HW : Calls Try.prog 27 #[.pointer (some ⟨p, 0, none⟩)] w3 fun e w' => e = .returned (.bool false) ∧ w3 = w' := whole_any p [0, 1, 0, 1] 0 w3 hRd3
  have HW1 := Lib.hid HW
  clear HW HU1
  go_wp2_with fail
  refine HW1.out.mono ?_
  rintro e w' ⟨rfl, rfl⟩
  have HV : Calls Try.prog 23 #[.pointer (some ⟨p, 0, none⟩)] w3 fun e w' => e = .returned (.int .u32 65537) ∧ Rd w' p [] 0 ∧ w3.grownBy w' (some p) := u32_ok p [0, 1, 0, 1] w3 hRd3 (by decide)
  have HV1 := Lib.hid HV
  clear HV HW1
  go_wp2_with fail
  refine HV1.out.mono ?_
  rintro e w4 ⟨rfl, hRd4, hg4⟩
  have HW : Calls Try.prog 27 #[.pointer (some ⟨p, 0, none⟩)] w4 fun e w' => e = .returned (.bool true) ∧ w4 = w' := whole_any p [] 0 w4 hRd4
  have HW1 := Lib.hid HW
  clear HW HV1
  go_wp2_with fail
  refine HW1.out.mono ?_
  rintro e w' ⟨rfl, rfl⟩
  have HL := Lib.hid (lead_wake w4)
  clear HW1
  go_wp2_with fail
  refine HL.out.mono ?_
  rintro e w' ⟨rfl, rfl⟩
  go_wp2
  go_ret
  refine ⟨rfl, ?_⟩
  have b1 : Below w.heap.size w w2 := (((Below.refl _ _).alloc (Nat.le_refl _) _).trans (hB.mono (by simp))).trans (hB2.mono (by have := hB.size; simp at this; omega))
  have b3 : Below w.heap.size w w3 := b1.grown hg3 b1.size (by rintro k ⟨rfl⟩; have := hB.size; simp at this; omega)
  have b4 : Below w.heap.size w w4 := b3.grown hg4 b3.size (by rintro k ⟨rfl⟩; have := hB.size; simp at this; omega)
  exact b4.alloc b4.size _

end Go.Proofs.Ytifclmmfnfppiaa
