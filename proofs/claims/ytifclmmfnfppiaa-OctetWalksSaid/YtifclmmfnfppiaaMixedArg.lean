/-
  A Mixed number as an argument: opened and shut again. No statement is proved here.
-/
import Derived.Test.YtifclmmfnfppiaaEnd
import Derived.Lib.SmallJoins
namespace Go.Proofs.Ytifclmmfnfppiaa
open Go.ChangeShapes Go.WideShapes Go.ChangeAt Go.RowKit Go.Joins

theorem mixed_cells : Try.prog.cellsOf 53 = 2 := by kernel_rfl

section
variable {H : Type} {enc : TypeId × Value → H} {W : World} {base : Nat} {b : Nat} {sp : Nat → Bool} {hd : Bool}
theorem open_mixed {v : Value} {d : DataW H} {p : List MemPlace} (hv : Value.okWide Try.prog W .any base 53 v) (h : DataW.Trod enc Try.prog W b sp hd 53 v d p) :
    ∃ (x : Nat) (z : Int), v = .agg #[.int .u64 x, .int .i64 z] ∧ d = .agg [.lit (.int .u64 x), .lit (.int .i64 z)] ∧ p = [] ∧ (x : Int) ≤ 18446744073709551615 ∧ (Lit.int .i64 z).wf = true := by
  obtain ⟨c0, c1, y0, y1, m, rfl, rfl, rfl, hy0, hy1⟩ := open_agg2 Try.underlying53 (by kernel_rfl) mixed_cells hv h
  obtain ⟨a, e0, rfl, wa⟩ := DataW.trod_int Try.underlying23 hy0
  obtain ⟨z, e1, rfl, wz⟩ := DataW.trod_int Try.underlying3 hy1
  simp at e0 e1
  subst e0 e1
  have hx : 0 ≤ a ∧ a ≤ 18446744073709551615 := by simpa [Lit.wf, IntKind.min, IntKind.max, IntKind.signed, IntKind.bits] using wa
  obtain ⟨x, rfl⟩ := Int.eq_ofNat_of_zero_le hx.1
  exact ⟨x, z, rfl, rfl, rfl, hx.2, wz⟩
theorem shut_mixed {x : Nat} {z : Int} (hx : (x : Int) ≤ 18446744073709551615) (wz : (Lit.int .i64 z).wf = true) :
    DataW.Trod enc Try.prog W b sp hd 53 (.agg #[.int .u64 x, .int .i64 z]) (.agg [.lit (.int .u64 x), .lit (.int .i64 z)]) [] := by
  have wx : (Lit.int .u64 (x : Int)).wf = true := by
    simp [Lit.wf, IntKind.min, IntKind.max, IntKind.signed, IntKind.bits]; omega
  exact shut_agg2 (y0 := (.lit (.int .u64 x), [])) (y1 := (.lit (.int .i64 z), [])) Try.underlying53 (by kernel_rfl) mixed_cells ⟨1, by simp [DataW.trod, Try.underlying23, wx]⟩ ⟨1, by simp [DataW.trod, Try.underlying3, wz]⟩
end

end Go.Proofs.Ytifclmmfnfppiaa
