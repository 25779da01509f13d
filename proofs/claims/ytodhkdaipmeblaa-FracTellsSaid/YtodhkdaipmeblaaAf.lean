/-
  Arguments of this seat's statements: fractions and numbers of 64 bits, opened, and read again behind the call. No statement is proved here.
-/
import Derived.Test.YtodhkdaipmeblaaEnd
import Derived.Deep.Slices
import Derived.Deep.Fields
import Derived.Lib.SmallJoins
namespace Go.Proofs.Ytodhkdaipmeblaa
open Go.Joins Go.ChangeShapes Go.WideShapes Go.ChangeAt Go.RowKit Go.Deep

theorem laidOut : laidOutB Try.prog = true := by kernel_rfl

section
variable {H : Type} {enc : TypeId × Value → H} {W : World}
theorem arg_stays {t : TypeId} (hr : Try.prog.readableRec t = true) (hrow : t < Try.prog.types.size) {W' : World} {v : Value} {d : DataW H} {ps : List MemPlace}
    (h : DataW.Trod enc Try.prog W 0 (fun _ => true) true t v d ps) (hb : Below W.heap.size W W') (hlt : ∀ x ∈ ps, x.block < W.heap.size) {sp : Nat → Bool} (hsp : ∀ x ∈ ps, sp x.block = true) :
    DataW.Trod enc Try.prog W' 0 sp true t v d ps :=
  WideElems.Trod_stays laidOut hr hrow h (fun x hx => hb.same (hlt x hx)) (fun x hx => hsp x hx)
theorem u64_of {x : Int} (h : Lit.wf (.int .u64 x) = true) : ∃ n : Nat, x = (n : Int) ∧ n < 18446744073709551616 := by
  have hx : 0 ≤ x ∧ x ≤ 18446744073709551615 := by simpa [Lit.wf, IntKind.min, IntKind.max, IntKind.signed, IntKind.bits] using h
  obtain ⟨n, rfl⟩ := Int.eq_ofNat_of_zero_le hx.1
  exact ⟨n, rfl, by omega⟩
theorem open_u64 {r : Reach} {b0 : Nat} {v : Value} {d : DataW H} {p : List MemPlace} (hv : Value.okWide Try.prog W r b0 22 v) (h : DataW.Trod enc Try.prog W 0 (fun _ => true) true 22 v d p) :
    ∃ n : Nat, v = .int .u64 (n : Int) ∧ n < 18446744073709551616 := by
  obtain ⟨t, rfl, rfl, rfl, wt⟩ := open_int Try.underlying22 hv h
  obtain ⟨n, rfl, h1⟩ := u64_of wt
  exact ⟨n, rfl, h1⟩
theorem cells_frac : Try.prog.cellsOf 26 = 3 := by kernel_rfl
theorem cells_wide : Try.prog.cellsOf 24 = 2 := by kernel_rfl
theorem cells_u64 : Try.prog.cellsOf 22 = 1 := by kernel_rfl
theorem one_of {base : Nat} {spare : Nat → Bool} {held : Bool} {fuel : Nat} {c : Value} {x : DataW H × List MemPlace} (h : DataW.trod enc Try.prog W base spare held fuel 22 [c] = some x) : ∃ n : Nat, c = .int .u64 (n : Int) ∧ n < 18446744073709551616 := by
  obtain ⟨z, e, rfl, wz⟩ := DataW.trod_int Try.underlying22 h
  obtain ⟨n, rfl, h1⟩ := u64_of wz
  exact ⟨n, by simpa using e, h1⟩
theorem frac_cells {base : Nat} {spare : Nat → Bool} {held : Bool} {fuel : Nat} {cs : List Value} {x : DataW H × List MemPlace} (h : DataW.trod enc Try.prog W base spare held fuel 26 cs = some x) :
    ∃ a b c : Nat, cs = [.int .u64 (a : Int), .int .u64 (b : Int), .int .u64 (c : Int)] ∧ a < 18446744073709551616 ∧ b < 18446744073709551616 ∧ c < 18446744073709551616 := by
  obtain ⟨xs, n, rfl, _, hlen, hxl, hf⟩ := DataW.trod_struct Try.underlying26 h
  rw [cells_frac] at hlen
  match cs, hlen with
  | [c0, c1, c2], _ =>
    match xs, hxl with
    | [y0, y1], _ =>
      have h0 : DataW.trod enc Try.prog W base spare held n 24 (([c0, c1, c2].drop 0).take (Try.prog.cellsOf 24)) = some y0 := hf 0 _ rfl
      have h1 : DataW.trod enc Try.prog W base spare held n 22 (([c0, c1, c2].drop 2).take (Try.prog.cellsOf 22)) = some y1 := hf 1 _ rfl
      rw [cells_wide] at h0
      rw [cells_u64] at h1
      have h0 : DataW.trod enc Try.prog W base spare held n 24 [c0, c1] = some y0 := h0
      have h1 : DataW.trod enc Try.prog W base spare held n 22 [c2] = some y1 := h1
      obtain ⟨zs, m, rfl, _, _, hzl, hg⟩ := DataW.trod_struct Try.underlying24 h0
      match zs, hzl with
      | [z0, z1], _ =>
        have g0 : DataW.trod enc Try.prog W base spare held m 22 (([c0, c1].drop 0).take (Try.prog.cellsOf 22)) = some z0 := hg 0 _ rfl
        have g1 : DataW.trod enc Try.prog W base spare held m 22 (([c0, c1].drop 1).take (Try.prog.cellsOf 22)) = some z1 := hg 1 _ rfl
        rw [cells_u64] at g0 g1
        have g0 : DataW.trod enc Try.prog W base spare held m 22 [c0] = some z0 := g0
        have g1 : DataW.trod enc Try.prog W base spare held m 22 [c1] = some z1 := g1
        obtain ⟨a, rfl, ha⟩ := one_of g0
        obtain ⟨b, rfl, hb⟩ := one_of g1
        obtain ⟨c, rfl, hc⟩ := one_of h1
        exact ⟨a, b, c, rfl, ha, hb, hc⟩
theorem open_frac {r : Reach} {b0 : Nat} {v : Value} {d : DataW H} {p : List MemPlace} (hv : Value.okWide Try.prog W r b0 26 v) (h : DataW.Trod enc Try.prog W 0 (fun _ => true) true 26 v d p) :
    ∃ a b c : Nat, v = .agg #[.int .u64 (a : Int), .int .u64 (b : Int), .int .u64 (c : Int)] ∧ a < 18446744073709551616 ∧ b < 18446744073709551616 ∧ c < 18446744073709551616 := by
  obtain ⟨cs, rfl, hsz⟩ := okWide_struct Try.underlying26 hv
  obtain ⟨fuel, hf⟩ := h
  obtain ⟨a, b, c, e, ha, hb, hc⟩ := frac_cells hf
  obtain ⟨l⟩ := cs
  simp only [Value.cells] at e
  exact ⟨a, b, c, by rw [show l = _ from e], ha, hb, hc⟩
end

end Go.Proofs.Ytodhkdaipmeblaa
