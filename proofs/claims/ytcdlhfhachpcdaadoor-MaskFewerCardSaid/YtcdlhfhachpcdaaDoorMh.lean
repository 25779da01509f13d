/-
  What lies behind a row's first mask; a set without a pCPU. No statement is proved here.
-/
import Derived.Test.YtcdlhfhachpcdaaDoorMg
namespace Go.Proofs.YtcdlhfhachpcdaaDoor
open Go.RowKit

theorem reads_rest {w : World} {B n : Nat} {ad : Addr} {m : Int × Int} {T : List (Int × Int)} (h : Reads w B 2 (some ad) (n + 1) (mvs (m :: T))) : Reads w B 2 (some (ad.add 2)) n (mvs T) := by
  have hd : mvs T = (mvs (m :: T)).drop 2 := (mvs_drop (m :: T) 1).symm
  refine ⟨by have := h.1; rw [hd, List.length_drop]; omega, fun _ => ?_⟩
  obtain ⟨ad', e, hb, hc⟩ := h.2 (by omega)
  obtain rfl := Option.some.inj e
  refine ⟨_, rfl, by rw [block_of_add]; exact hb, fun j u hj => ?_⟩
  have e : (ad.add 2).add j = ad.add (2 + j) := by
    cases j with
    | zero => rfl
    | succ j => exact (add_past ad 2 j).symm
  rw [e]
  refine hc (2 + j) u ?_
  rwa [hd, List.getElem?_drop] at hj
theorem MAt.rest {w : World} {n c : Nat} {ad : Addr} {m : Int × Int} {T : List (Int × Int)} (h : MAt w (some ad) (n + 1) (c + 1) (m :: T)) : MAt w (some (ad.add 2)) n c T :=
  ⟨reads_rest h.1, by have := h.2.1; omega, by have := h.2.2.1; omega, fun k m' hk => h.2.2.2.1 (k + 1) m' (by simpa using hk), h.2.2.2.2⟩
def outB (S k : Nat) : Bool := if S.testBit k then S &&& (4294967295 - 2 ^ k) == S - 2 ^ k else true
theorem out_all : (List.range 256).all (fun S => (List.range 8).all fun k => outB S k) = true := by decide +kernel
theorem out_bit {S k : Nat} (hS : S < 256) (hk : k < 8) (hb : S.testBit k = true) : bits .andNot .u32 (S : Int) (2 ^ k) = ((S - 2 ^ k : Nat) : Int) := by
  have h1 := List.all_eq_true.1 out_all S (List.mem_range.2 hS)
  have h2 := List.all_eq_true.1 h1 k (List.mem_range.2 hk)
  unfold outB at h2
  rw [if_pos hb, beq_iff_eq] at h2
  have hp : (2 : Nat) ^ k ≤ 2 ^ 8 := Nat.pow_le_pow_right (by omega) (by omega)
  have e : ((2 : Int) ^ k) = ((2 ^ k : Nat) : Int) := by push_cast; rfl
  rw [e, u32_andNot_nat S (2 ^ k) (by omega) (by omega), h2]

end Go.Proofs.YtcdlhfhachpcdaaDoor
