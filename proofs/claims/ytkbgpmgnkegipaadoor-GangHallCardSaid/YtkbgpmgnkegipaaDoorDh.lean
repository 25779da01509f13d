/-
  The document's Stuck. No statement is proved here.
-/
import Derived.Test.YtkbgpmgnkegipaaDoorDg
namespace Go.Proofs.YtkbgpmgnkegipaaDoor
open Go.RowKit Go.Maps

theorem lev_none (l : List Int) (n : Nat) : (lev n 0).find? (stuckB l) = none := by
  show [([] : List Int)].find? (stuckB l) = none
  rw [List.find?_cons]
  have : stuckB l [] = false := by unfold stuckB; simp
  rw [this]
  rfl
theorem stuck_levels {l : List Int} {n : Nat} (hl : l.length = n) (h : setsB l = true) : stuckL l = ((List.range (n + 1)).findSome? fun k => (lev n k).find? (stuckB l)).getD [] := by
  unfold stuckL selL selTo
  rw [if_pos h, hl, List.find?_flatMap]
theorem stuck_hit {l : List Int} {n j : Nat} {M : List Int} (hl : l.length = n) (h : setsB l = true) (hj : j ≤ n) (hp : ∀ k, k < j → (lev n k).find? (stuckB l) = none) (hM : (lev n j).find? (stuckB l) = some M) : stuckL l = M := by
  rw [stuck_levels hl h]
  obtain ⟨t, ht⟩ : ∃ t, List.range (n + 1) = List.range j ++ j :: t := by
    refine ⟨(List.range (n + 1)).drop (j + 1), ?_⟩
    have h1 : (List.range (n + 1)).take j = List.range j := by rw [List.take_range]; congr 1; omega
    rw [← h1]
    have h2 : (List.range (n + 1)).drop j = j :: (List.range (n + 1)).drop (j + 1) := by
      rw [List.drop_eq_getElem_cons (by rw [List.length_range]; omega), List.getElem_range]
    rw [← h2, List.take_append_drop]
  rw [ht, List.findSome?_append, List.findSome?_eq_none_iff.2 (fun k hk => hp k (List.mem_range.1 hk)), List.findSome?_cons, hM]
  rfl
theorem stuck_miss {l : List Int} {n : Nat} (hl : l.length = n) (h : setsB l = true) (hp : ∀ k, k < n + 1 → (lev n k).find? (stuckB l) = none) : stuckL l = [] := by
  rw [stuck_levels hl h, List.findSome?_eq_none_iff.2 (fun k hk => hp k (List.mem_range.1 hk))]
  rfl
/-- numbers that a call answers -/
def IRes (l : List Int) (w : World) (e : Ending) (w' : World) : Prop := ∃ A n c, e = .returned (.slice A n c) ∧ IR w' A n l ∧ Below w.heap.size w w'
theorem ir_none (w : World) : IR w none 0 [] := ⟨Reads.none_, by omega⟩

set_option maxRecDepth 100000 in
set_option maxHeartbeats 8000000 in
theorem rstucks_any (A : Option Addr) (n c : Nat) (l : List Int) (w : World) (hG : SW w A n l) :
    Calls Tryd.prog 10 #[.slice A n c] w (IRes (stuckL l) w) := by
  have HM := Lib.hid (rmasks_any A n c l w hG)
  have HL := Lib.hid hG.len
  cases hs : setsB l with
  | false =>
    have HV : Hid (stuckL l = []) := Lib.hid (by unfold stuckL; rw [if_neg (by rw [hs]; simp)])
    rw [hs] at HM
    clear hs hG
    go_enter Tryd.func10, Tryd.ntmps10
    go_wp2_with fail
    refine HM.out.mono ?_
    rintro e w1 ⟨rfl, rfl⟩
    go_wp2_with fail
    go_ret
    exact ⟨none, 0, 0, rfl, by rw [HV.out]; exact ir_none _, Below.refl _ _⟩
  | true =>
    rw [hs] at HM
    have HS := Lib.hid hs
    have hs2 := hs
    unfold setsB at hs2
    rw [Bool.and_eq_true, decide_eq_true_eq, List.all_eq_true] at hs2
    have h256 : ∀ x ∈ l, x < 256 := fun x hx => by have := hs2.2 x hx; unfold smallB at this; simpa using this
    have hn8 : n ≤ 8 := by have := hs2.1; have := HL.out; omega
    have HN8 := Lib.hid hn8
    have HC := Lib.hid (fun (d : Nat) (u : World) (h : Below w.heap.size w u) (hd : d ≤ 100) => rstuck_any A n c l hG.len hn8 h256 d u [] none 0 0 (hG.below h) (ir_none u) (rising_nil n) (by omega))
    clear hs hs2 h256 hn8 hG
    go_enter Tryd.func10, Tryd.ntmps10
    go_wp2_with fail
    refine HM.out.mono ?_
    rintro e w1 ⟨rfl, rfl⟩
    go_wp2_with fail
    go_loopw [3] (fun iv wr => ∃ j : Nat, 1 ≤ j ∧ j ≤ n + 1 ∧ iv = .int .i64 (j : Int) ∧ Hid (∀ k, k < j → (lev n k).find? (stuckB l) = none) ∧ Hid (Below w.heap.size w wr)) (fun iv _ => n + 1 - (intOf iv).toNat)
    case atStart => exact ⟨1, Nat.le_refl _, by omega, rfl, Lib.hid (fun k hk => by rw [show k = 0 by omega]; exact lev_none l n), Lib.hid (Below.refl _ _)⟩
    case round =>
      obtain ⟨j, h1, hj, rfl, HNO, HB⟩ := hrel
      by_cases hjn : j ≤ n
      · have HJN : Hid (1 ≤ j ∧ j ≤ n) := Lib.hid ⟨h1, hjn⟩
        have HCj := Lib.hid (HC.out j wr HB.out (by have := HN8.out; omega))
        rw [Nat.zero_add, ← lev_desc] at HCj
        have j100 : j < 100 := by have := HN8.out; omega
        have l1 : decide ((j : Int) ≤ (n : Int)) = true := decide_eq_true (by omega)
        have l1n : decide (j ≤ n) = true := decide_eq_true hjn
        clear hjn h1 hj
        go_wp2_with fail
        refine HCj.out.mono ?_
        rintro e w6 ⟨h6, hres⟩
        have HB6 := Lib.hid (HB.out.trans (h6.mono HB.out.size))
        clear h6
        cases hr : (lev n j).find? (stuckB l) with
        | none =>
          rw [hr] at hres
          obtain rfl := hres
          have HN : Hid (∀ k, k < j + 1 → (lev n k).find? (stuckB l) = none) := Lib.hid (fun k hk => by
            rcases Nat.lt_or_ge k j with h | h
            · exact HNO.out k h
            · rw [show k = j by omega, hr])
          have hnil := nil_none'
          clear hr l1 l1n
          go_wp2_with fail
          clear hnil
          go_roundw
          case rel => exact ⟨j + 1, by omega, by have := HJN.out; omega, by go_num, HN, HB6⟩
          case measure => have := HJN.out; simp [intOf] <;> omega
        | some M =>
          rw [hr] at hres
          obtain ⟨A6, n6, c6, rfl, hI6⟩ := hres
          have HE := Lib.hid (stuck_hit HL.out HS.out HJN.out.2 HNO.out hr)
          have HI6 := Lib.hid hI6
          have hnil := nil_some'
          clear hr hI6 l1 l1n
          go_wp2_with fail
          go_ret
          exact ⟨some A6, n6, c6, rfl, by rw [HE.out]; exact HI6.out, HB6.out⟩
      · obtain rfl : j = n + 1 := by omega
        have l1 : decide (((n + 1 : Nat) : Int) ≤ (n : Int)) = false := decide_eq_false (by omega)
        have l1n : decide (n + 1 ≤ n) = false := decide_eq_false (by omega)
        have l1m : decide ((n : Int) + 1 ≤ (n : Int)) = false := decide_eq_false (by omega)
        have HE := Lib.hid (stuck_miss HL.out HS.out HNO.out)
        clear hjn
        go_wp2_with fail
        go_ret
        exact ⟨none, 0, 0, rfl, by rw [HE.out]; exact ir_none _, HB.out⟩

end Go.Proofs.YtkbgpmgnkegipaaDoor
