/-
  The contracts of the document's own words on fractions: Weight, Right, bits, Number. No statement is proved here.
-/
import Derived.Test.YtodhkdaipmeblaaBd
namespace Go.Proofs.Ytodhkdaipmeblaa
open Go.RowKit

theorem retB {a b : Bool} (h : a = b) : Ending.returned (.bool a) = .returned (.bool b) := by rw [h]
def weightB (x : Nat) : Bool := decide (1 ≤ x) && decide (x ≤ 65535)
def rightB (h x : Nat) : Bool := weightB x && decide (h < 68719476736)
theorem weightB_true {x : Nat} (h : weightB x = true) : 1 ≤ x ∧ x ≤ 65535 := by unfold weightB at h; simpa using h
theorem weightB_yes {x : Nat} (h1 : 1 ≤ x) (h2 : x ≤ 65535) : weightB x = true := by unfold weightB; simp [h1, h2]
theorem weightB_no {x : Nat} (h : x < 1 ∨ 65535 < x) : weightB x = false := by
  unfold weightB
  rcases h with h | h
  · have : ¬ 1 ≤ x := by omega
    simp [this]
  · have : ¬ x ≤ 65535 := by omega
    simp [this]

set_option maxRecDepth 100000 in
set_option maxHeartbeats 400000 in
theorem rweight_any (x : Nat) (w : World) : Calls Try.prog 13 #[.int .u64 (x : Int)] w fun e w' => e = .returned (.bool (weightB x)) ∧ w = w' := by
  by_cases h1 : 1 ≤ x
  · by_cases h2 : x ≤ 65535
    · have H := Lib.hid (weightB_yes h1 h2)
      have g1 : (1 : Int) ≤ (x : Int) := by omega
      have g2 : (x : Int) ≤ 65535 := by omega
      clear h1 h2
      go_enter Try.func13, Try.ntmps13
      go_wp2
      go_ret
      exact ⟨retB H.out.symm, rfl⟩
    · have H := Lib.hid (weightB_no (x := x) (.inr (by omega)))
      have g1 : (1 : Int) ≤ (x : Int) := by omega
      have g2 : ¬ (x : Int) ≤ 65535 := by omega
      clear h1 h2
      go_enter Try.func13, Try.ntmps13
      go_wp2
      go_ret
      exact ⟨retB H.out.symm, rfl⟩
  · have H := Lib.hid (weightB_no (x := x) (.inl (by omega)))
    have g1 : ¬ (1 : Int) ≤ (x : Int) := by omega
    clear h1
    go_enter Try.func13, Try.ntmps13
    go_wp2
    go_ret
    exact ⟨retB H.out.symm, rfl⟩

/-- a value; what was there has not turned -/
def Said (v : Value) (w : World) (e : Ending) (w' : World) : Prop := e = .returned v ∧ Below w.heap.size w w'
/-- a fraction as a value -/
def fr (h l x : Nat) : Array Value := #[.int .u64 (h : Int), .int .u64 (l : Int), .int .u64 (x : Int)]

set_option maxRecDepth 100000 in
set_option maxHeartbeats 1000000 in
theorem rright_any (h l x : Nat) (w : World) : Calls Try.prog 10 #[.agg (fr h l x)] w (Said (.bool (rightB h x)) w) := by
  have HW := Lib.hid (fun u => rweight_any x u)
  unfold fr
  cases hb : weightB x with
  | true =>
    rw [hb] at HW
    by_cases hh : h < 68719476736
    · have HV : Hid (rightB h x = true) := Lib.hid (by unfold rightB; rw [hb]; simp [hh])
      have g : decide ((68719476736 : Int) ≤ (h : Int)) = false := by simp; omega
      have g2 : decide ((h : Int) < 68719476736) = true := by simp; omega
      clear hb hh
      go_enter Try.func10, Try.ntmps10
      go_wp2_with fail
      refine (HW.out _).mono ?_
      rintro e w' ⟨rfl, rfl⟩
      go_wp2
      go_ret
      exact ⟨retB (by rw [HV.out]), (Below.refl _ _).alloc (Nat.le_refl _) _⟩
    · have HV : Hid (rightB h x = false) := Lib.hid (by unfold rightB; rw [hb]; simp; omega)
      have g2 : decide ((h : Int) < 68719476736) = false := by simp; omega
      clear hb hh
      go_enter Try.func10, Try.ntmps10
      go_wp2_with fail
      refine (HW.out _).mono ?_
      rintro e w' ⟨rfl, rfl⟩
      go_wp2
      go_ret
      exact ⟨retB (by rw [HV.out]), (Below.refl _ _).alloc (Nat.le_refl _) _⟩
  | false =>
    rw [hb] at HW
    have HV : Hid (rightB h x = false) := Lib.hid (by unfold rightB; rw [hb]; rfl)
    clear hb
    go_enter Try.func10, Try.ntmps10
    go_wp2_with fail
    refine (HW.out _).mono ?_
    rintro e w' ⟨rfl, rfl⟩
    go_wp2
    go_ret
    exact ⟨retB (by rw [HV.out]), (Below.refl _ _).alloc (Nat.le_refl _) _⟩

set_option maxRecDepth 100000 in
set_option maxHeartbeats 1000000 in
theorem rbits_any (n : Nat) (w : World) (hn : n < 2 ^ 64) : Calls Try.prog 45 #[.int .u64 (n : Int)] w (Row (cellsOf n.testBit) w) := by
  have hz := zero_bits
  have HO := Lib.hid (fun u => of_low n u hn)
  clear hn
  go_enter Try.func45, Try.ntmps45
  go_wp2_with fail
  have F := Blk.new w 38 (cellsOf none_)
  have B0 : Below w.heap.size w (w.alloc (.cells (cellsOf none_) 38)) := (Below.refl _ _).alloc (Nat.le_refl _) _
  refine (HO.out _).mono ?_
  rintro e w2 ⟨rfl, h2⟩
  have F2 := F.below h2 F.lt
  have B2 := B0.trans (h2.mono B0.size)
  have HF := Lib.hid (F2.row (cs' := cellsOf n.testBit))
  clear F B0 h2
  go_wp2_with (refine wpList_store_row rfl 38 (.tmp 2) (.tmp 5) rfl _ _ rfl rfl _ _ F2 (size_bits _) (by rw [cellsOf_size, cellsOf_size]) (cellsOf_one _) ?_)
  exact bodyPost_ret (v := .agg (cellsOf n.testBit)) (results_cell_row Try.results45 _ _ _ _ _ _ _ rfl HF.out Try.underlying38 rfl (size_bits _)) rfl ⟨rfl, below_row B2 (Nat.le_refl _)⟩

end Go.Proofs.Ytodhkdaipmeblaa
