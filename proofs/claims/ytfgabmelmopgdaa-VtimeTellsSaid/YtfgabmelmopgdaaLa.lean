/-
  The landed frac: isWeight, bounded, checkAll. No statement is proved here.
-/
import Derived.Test.YtfgabmelmopgdaaFs
namespace Go.Proofs.Ytfgabmelmopgdaa
open Go.RowKit

set_option maxRecDepth 100000 in
set_option maxHeartbeats 400000 in
theorem weight_any (x : Nat) (w : World) : Calls Try.prog 80 #[.int .u64 (x : Int)] w fun e w' => e = .returned (.bool (weightB x)) ∧ w = w' := by
  by_cases h1 : 1 ≤ x
  · by_cases h2 : x ≤ 65535
    · have H := Lib.hid (weightB_yes h1 h2)
      have g1 : (1 : Int) ≤ (x : Int) := by omega
      have g2 : (x : Int) ≤ 65535 := by omega
      clear h1 h2
      go_enter Try.func80, Try.ntmps80
      go_wp2
      go_ret
      exact ⟨retB H.out.symm, rfl⟩
    · have H := Lib.hid (weightB_no (x := x) (.inr (by omega)))
      have g1 : (1 : Int) ≤ (x : Int) := by omega
      have g2 : ¬ (x : Int) ≤ 65535 := by omega
      clear h1 h2
      go_enter Try.func80, Try.ntmps80
      go_wp2
      go_ret
      exact ⟨retB H.out.symm, rfl⟩
  · have H := Lib.hid (weightB_no (x := x) (.inl (by omega)))
    have g1 : ¬ (1 : Int) ≤ (x : Int) := by omega
    clear h1
    go_enter Try.func80, Try.ntmps80
    go_wp2
    go_ret
    exact ⟨retB H.out.symm, rfl⟩

set_option maxRecDepth 100000 in
theorem retI {k : IntKind} {a b : Int} (h : a = b) : Ending.returned (.int k a) = .returned (.int k b) := by rw [h]
/-- a wide number, as a value -/
def wd2 (h l : Nat) : Array Value := #[.int .u64 (h : Int), .int .u64 (l : Int)]

set_option maxRecDepth 100000 in
set_option maxHeartbeats 1000000 in
theorem bounded_any (h l x : Nat) (w : World) : Calls Try.prog 64 #[.agg #[.int .u64 (h : Int), .int .u64 (l : Int)], .int .u64 (x : Int)] w
    (Said (if h < 68719476736 then .tuple #[.agg (fr h l x), .int .i64 0] else .tuple #[.agg (fr 0 0 0), .int .i64 131]) w) := by
  unfold fr
  by_cases hh : h < 68719476736
  · rw [if_pos hh]
    have g : decide ((68719476736 : Int) ≤ (h : Int)) = false := by simp; omega
    clear hh
    go_enter Try.func64, Try.ntmps64
    go_wp2
    exact bodyPost_ret (v := .tuple #[.agg #[.int .u64 (h : Int), .int .u64 (l : Int), .int .u64 (x : Int)], .int .i64 0]) (by simp [results, Try.results64, go_sem]) rfl ⟨rfl, ((Below.refl _ _).alloc (Nat.le_refl _) _).alloc (by simp) _⟩
  · rw [if_neg hh]
    have g : decide ((68719476736 : Int) ≤ (h : Int)) = true := by simp; omega
    clear hh
    go_enter Try.func64, Try.ntmps64
    go_wp2
    exact bodyPost_ret (v := .tuple #[.agg #[.int .u64 0, .int .u64 0, .int .u64 0], .int .i64 131]) (by simp [results, Try.results64, go_sem]) rfl ⟨rfl, ((Below.refl _ _).alloc (Nat.le_refl _) _).alloc (by simp) _⟩

/-! ### a row of fractions -/
set_option maxRecDepth 100000 in
theorem block_of_add (a : Addr) (n : Nat) : (a.add n).block = a.block := by unfold Addr.add; split <;> rfl
set_option maxRecDepth 100000 in
theorem add_of_add (a : Addr) (i j : Nat) : (a.add i).add j = a.add (i + j) := by
  unfold Addr.add
  by_cases hi : i = 0 <;> by_cases hj : j = 0 <;> simp [hi, hj, Nat.add_assoc]

/-- the fractions l, as they lie from A on, below block B -/
def Frow (w : World) (B : Nat) (A : Option Addr) (l : List (Nat × Nat × Nat)) : Prop :=
  ∀ (k a b x : Nat), l[k]? = some (a, b, x) → ∃ ad, A = some ad ∧ ad.block < B ∧ w.cell? (ad.add (k * 3)) = some (.int .u64 (a : Int)) ∧
    w.cell? ⟨(ad.add (k * 3)).block, (ad.add (k * 3)).off + 1, none⟩ = some (.int .u64 (b : Int)) ∧ w.cell? ⟨(ad.add (k * 3)).block, (ad.add (k * 3)).off + 2, none⟩ = some (.int .u64 (x : Int))
set_option maxRecDepth 100000 in
theorem Frow.keep {w w' : World} {B : Nat} {A : Option Addr} {l : List (Nat × Nat × Nat)} (h : Frow w B A l) (hk : ∀ p : Addr, p.block < B → w'.cell? p = w.cell? p) : Frow w' B A l := fun k a b x hx => by
  obtain ⟨ad, e, hb, c0, c1, c2⟩ := h k a b x hx
  have hb' : (ad.add (k * 3)).block < B := by rw [block_of_add]; exact hb
  exact ⟨ad, e, hb, (hk _ hb').trans c0, (hk ⟨_, _, none⟩ hb').trans c1, (hk ⟨_, _, none⟩ hb').trans c2⟩
set_option maxRecDepth 100000 in
theorem Frow.below {w w' : World} {B B' : Nat} {A : Option Addr} {l : List (Nat × Nat × Nat)} (h : Frow w B A l) (hb : Below B' w w') (hB : B ≤ B') : Frow w' B A l := h.keep fun _ hp => hb.cell (Nat.lt_of_lt_of_le hp hB)
set_option maxRecDepth 100000 in
theorem Frow.more {w : World} {B B' : Nat} {A : Option Addr} {l : List (Nat × Nat × Nat)} (h : Frow w B A l) (hB : B ≤ B') : Frow w B' A l := fun k a b x hx => by
  obtain ⟨ad, e, hb, c⟩ := h k a b x hx
  exact ⟨ad, e, by omega, c⟩

/-- may all of them be? -/
def allB (l : List (Nat × Nat × Nat)) : Bool := l.all fun f => rightB f.1 f.2.2
def allE (l : List (Nat × Nat × Nat)) : Int := if allB l = true then 0 else 150
set_option maxRecDepth 100000 in
theorem all_no {l : List (Nat × Nat × Nat)} {k a b x : Nat} (hk : l[k]? = some (a, b, x)) (h : rightB a x = false) : allE l = 150 := by
  unfold allE
  rw [if_neg]
  intro ha
  unfold allB at ha
  rw [List.all_eq_true] at ha
  have := ha _ (List.mem_of_getElem? hk)
  rw [h] at this
  cases this
set_option maxRecDepth 100000 in
theorem all_yes {l : List (Nat × Nat × Nat)} (h : allB (l.take l.length) = true) : allE l = 0 := by
  rw [List.take_length] at h
  exact if_pos h
set_option maxRecDepth 100000 in
theorem all_step {l : List (Nat × Nat × Nat)} {k a b x : Nat} (hk : l[k]? = some (a, b, x)) (h : rightB a x = true) (ht : allB (l.take k) = true) : allB (l.take (k + 1)) = true := by
  unfold allB at ht ⊢
  rw [List.take_add_one, hk, List.all_append, ht]
  simp [h]
set_option maxRecDepth 100000 in
theorem all_bare : allB (([] : List (Nat × Nat × Nat)).take 0) = true := rfl

set_option maxRecDepth 100000 in
set_option maxHeartbeats 4000000 in
theorem checkall_any (A : Option Addr) (n c : Nat) (l : List (Nat × Nat × Nat)) (w : World) (hl : l.length = n) (hn : n ≤ maxLen) (hr : Frow w w.heap.size A l) :
    Calls Try.prog 49 #[.slice A n c] w (Said (.int .i64 (allE l)) w) := by
  unfold maxLen at hn
  have HR := Lib.hid hr
  have HL := Lib.hid hl
  have HW := Lib.hid (fun x u => weight_any x u)
  clear hr hl
  go_enter Try.func49, Try.ntmps49
  go_wp2_with fail
  go_loopw [7] (fun i wr => ∃ k : Nat, k ≤ n ∧ i = .int .i64 k ∧ Hid (allB (l.take k) = true) ∧ Below w.heap.size w wr) (fun i _ => n - (intOf i).toNat)
  case atStart => exact ⟨0, by omega, rfl, Lib.hid (by rw [List.take_zero]; rfl), Below.refl _ _⟩
  case round =>
    obtain ⟨k, hk, rfl, HA, hB⟩ := hrel
    by_cases hlt : k < n
    · obtain ⟨⟨a, b, x⟩, hm⟩ : ∃ m, l[k]? = some m := ⟨_, List.getElem?_eq_getElem (by have := HL.out; omega)⟩
      obtain ⟨ad, rfl, hb, d0, d1, d2⟩ := (HR.out.below hB (Nat.le_refl _)) k a b x hm
      have HM := Lib.hid hm
      have hsz := hB.size
      clear hm
      by_cases hh : a < 68719476736
      · have g : decide ((68719476736 : Int) ≤ (a : Int)) = false := by simp; omega
        cases hw : weightB x with
        | true =>
          have HS := Lib.hid (all_step HM.out (by unfold rightB; rw [hw]; simp [hh]) HA.out)
          have HWx := Lib.hid (fun u => hw ▸ HW.out x u)
          clear hh hw
          go_wp2_with fail
          refine (HWx.out _).mono ?_
          rintro e w' ⟨rfl, rfl⟩
          go_wp2
          go_roundw
          case rel => exact ⟨k + 1, by omega, by go_num, HS, hB.alloc hsz _⟩
          case measure => simp [intOf]; omega
        | false =>
          have HV := Lib.hid (all_no HM.out (by unfold rightB; rw [hw]; rfl))
          have HWx := Lib.hid (fun u => hw ▸ HW.out x u)
          clear hh hw
          go_wp2_with fail
          refine (HWx.out _).mono ?_
          rintro e w' ⟨rfl, rfl⟩
          go_wp2
          go_ret
          exact ⟨retI HV.out.symm, hB.alloc hsz _⟩
      · have g : decide ((68719476736 : Int) ≤ (a : Int)) = true := by simp; omega
        have HV := Lib.hid (all_no HM.out (by unfold rightB; simp [hh]))
        clear hh
        go_wp2
        go_ret
        exact ⟨retI HV.out.symm, hB.alloc hsz _⟩
    · obtain rfl : n = k := by omega
      have HV := Lib.hid (all_yes (l := l) (by rw [HL.out]; exact HA.out))
      go_wp2
      go_ret
      exact ⟨retI HV.out.symm, hB⟩

end Go.Proofs.Ytfgabmelmopgdaa
