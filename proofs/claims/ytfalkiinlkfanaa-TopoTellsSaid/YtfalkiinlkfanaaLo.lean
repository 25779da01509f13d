/-
  The contracts of what the landed Near is put in order by: Compare, its closure, the library's stable sort of at most 8 numbers. No statement is proved here.
-/
import Derived.Test.YtfalkiinlkfanaaLm
import Derived.Test.YtfalkiinlkfanaaLe
import Derived.BigRegion
import Derived.Deep.RegionHeld3
namespace Go.Proofs.Ytfalkiinlkfanaa
open Go.RowKit

/-- the order of two numbers -/
def cmpN (x y : Int) : Int := if x < y then -1 else if y < x then 1 else 0
theorem cmpN_lt (x y : Int) : decide (cmpN x y < 0) = decide (x < y) := by
  unfold cmpN
  by_cases h : x < y
  · rw [if_pos h]; simp [h]
  · rw [if_neg h]
    split <;> simp [h]

set_option maxRecDepth 100000 in
set_option maxHeartbeats 400000 in
theorem nan_any (x : Int) (w : World) : Calls Try.prog 68 #[.int .i64 x] w fun e w' => e = .returned (.bool false) ∧ w = w' := by
  go_enter Try.func68, Try.ntmps68
  go_wp2
  go_ret
  exact ⟨retB (by simp), rfl⟩

set_option maxRecDepth 100000 in
set_option maxHeartbeats 1000000 in
theorem compare_any (x y : Int) (w : World) : Calls Try.prog 55 #[.int .i64 x, .int .i64 y] w fun e w' => e = .returned (.int .i64 (cmpN x y)) ∧ w = w' := by
  have H1 := Lib.hid (fun u => nan_any x u)
  have H2 := Lib.hid (fun u => nan_any y u)
  by_cases h : x < y
  · have HV : Hid (cmpN x y = -1) := Lib.hid (if_pos h)
    go_enter Try.func55, Try.ntmps55
    go_wp2_with fail
    refine (H1.out _).mono ?_
    rintro e w' ⟨rfl, rfl⟩
    go_wp2_with fail
    refine (H2.out _).mono ?_
    rintro e w' ⟨rfl, rfl⟩
    go_wp2
    go_ret
    exact ⟨retI HV.out.symm, rfl⟩
  · by_cases h2 : y < x
    · have HV : Hid (cmpN x y = 1) := Lib.hid (by unfold cmpN; rw [if_neg h, if_pos h2])
      go_enter Try.func55, Try.ntmps55
      go_wp2_with fail
      refine (H1.out _).mono ?_
      rintro e w' ⟨rfl, rfl⟩
      go_wp2_with fail
      refine (H2.out _).mono ?_
      rintro e w' ⟨rfl, rfl⟩
      go_wp2
      go_ret
      exact ⟨retI HV.out.symm, rfl⟩
    · have HV : Hid (cmpN x y = 0) := Lib.hid (by unfold cmpN; rw [if_neg h, if_neg h2])
      go_enter Try.func55, Try.ntmps55
      go_wp2_with fail
      refine (H1.out _).mono ?_
      rintro e w' ⟨rfl, rfl⟩
      go_wp2_with fail
      refine (H2.out _).mono ?_
      rintro e w' ⟨rfl, rfl⟩
      go_wp2
      go_ret
      exact ⟨retI HV.out.symm, rfl⟩

set_option maxRecDepth 100000 in
set_option maxHeartbeats 2000000 in
theorem near2_any (Bt Bc : Nat) (A : Option Addr) (n c : Nat) (l : List (Int × Int)) (cpu a b : Nat) (w : World) (K1 : Blk w Bt 27 #[.slice A n c]) (K2 : Blk w Bc 3 #[.int .i64 (cpu : Int)]) (hAt : At w A n c l) (hc : cpu < n) (ha : a < n) (hb : b < n) :
    Calls Try.prog 54 #[.int .i64 (a : Int), .int .i64 (b : Int), .pointer (some ⟨Bt, 0, none⟩), .pointer (some ⟨Bc, 0, none⟩)] w (Said (.int .i64 (cmpN (distN l cpu a) (distN l cpu b))) w) := by
  have HA := Lib.hid (fun u (h : Below w.heap.size w u) => (hAt.below h).dist (a := cpu) (b := a) hc ha)
  have HB := Lib.hid (fun u (h : Below w.heap.size w u) => (hAt.below h).dist (a := cpu) (b := b) hc hb)
  have HC := Lib.hid (fun u => compare_any (distN l cpu a) (distN l cpu b) u)
  have HK := Lib.hid (fun u (h : Below w.heap.size w u) => show u.cell? ⟨Bt, 0, none⟩ = some (.slice A n c) ∧ u.cell? ⟨Bc, 0, none⟩ = some (.int .i64 (cpu : Int)) from ⟨(K1.below h K1.lt).cell 0, (K2.below h K2.lt).cell 0⟩)
  generalize distN l cpu a = x at *
  generalize distN l cpu b = y at *
  generalize cmpN x y = z at *
  have B0 := Below.refl w.heap.size w
  have k0 := HK.out _ B0
  clear K1 K2 hAt hc ha hb
  go_enter Try.func54, Try.ntmps54
  go_upto_region 1 with fail
  have D1 := B0.drew
  have k1 := HK.out _ D1
  clear B0 k0
  go_region_held3 (fun w' => w'.cell? ⟨Bt, 0, none⟩ = some (.slice A n c) ∧ w'.cell? ⟨Bc, 0, none⟩ = some (.int .i64 (cpu : Int)))
    (first | exact k3 | exact k2 | exact k1)
    (first
      | (go_at_call 55; (with_reducible refine (HC.out _).mono ?_); rintro e w5 ⟨rfl, rfl⟩)
      | (go_at_call 48; (with_reducible refine (HB.out _ D2).mono ?_); rintro e w4 ⟨rfl, h4⟩; have D3 := D2.trans (h4.mono D2.size); have k3 := HK.out _ D3; clear h4)
      | (go_at_call 48; (with_reducible refine (HA.out _ D1).mono ?_); rintro e w3 ⟨rfl, h3⟩; have D2 := D1.trans (h3.mono D1.size); have k2 := HK.out _ D2; clear h3))
  go_wp2
  go_ret
  exact ⟨rfl, D3⟩

/-- a row of numbers, where it lies, that may be written -/
def Row (w : World) (ad : Addr) (n : Nat) (xs : List Int) : Prop := ad.block < w.heap.size ∧ xs.length = n ∧ ∀ (k : Nat) (x : Int), xs[k]? = some x → w.cell? (ad.add k) = some (.int .i64 x) ∧ w.frozen? (ad.add k) = false

end Go.Proofs.Ytfalkiinlkfanaa
