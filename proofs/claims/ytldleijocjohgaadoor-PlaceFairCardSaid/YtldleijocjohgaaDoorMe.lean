/-
  The contract of the document's Likes; what is asked of the landed mask, as words: the statements' walks lean on these alone. No statement is proved here.
-/
import Derived.Test.YtldleijocjohgaaDoorMc
import Derived.Test.YtldleijocjohgaaDoorMj
namespace Go.Proofs.YtldleijocjohgaaDoor
open Go.RowKit

/-- what a mask that may be allows, likes of a set -/
def alN (m : Int × Int) (s : Int) : Nat := m.1.toNat &&& s.toNat
def liN (m : Int × Int) (s : Int) : Nat := if 0 < alN m s &&& m.2.toNat then alN m s &&& m.2.toNat else alN m s
theorem alN_lt {m : Int × Int} {s : Int} (h : m.1 < 256) (h0 : 0 ≤ m.1) : alN m s < 256 := and_lt (by omega)
theorem liN_lt {m : Int × Int} {s : Int} (h : m.1 < 256) (h0 : 0 ≤ m.1) : liN m s < 256 := by
  unfold liN
  split
  · exact and_lt (alN_lt h h0)
  · exact alN_lt h h0

set_option maxRecDepth 100000 in
set_option maxHeartbeats 1000000 in
theorem rlikes_any (x y s : Int) (w : World) (hx : U32 x) (hy : U32 y) (hs : U32 s) (h8 : x < 256) : Calls Tryd.prog 54 #[.agg #[.int .u32 x, .int .u32 y], .int .u32 s] w (Said (.int .u32 (liN (x, y) s : Int)) w) := by
  have HB := Lib.hid ((Below.refl w.heap.size w).alloc (Nat.le_refl _) (.cells #[.int .u32 x, .int .u32 y] 41))
  have hv : bits .and .u32 x s = ((alN (x, y) s : Nat) : Int) := and_nat hx hs
  have ha : alN (x, y) s < 256 := alN_lt h8 hx.1
  have hv2 : bits .and .u32 ((alN (x, y) s : Nat) : Int) y = ((alN (x, y) s &&& y.toNat : Nat) : Int) := by
    have := and_nat (x := ((alN (x, y) s : Nat) : Int)) (y := y) ⟨by omega, by omega⟩ hy
    rwa [Int.toNat_natCast] at this
  obtain ⟨L, hL⟩ : ∃ L, liN (x, y) s = L := ⟨_, rfl⟩
  rw [hL]
  unfold liN at hL
  generalize alN (x, y) s = a at *
  have hL : (if 0 < a &&& y.toNat then a &&& y.toNat else a) = L := hL
  generalize a &&& y.toNat = b at *
  have HL := Lib.hid hL
  clear hL hx hy hs h8 ha
  by_cases hb : 0 < b
  · have q : decide ((0 : Int) < (b : Int)) = true := decide_eq_true (by omega)
    have HB2 := Lib.hid hb
    clear hb
    go_enter Tryd.func54, Tryd.ntmps54
    go_wp2
    go_ret
    exact ⟨retI (by rw [← HL.out, if_pos HB2.out]), HB.out⟩
  · have q : decide ((0 : Int) < (b : Int)) = false := decide_eq_false (by omega)
    have HB2 := Lib.hid hb
    clear hb
    go_enter Tryd.func54, Tryd.ntmps54
    go_wp2
    go_ret
    exact ⟨retI (by rw [← HL.out, if_neg (by have := HB2.out; omega)]), HB.out⟩

/-- a row of masks, where it lies -/
def MAt (u : World) (A : Option Addr) (n c : Nat) (l : List (Int × Int)) : Prop := Reads u u.heap.size 2 A n (mvs l) ∧ n ≤ c ∧ n ≤ 100 ∧ (∀ (k : Nat) (m : Int × Int), l[k]? = some m → UM m) ∧ Db u
theorem MAt.len {u : World} {A : Option Addr} {n c : Nat} {l : List (Int × Int)} (h : MAt u A n c l) : l.length = n := masks_len h.1
theorem MAt.below {u u' : World} {A : Option Addr} {n c : Nat} {l : List (Int × Int)} (h : MAt u A n c l) (hb : Below u.heap.size u u') : MAt u' A n c l := ⟨(h.1.below hb).more hb.size, h.2.1, h.2.2.1, h.2.2.2.1, h.2.2.2.2.below hb h.2.2.2.2.lt⟩
/-- a call answers numbers and a word -/
def GetsL (r : List Int × Int) (w : World) (e : Ending) (w' : World) : Prop :=
  ∃ A n c, e = .returned (.tuple #[.slice A n c, .int .i64 r.2]) ∧ n = r.1.length ∧ n ≤ c ∧ Reads w' w'.heap.size 1 A n (vs r.1) ∧ Below w.heap.size w w'
def allowsR (m : Int × Int) (s : Int) : Nat := if (rightM m && decide (s < 256)) = true then alN m s else 0
def likesR (m : Int × Int) (s : Int) : Nat := if (rightM m && decide (s < 256)) = true then liN m s else 0
def bestR (m : Int × Int) (s at' : Int) : Int × Bool := if hasB (allowsR m s : Int) at' = true then (at', true) else nextV (mem (likesR m s : Int)) (-1)
def choiceR (l : List (Int × Int)) (s : Int) : List Int × Int := if errM l s = 0 then (if mostN (hards l) s.toNat = l.length then (ints (firstL (hards l) s.toNat), 0) else ([], 4)) else ([], errM l s)
def fitsR (l : List (Int × Int)) (s : Int) : Bool := decide (errM l s = 0) && decide (mostN (hards l) s.toNat = l.length)
def mostR (l : List (Int × Int)) (s : Int) : Int × Int := if errM l s = 0 then ((mostN (hards l) s.toNat : Nat), 0) else (0, errM l s)

/-- what is asked of the landed calls -/
def MCheckOk : Prop := ∀ (x y : Int) (u : World), U32 x → U32 y → Calls Tryd.prog 61 #[.agg #[.int .u32 x, .int .u32 y]] u (Said (.int .i64 (if rightM (x, y) = true then 0 else 170)) u)
def MAllowsOk : Prop := ∀ (x y s : Int) (u : World), U32 x → U32 y → U32 s → Calls Tryd.prog 23 #[.agg #[.int .u32 x, .int .u32 y], .int .u32 s] u (Said (.int .u32 (allowsR (x, y) s : Int)) u)
def MLikesOk : Prop := ∀ (x y s : Int) (u : World), U32 x → U32 y → U32 s → Calls Tryd.prog 60 #[.agg #[.int .u32 x, .int .u32 y], .int .u32 s] u (Said (.int .u32 (likesR (x, y) s : Int)) u)
def MBestOk : Prop := ∀ (x y s a : Int) (u : World), Db u → U32 x → U32 y → U32 s → Calls Tryd.prog 49 #[.agg #[.int .u32 x, .int .u32 y], .int .u32 s, .int .i64 a] u (Said (.tuple #[.int .i64 (bestR (x, y) s a).1, .bool (bestR (x, y) s a).2]) u)

theorem choice_value : choiceR [(3, 0), (1, 0)] 3 = ([1, 0], 0) := by decide +kernel
theorem best_value : bestR (7, 4) 5 1 = (2, true) := by decide +kernel


end Go.Proofs.YtldleijocjohgaaDoor
