/-
  What is asked of the landed pool, as words: the statements' walks lean on these alone; the statements' wakes. G: what each world of a call keeps (the library's table, or nothing). No statement is proved here.
-/
import Derived.Test.YtnckfgnhlnichaaDoorVg
import Derived.Test.YtnckfgnhlnichaaDoorVi
namespace Go.Proofs.YtnckfgnhlnichaaDoor
open Go.RowKit

/-- what lies below stays, so G does -/
def Steady (G : World → Prop) : Prop := ∀ u u' : World, G u → Below u.heap.size u u' → G u'
/-- pools, where they lie -/
def PAt (G : World → Prop) (u : World) (A : Option Addr) (n c : Nat) (l : List Nat) : Prop := Reads u u.heap.size 1 A n (us l) ∧ n ≤ c ∧ n ≤ 1000 ∧ U32s l ∧ G u
theorem PAt.len {G : World → Prop} {u : World} {A : Option Addr} {n c : Nat} {l : List Nat} (h : PAt G u A n c l) : l.length = n := usets_len h.1
theorem PAt.below {G : World → Prop} (hG : Steady G) {u u' : World} {A : Option Addr} {n c : Nat} {l : List Nat} (h : PAt G u A n c l) (hb : Below u.heap.size u u') : PAt G u' A n c l :=
  ⟨(h.1.below hb).more hb.size, h.2.1, h.2.2.1, h.2.2.2.1, hG _ _ h.2.2.2.2 hb⟩
/-- pools that a call laid in memory of their own -/
theorem PAt.own {G : World → Prop} {u : World} {base n c : Nat} {e : TypeId} {A : Option Addr} {l : List Nat} (h : u.ownsRow base e 1 (.slice A n c) n (us l)) (hn : n ≤ 1000) (hU : U32s l) (hg : G u) : PAt G u A n c l := by
  obtain ⟨A2, c2, e2, hc, hr⟩ := own_reads h
  injection e2 with e3 e4 e5
  subst e3 e5
  exact ⟨hr, hc, hn, hU, hg⟩
/-- bytes, where they lie -/
def BAt (G : World → Prop) (u : World) (A : Option Addr) (n c : Nat) (bs : List Nat) : Prop := Reads u u.heap.size 1 A n (ub bs) ∧ n ≤ c ∧ n ≤ 400 ∧ (∀ x ∈ bs, x < 256) ∧ G u
theorem BAt.len {G : World → Prop} {u : World} {A : Option Addr} {n c : Nat} {l : List Nat} (h : BAt G u A n c l) : l.length = n := ubytes_len h.1
theorem BAt.below {G : World → Prop} (hG : Steady G) {u u' : World} {A : Option Addr} {n c : Nat} {l : List Nat} (h : BAt G u A n c l) (hb : Below u.heap.size u u') : BAt G u' A n c l :=
  ⟨(h.1.below hb).more hb.size, h.2.1, h.2.2.1, h.2.2.2.1, hG _ _ h.2.2.2.2 hb⟩
/-- a call answers bytes and a word -/
def GivesB (r : List Nat × Int) (w : World) (e : Ending) (w' : World) : Prop :=
  ∃ A c, e = .returned (.tuple #[.slice A r.1.length c, .int .i64 r.2]) ∧ r.1.length ≤ c ∧ Reads w' w'.heap.size 1 A r.1.length (ub r.1) ∧ Below w.heap.size w w'

/-! ### what the landed calls answer -/
def newR (k : Int) : List Nat × Int := if 1 ≤ k ∧ k ≤ 8 then ([2 ^ k.toNat - 1], 0) else ([], 2)
def orK (l : List Nat) : Nat → Nat
  | 0 => 0
  | k + 1 => orK l k ||| l.getD k 0
def cpusR (l : List Nat) : Nat := if rightP l = true then orK l l.length else 0
def ofR (l : List Nat) (k : Int) : Int × Bool := if rightP l = true then ofV l k else (0, false)
def setR (l : List Nat) (k : Int) : Nat := if rightP l = true ∧ poolB l k = true then l.getD k.toNat 0 else 0
def splitR (l : List Nat) (f : Int) (s : Nat) : List Nat × Int × Int := if rightP l = true then splitV l f s else ([], 0, 180)
def joinR (l : List Nat) (p i : Int) : List Nat × Int := if rightP l = true then joinV l p i else ([], 180)
def moveR (l : List Nat) (c t : Int) : List Nat × Int × Int := if rightP l = true then moveV l c t else ([], 0, 180)
def encR (l : List Nat) : List Nat × Int := if rightP l = true then (bytesP l, 0) else ([], 180)

section
variable (G : World → Prop)
def PCheckOk : Prop := ∀ (A : Option Addr) (n c : Nat) (l : List Nat) (u : World), PAt G u A n c l → Calls Tryd.prog 12 #[.agg #[.slice A n c]] u (Said (.int .i64 (if rightP l = true then 0 else 180)) u)
def PNewOk : Prop := ∀ (k : Int) (u : World), G u → Calls Tryd.prog 5 #[.int .i64 k] u (GivesP2 (newR k) u)
def PCpusOk : Prop := ∀ (A : Option Addr) (n c : Nat) (l : List Nat) (u : World), PAt G u A n c l → Calls Tryd.prog 6 #[.agg #[.slice A n c]] u (Said (.int .u32 (cpusR l : Nat)) u)
def POfOk : Prop := ∀ (A : Option Addr) (n c : Nat) (l : List Nat) (k : Int) (u : World), PAt G u A n c l → Calls Tryd.prog 17 #[.agg #[.slice A n c], .int .i64 k] u (Said (.tuple #[.int .i64 (ofR l k).1, .bool (ofR l k).2]) u)
def PSetOk : Prop := ∀ (A : Option Addr) (n c : Nat) (l : List Nat) (k : Int) (u : World), PAt G u A n c l → Calls Tryd.prog 15 #[.agg #[.slice A n c], .int .i64 k] u (Said (.int .u32 (setR l k : Nat)) u)
def PSplitOk : Prop := ∀ (A : Option Addr) (n c : Nat) (l : List Nat) (f : Int) (s : Nat) (u : World), PAt G u A n c l → s < 4294967296 → Calls Tryd.prog 9 #[.agg #[.slice A n c], .int .i64 f, .int .u32 (s : Int)] u (GivesP3 (splitR l f s) u)
def PJoinOk : Prop := ∀ (A : Option Addr) (n c : Nat) (l : List Nat) (p i : Int) (u : World), PAt G u A n c l → Calls Tryd.prog 14 #[.agg #[.slice A n c], .int .i64 p, .int .i64 i] u (GivesP2 (joinR l p i) u)
def PMoveOk : Prop := ∀ (A : Option Addr) (n c : Nat) (l : List Nat) (k t : Int) (u : World), PAt G u A n c l → Calls Tryd.prog 10 #[.agg #[.slice A n c], .int .i64 k, .int .i64 t] u (GivesP3 (moveR l k t) u)
end

theorem new_value : newR 4 = ([15], 0) := by decide +kernel
theorem split_value : splitR [15] 0 12 = ([3, 12], 1, 0) := by decide +kernel
theorem move_value : moveR [3, 12] 2 0 = ([7, 8], 1, 0) := by decide +kernel
theorem last_value : moveR [7, 8] 3 0 = ([], 0, 181) := by decide +kernel
theorem small_u32 {l : List Nat} (h : l.all (fun x => decide (x < 256)) = true) : U32s l := fun x hx => by
  have := List.all_eq_true.1 h x hx
  simp only [decide_eq_true_eq] at this
  omega

set_option maxRecDepth 100000 in
set_option maxHeartbeats 4000000 in
theorem wakes_any {G : World → Prop} (hG : Steady G) (HN : PNewOk G) (HS : PSplitOk G) (HM : PMoveOk G) (w : World) (hg : G w) : Calls Tryd.prog 4 #[] w (Said (.bool true) w) := by
  have h1 := HN 4 w hg
  rw [new_value] at h1
  have h2 := fun (A : Option Addr) (c : Nat) (u : World) (h : PAt G u A 1 c [15]) => HS A 1 c [15] 0 12 u h (by omega)
  rw [split_value] at h2
  have h3 := fun (A : Option Addr) (c : Nat) (u : World) (h : PAt G u A 2 c [3, 12]) => HM A 2 c [3, 12] 2 0 u h
  rw [move_value] at h3
  have h4 := fun (A : Option Addr) (c : Nat) (u : World) (h : PAt G u A 2 c [7, 8]) => HM A 2 c [7, 8] 3 0 u h
  rw [last_value] at h4
  have H1 := Lib.hid h1
  have H2 := Lib.hid h2
  have H3 := Lib.hid h3
  have H4 := Lib.hid h4
  have HG := Lib.hid (fun (u : World) (h : Below w.heap.size w u) => hG w u hg h)
  clear h1 h2 h3 h4 hg hG
  go_enter Tryd.func4, Tryd.ntmps4
  go_wp2_with fail
  refine H1.out.mono ?_
  rintro e w1 ⟨A1, c1, rfl, own1, B1⟩
  rw [show ([15], (0 : Int)).1.length = 1 from rfl] at own1 ⊢
  have B1a := B1.alloc B1.size (.cells #[.slice A1 1 c1] 26)
  have At1 := Lib.hid (PAt.own (own1.alloc (.cells #[.slice A1 1 c1] 26)) (by omega) (small_u32 rfl) (HG.out _ B1a))
  clear own1 B1
  go_wp2_with fail
  refine (H2.out _ _ _ At1.out).mono ?_
  rintro e w2 ⟨A2, c2, rfl, own2, b2⟩
  rw [show ([3, 12], (1 : Int), (0 : Int)).1.length = 2 from rfl] at own2 ⊢
  have B2 := B1a.trans (b2.mono B1a.size)
  have B2a := B2.alloc B2.size (.cells #[.slice A2 2 c2] 26)
  have At2 := Lib.hid (PAt.own (own2.alloc (.cells #[.slice A2 2 c2] 26)) (by omega) (small_u32 rfl) (HG.out _ B2a))
  clear own2 b2 B2 B1a At1
  go_wp2_with fail
  refine (H3.out _ _ _ At2.out).mono ?_
  rintro e w3 ⟨A3, c3, rfl, own3, b3⟩
  rw [show ([7, 8], (1 : Int), (0 : Int)).1.length = 2 from rfl] at own3 ⊢
  have B3 := B2a.trans (b3.mono B2a.size)
  have B3a := B3.alloc B3.size (.cells #[.slice A3 2 c3] 26)
  have At3 := Lib.hid (PAt.own (own3.alloc (.cells #[.slice A3 2 c3] 26)) (by omega) (small_u32 rfl) (HG.out _ B3a))
  have K3 := Blk.new w3 26 #[.slice A3 2 c3]
  clear own3 b3 B3 B2a At2
  go_wp2_with fail
  refine (H4.out _ _ _ At3.out).mono ?_
  rintro e w4 ⟨A4, c4, rfl, own4, b4⟩
  rw [show (([], (0 : Int), (181 : Int)) : List Nat × Int × Int).1.length = 0 from rfl] at own4 ⊢
  have B4 := B3a.trans (b4.mono B3a.size)
  have B4a := Lib.hid (B4.alloc B4.size (.cells #[.slice A4 0 c4] 26))
  have K4 := (K3.below b4 K3.lt).alloc (.cells #[.slice A4 0 c4] 26)
  obtain ⟨ad, x, rfl, hb, hx, hc⟩ := uset_at (At3.out.1.below b4) (k := 0) (by omega)
  obtain rfl : 7 = x := by simpa using hx
  have d0 := K4.cell 0
  have d1 : (w4.alloc (.cells #[.slice A4 0 c4] 26)).cell? ad = some (.int .u32 7) := (World.cell?_alloc_lt w4 _ ad (by have := b4.size; omega)).trans hc
  clear own4 b4 B4 B3a At3 K3 K4 hc hx hb
  go_wp2
  go_ret
  exact ⟨rfl, B4a.out⟩

end Go.Proofs.YtnckfgnhlnichaaDoor
