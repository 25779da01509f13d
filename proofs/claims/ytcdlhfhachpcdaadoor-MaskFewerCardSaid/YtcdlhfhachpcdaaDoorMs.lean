/-
  The landed mask: the closure that looks for a choice, and calls itself; its map. No statement is proved here.
-/
import Derived.Test.YtcdlhfhachpcdaaDoorMq
import Derived.Test.YtcdlhfhachpcdaaDoorMr
import Derived.Maps.OwnSet
import Derived.Maps.OwnOps
import Derived.Maps.Views
namespace Go.Proofs.YtcdlhfhachpcdaaDoor
open Go.RowKit Go.Maps

theorem ints_at {l : List Nat} {k : Nat} {v : Value} (h : (vs (ints l))[k]? = some v) : ∃ x, l[k]? = some x ∧ v = .int .i64 (x : Int) := by
  obtain ⟨z, h1, rfl⟩ := vs_at h
  unfold ints at h1
  rw [List.getElem?_map] at h1
  cases hx : l[k]? with
  | none => rw [hx] at h1; simp at h1
  | some x => rw [hx] at h1; simp at h1; exact ⟨x, rfl, by rw [← h1]⟩
theorem mem_ints (a : Nat) : mem (a : Int) = ints (memN a) := by
  unfold mem memb ints memN
  rw [List.filter_map]
  congr 1
  apply List.filter_congr
  intro i hi
  exact has_bit (List.mem_range.1 hi)

/-! ### the map -/
def keyL (s : Nat) : Lit := .int .u32 (s : Int)
theorem key_law : Keyed Tryd.prog 23 := int_keyed Tryd.underlying23
theorem key_of {s : Nat} (h : s < 256) : keyOf Tryd.prog 23 (.int .u32 (s : Int)) = some (keyL s) := keyOf_int_mk Tryd.underlying23 (WalkArith.wf_u32 (by omega))
theorem zero_int (w : World) : (zeroValue 3).run Tryd.prog w = .ok (.int .i64 0) w := by kernel_rfl
def Rep (D : DataW Unit) (F : Nat → Option Int) : Prop := ∀ s : Nat, D.atKey (keyL s) (.lit (.int .i64 0)) = .lit (.int .i64 ((F s).getD 0)) ∧ Maps.has D (keyL s) = (F s).isSome
theorem rep_empty : Rep (.map []) fun _ => none := fun s => ⟨atKey_of_not_has (by simp [has_eq]) _, by simp [has_eq]⟩
theorem key_ne {s t : Nat} (h : t ≠ s) : keyL t ≠ keyL s := fun e => by
  unfold keyL at e
  injection e with _ e
  omega
theorem rep_put {D : DataW Unit} {F : Nat → Option Int} (h : Rep D F) (hD : IsMap D) (s : Nat) (v : Int) : Rep (D.put (keyL s) (.lit (.int .i64 v))) (upd F s v) := fun t => by
  by_cases e : t = s
  · subst e
    rw [upd_same, atKey_put_same hD (by trivial), has_put_same hD (by trivial)]
    exact ⟨rfl, rfl⟩
  · rw [upd_other e, atKey_put_other (key_ne e), has_put_other (key_ne e)]
    exact h t
theorem rep_look {D : DataW Unit} {F : Nat → Option Int} (h : Rep D F) {s : Nat} {c : Int} (hat : D.atKey (keyL s) (.lit (.int .i64 0)) = .lit (.int .i64 c)) : c = (F s).getD 0 := by
  rw [(h s).1] at hat
  injection hat with hat
  injection hat with _ hat
  exact hat.symm
abbrev MapW (w : World) (bm n : Nat) (D : DataW Unit) : Prop := w.ownsMap Tryd.prog 23 (plainElem (H := Unit) Tryd.prog 3) bm n D

/-! ### where all of it lies -/
def lookClo (bl bf bk : Nat) : Value := .func (.func 46) #[] #[.pointer (some ⟨bl, 0, none⟩), .pointer (some ⟨bf, 0, none⟩), .pointer (some ⟨bk, 0, none⟩)]
structure Lies (bl bm bf bk : Nat) (A : Option Addr) (N c : Nat) (l : List (Int × Int)) (w : World) : Prop where
  atL : Blk w bl 37 #[.slice A N c]
  atF : Blk w bf 66 #[.map (some bm)]
  atK : Blk w bk 72 #[lookClo bl bf bk]
  row : Reads w bm 2 A N (mvs l)
  db : Db w
  size : bm < w.heap.size
  glob : 0 < bm
theorem below_of_grown {w w' : World} {b : Nat} (h : w.grownBy w' (some b)) (hb : b ≤ w.heap.size) : Below b w w' := ⟨h.os, h.tape, h.output, h.size, fun k hk => h.block k (by omega) (by intro e; injection e with e; omega)⟩
theorem grown_of_below {w w' : World} (h : Below w.heap.size w w') (row : Option Nat) : w.grownBy w' row := ⟨h.os, h.tape, h.output, h.size, fun k hk _ => h.block k hk⟩
theorem grown_trans {a b c : World} {row : Option Nat} (h : a.grownBy b row) (h' : b.grownBy c row) : a.grownBy c row :=
  ⟨h'.os.trans h.os, h'.tape.trans h.tape, h'.output.trans h.output, Nat.le_trans h.size h'.size, fun k hk hne => (h'.block k (Nat.lt_of_lt_of_le hk h.size) hne).trans (h.block k hk hne)⟩
theorem Lies.grown {bl bm bf bk : Nat} {A : Option Addr} {N c : Nat} {l : List (Int × Int)} {w w' : World} (h : Lies bl bm bf bk A N c l w) (hg : w.grownBy w' (some bm)) (h1 : bl < bm) (h2 : bm < bf) (h3 : bm < bk) : Lies bl bm bf bk A N c l w' :=
  ⟨h.atL.grown hg (by simp; omega), h.atF.grown hg (by simp; omega), h.atK.grown hg (by simp; omega), h.row.below (below_of_grown hg (Nat.le_of_lt h.size)), h.db.below (below_of_grown hg (Nat.le_of_lt h.size)) h.glob, Nat.lt_of_lt_of_le h.size hg.size, h.glob⟩
theorem mask_cells {w : World} {B n : Nat} {ad : Addr} {l : List (Int × Int)} (h : Reads w B 2 (some ad) n (mvs l)) {k : Nat} {x y : Int} (hk : l[k]? = some (x, y)) :
    w.cell? (ad.add (k * 2)) = some (.int .u32 x) ∧ w.cell? ⟨(ad.add (k * 2)).block, (ad.add (k * 2)).off + 1, none⟩ = some (.int .u32 y) := by
  obtain ⟨ad', e, _, h1, h2⟩ := mask_at h hk
  obtain rfl := Option.some.inj e
  exact ⟨h1, h2⟩
theorem own_grown {w w' : World} {base n size b : Nat} {e : TypeId} {v : Value} {xs : List Value} (h : w.ownsRow base e size v n xs) (hg : w.grownBy w' (some b)) (hb : b < base) : w'.ownsRow base e size v n xs := by
  refine h.kept hg ?_
  rcases hv : v.ownBlock with _ | k
  · exact .inl rfl
  · exact .inr (by have := (h.lt k hv).1; simp; omega)

/-- what a call of the closure comes to -/
def LookSaid (H : List Nat) (N bm K p left : Nat) (F : Nat → Option Int) (n : Nat) (b : Bool) (w : World) (e : Ending) (w' : World) : Prop :=
  e = .returned (.bool b) ∧ w.grownBy w' (some bm) ∧ ∃ (D' : DataW Unit) (F' : Nat → Option Int) (n' : Nat), n' ≤ n + costN K ∧ MapW w' bm n' D' ∧ Rep D' F' ∧ Good H N (K + 1) F' ∧ Ext (K + 1) F F' ∧ (p < H.length → ∃ v : Int, F' left = some v ∧ (b = true → ∃ c : Nat, v = (c : Int)))
abbrev lookArgs (bl bf bk : Nat) (p : Int) (left : Nat) : Array Value := #[.int .i64 p, .int .u32 (left : Int), .pointer (some ⟨bl, 0, none⟩), .pointer (some ⟨bf, 0, none⟩), .pointer (some ⟨bk, 0, none⟩)]

section
variable (bl bm bf bk : Nat) (A : Option Addr) (M c : Nat) (l : List (Int × Int)) (N : Nat)

set_option maxRecDepth 100000 in
set_option maxHeartbeats 4000000 in
/-- all masks have theirs -/
theorem look_all (K p left : Nat) (F : Nat → Option Int) (D : DataW Unit) (n : Nat) (w : World) (S : Lies bl bm bf bk A M c l w) (hM : MapW w bm n D) (hRep : Rep D F) (hG : Good (hards l) N (K + 1) F) (hp : p = M) (hl : l.length = M) :
    Calls Tryd.prog 46 (lookArgs bl bf bk p left) w (LookSaid (hards l) N bm K p left F n (fitsN ((hards l).drop p) left) w) := by
  have hlen : (hards l).length = p := by rw [length_hards]; omega
  have hf : fitsN ((hards l).drop p) left = true := by rw [← hlen, List.drop_length]; rfl
  rw [hf]
  have HE := Lib.hid (show LookSaid (hards l) N bm K p left F n true w (.returned (.bool true)) w from ⟨rfl, World.grownBy.refl _ _, D, F, n, Nat.le_add_right _ _, hM, hRep, hG, Ext.refl _ _, fun h => by omega⟩)
  have c0 : w.cell? ⟨bl, 0, none⟩ = some (.slice A M c) := S.atL.cell 0
  have hz : ((p : Int) == (M : Int)) = true := by simp; omega
  clear hf hlen S hM hRep hG hp hl
  go_enter Tryd.func46, Tryd.ntmps46
  go_wp2
  go_ret
  exact HE.out

set_option maxRecDepth 100000 in
set_option maxHeartbeats 4000000 in
/-- a set that was looked for -/
theorem look_memo (K p left : Nat) (F : Nat → Option Int) (D : DataW Unit) (n : Nat) (w : World) (S : Lies bl bm bf bk A M c l w) (hM : MapW w bm n D) (hRep : Rep D F) (hG : Good (hards l) N (K + 1) F) (hp : p < M) (hl : l.length = M) (h8 : left < 256) (hK : popN left = K) (hN : p + K = N)
    {v : Int} (hv : F left = some v) :
    Calls Tryd.prog 46 (lookArgs bl bf bk p left) w (LookSaid (hards l) N bm K p left F n (fitsN ((hards l).drop p) left) w) := by
  obtain ⟨m, hm⟩ := elem_at (l := l) (k := p) (by omega)
  have hd := hards_drop hm
  have hq : fitsN ((hards l).drop p) left = !(v == -1) ∧ (fitsN ((hards l).drop p) left = true → ∃ c : Nat, v = (c : Int)) := by
    rw [hd]
    rcases good_memo hG hK hN hd hv with ⟨rfl, h⟩ | ⟨c, rfl, h, _⟩
    · rw [h]; exact ⟨rfl, fun h => by cases h⟩
    · rw [h]; exact ⟨by simp <;> omega, fun _ => ⟨c, rfl⟩⟩
  have HE := Lib.hid (show LookSaid (hards l) N bm K p left F n (fitsN ((hards l).drop p) left) w (.returned (.bool (fitsN ((hards l).drop p) left))) w from ⟨rfl, World.grownBy.refl _ _, D, F, n, Nat.le_add_right _ _, hM, hRep, hG, Ext.refl _ _, fun _ => ⟨v, hv, hq.2⟩⟩)
  generalize LookSaid (hards l) N bm K p left F n (fitsN ((hards l).drop p) left) w = Q at *
  have HQ := Lib.hid hq.1
  have c0 : w.cell? ⟨bl, 0, none⟩ = some (.slice A M c) := S.atL.cell 0
  have c1 : w.cell? ⟨bf, 0, none⟩ = some (.map (some bm)) := S.atF.cell 0
  have hz : ((p : Int) == (M : Int)) = false := by simp; omega
  have HKEY := Lib.hid (key_of h8)
  have HR := Lib.hid hRep
  have hh : Maps.has D (keyL left) = true := by rw [(hRep left).2, hv]; rfl
  have HM := Lib.hid hM
  have HV := Lib.hid (show (F left).getD 0 = v by rw [hv]; rfl)
  clear hq hd hm S hM hRep hG hp hl h8 hK hN hv
  go_enter Tryd.func46, Tryd.ntmps46
  go_wp2_with (at_lookup; refine wpList_lookup_own_ok_int _ rfl _ _ 66 rfl 23 3 .i64 key_law Tryd.underlying66 Tryd.underlying3 (zero_int _) bm n D rfl HM.out _ (keyL left) rfl HKEY.out ?_; intro cv hat _; obtain rfl : cv = v := (rep_look HR.out hat).trans HV.out; clear hat)
  have := HE.out
  rw [HQ.out] at this
  exact this
end

end Go.Proofs.YtcdlhfhachpcdaaDoor
