/-
  Guests as words: rows of domains and of virtual CPUs; which may be; what comes of them. No statement is proved here.
-/
import Derived.Test.YtknimnopopnbhaaTa
namespace Go.Proofs.Ytknimnopopnbhaa
open Go.RowKit

/-- a domain: Id, Weight, Cap, Pool -/
abbrev Dom : Type := Int × Int × Int × Int
/-- a virtual CPU: Id, Domain, and its mask -/
abbrev Vc : Type := Int × Int × Nat × Nat
def dv (d : Dom) : List Value := [.int .i64 d.1, .int .i64 d.2.1, .int .i64 d.2.2.1, .int .i64 d.2.2.2]
def cv (v : Vc) : List Value := [.int .i64 v.1, .int .i64 v.2.1, .int .u32 (v.2.2.1 : Int), .int .u32 (v.2.2.2 : Int)]
theorem length_dv (d : Dom) : (dv d).length = 4 := rfl
theorem length_cv (v : Vc) : (cv v).length = 4 := rfl
theorem dv_ones (l : List Dom) : ∀ u ∈ flat dv l, u.oneCell' = true := flat_all dv (fun a u hu => by
  simp only [dv, List.mem_cons, List.not_mem_nil, or_false] at hu
  rcases hu with rfl | rfl | rfl | rfl <;> rfl) l
theorem cv_ones (l : List Vc) : ∀ u ∈ flat cv l, u.oneCell' = true := flat_all cv (fun a u hu => by
  simp only [cv, List.mem_cons, List.not_mem_nil, or_false] at hu
  rcases hu with rfl | rfl | rfl | rfl <;> rfl) l
theorem doms_len {w : World} {B n : Nat} {A : Option Addr} {l : List Dom} (h : Reads w B 4 A n (flat dv l)) : l.length = n := by
  have := h.1
  rw [length_flat dv length_dv] at this
  omega
theorem vcs_len {w : World} {B n : Nat} {A : Option Addr} {l : List Vc} (h : Reads w B 4 A n (flat cv l)) : l.length = n := by
  have := h.1
  rw [length_flat cv length_cv] at this
  omega
theorem dom_at {w : World} {B n : Nat} {A : Option Addr} {l : List Dom} (h : Reads w B 4 A n (flat dv l)) {j : Nat} {a b c d : Int} (hj : l[j]? = some (a, b, c, d)) :
    ∃ ad, A = some ad ∧ ad.block < B ∧ w.cell? (ad.add (j * 4)) = some (.int .i64 a) ∧ w.cell? ⟨(ad.add (j * 4)).block, (ad.add (j * 4)).off + 1, none⟩ = some (.int .i64 b) ∧ w.cell? ⟨(ad.add (j * 4)).block, (ad.add (j * 4)).off + 2, none⟩ = some (.int .i64 c) ∧
      w.cell? ⟨(ad.add (j * 4)).block, (ad.add (j * 4)).off + 3, none⟩ = some (.int .i64 d) := by
  obtain ⟨ad, e, hb, hc⟩ := h.elem dv length_dv hj (by omega)
  have c1 := hc 1 _ rfl
  have c2 := hc 2 _ rfl
  have c3 := hc 3 _ rfl
  rw [add_past ad (j * 4) 0] at c1
  rw [add_past ad (j * 4) 1] at c2
  rw [add_past ad (j * 4) 2] at c3
  exact ⟨ad, e, hb, hc 0 _ rfl, c1, c2, c3⟩
theorem vc_at {w : World} {B n : Nat} {A : Option Addr} {l : List Vc} (h : Reads w B 4 A n (flat cv l)) {j : Nat} {a b : Int} {c d : Nat} (hj : l[j]? = some (a, b, c, d)) :
    ∃ ad, A = some ad ∧ ad.block < B ∧ w.cell? (ad.add (j * 4)) = some (.int .i64 a) ∧ w.cell? ⟨(ad.add (j * 4)).block, (ad.add (j * 4)).off + 1, none⟩ = some (.int .i64 b) ∧ w.cell? ⟨(ad.add (j * 4)).block, (ad.add (j * 4)).off + 2, none⟩ = some (.int .u32 (c : Int)) ∧
      w.cell? ⟨(ad.add (j * 4)).block, (ad.add (j * 4)).off + 3, none⟩ = some (.int .u32 (d : Int)) := by
  obtain ⟨ad, e, hb, hc⟩ := h.elem cv length_cv hj (by omega)
  have c1 := hc 1 _ rfl
  have c2 := hc 2 _ rfl
  have c3 := hc 3 _ rfl
  rw [add_past ad (j * 4) 0] at c1
  rw [add_past ad (j * 4) 1] at c2
  rw [add_past ad (j * 4) 2] at c3
  exact ⟨ad, e, hb, hc 0 _ rfl, c1, c2, c3⟩

/-- masks of 32 bits -/
def UV (l : List Vc) : Prop := ∀ v ∈ l, v.2.2.1 < 4294967296 ∧ v.2.2.2 < 4294967296
theorem UV.at_ {l : List Vc} (h : UV l) {k : Nat} {v : Vc} (hk : l[k]? = some v) : v.2.2.1 < 4294967296 ∧ v.2.2.2 < 4294967296 := h v (List.mem_of_getElem? hk)
/-- guests, where they lie -/
structure GR (w : World) (A : Option Addr) (n c : Nat) (ds : List Dom) (B : Option Addr) (m d : Nat) (us : List Vc) : Prop where
  doms : Reads w w.heap.size 4 A n (flat dv ds)
  vcs : Reads w w.heap.size 4 B m (flat cv us)
  nc : n ≤ c
  md : m ≤ d
  n9 : n ≤ 1000
  m9 : m ≤ 1000
  u : UV us
theorem GR.below {w w' : World} {A : Option Addr} {n c : Nat} {ds : List Dom} {B : Option Addr} {m d : Nat} {us : List Vc} (h : GR w A n c ds B m d us) (hb : Below w.heap.size w w') : GR w' A n c ds B m d us :=
  ⟨(h.doms.below hb).more hb.size, (h.vcs.below hb).more hb.size, h.nc, h.md, h.n9, h.m9, h.u⟩
theorem GR.len {w : World} {A : Option Addr} {n c : Nat} {ds : List Dom} {B : Option Addr} {m d : Nat} {us : List Vc} (h : GR w A n c ds B m d us) : ds.length = n ∧ us.length = m := ⟨doms_len h.doms, vcs_len h.vcs⟩

/-! ### what the document says -/
def rightD (d : Dom) : Bool := decide (1 ≤ d.1) && decide (d.1 ≤ 8) && decide (1 ≤ d.2.1) && decide (d.2.1 ≤ 65535) && decide (0 ≤ d.2.2.1) && decide (d.2.2.1 ≤ 800) && decide (0 ≤ d.2.2.2) && decide (d.2.2.2 ≤ 3)
def rightK (h s : Nat) : Bool := decide (h < 256) && decide (s < 256) && decide (0 < h)
def zeroD : Dom := (0, 0, 0, 0)
def zeroV : Vc := (0, 0, 0, 0)
def domF (ds : List Dom) (id : Int) : Option Dom := ds.find? fun d => d.1 == id
def vcF (us : List Vc) (id : Int) : Option Vc := us.find? fun v => v.1 == id
/-- what there is of a number, or noughts; and whether -/
def domV (ds : List Dom) (id : Int) : Dom × Bool := match domF ds id with
  | some d => (d, true)
  | none => (zeroD, false)
def vcV (us : List Vc) (id : Int) : Vc × Bool := match vcF us id with
  | some v => (v, true)
  | none => (zeroV, false)
def ofL (us : List Vc) (dom : Int) : List Int := (us.filter fun v => v.2.1 == dom).map fun v => v.1
def inL (ds : List Dom) (us : List Vc) (pool : Int) : List Int := (us.filter fun v => (domV ds v.2.1).1.2.2.2 == pool).map fun v => v.1
def domOk (ds : List Dom) (us : List Vc) (i : Nat) : Bool := rightD (ds.getD i zeroD) && (decide (i = 0) || decide ((ds.getD (i - 1) zeroD).1 < (ds.getD i zeroD).1)) && decide ((ofL us (ds.getD i zeroD).1).length ≤ 8)
def vcOk (ds : List Dom) (us : List Vc) (i : Nat) : Bool := decide (1 ≤ (us.getD i zeroV).1) && decide ((us.getD i zeroV).1 ≤ 16) && (domV ds (us.getD i zeroV).2.1).2 && rightK (us.getD i zeroV).2.2.1 (us.getD i zeroV).2.2.2 &&
  (decide (i = 0) || decide ((us.getD (i - 1) zeroV).1 < (us.getD i zeroV).1))
/-- of the first k -/
def allK (f : Nat → Bool) : Nat → Bool
  | 0 => true
  | k + 1 => allK f k && f k
theorem allK_step {f : Nat → Bool} {k : Nat} (h : allK f k = true) (hf : f k = true) : allK f (k + 1) = true := by unfold allK; rw [h, hf]; rfl
theorem allK_no {f : Nat → Bool} {k m : Nat} (hk : k < m) (h : f k = false) : allK f m = false := by
  induction m with
  | zero => omega
  | succ m ih =>
    unfold allK
    by_cases e : k = m
    · subst e; rw [h, Bool.and_false]
    · rw [ih (by omega), Bool.false_and]
theorem allK_iff {f : Nat → Bool} {m : Nat} : allK f m = true ↔ ∀ k, k < m → f k = true := by
  induction m with
  | zero => simp [allK]
  | succ m ih =>
    unfold allK
    rw [Bool.and_eq_true, ih]
    constructor
    · rintro ⟨h1, h2⟩ k hk
      by_cases e : k = m
      · subst e; exact h2
      · exact h1 k (by omega)
    · exact fun h => ⟨fun k hk => h k (by omega), h m (by omega)⟩
/-- may guests be? -/
def rightG (ds : List Dom) (us : List Vc) : Bool := decide (ds.length ≤ 8) && decide (us.length ≤ 16) && allK (domOk ds us) ds.length && allK (vcOk ds us) us.length
def sameG (ds : List Dom) (us : List Vc) (ds' : List Dom) (us' : List Vc) : Bool := decide (ds = ds') && decide (us = us')
/-- domains by rising numbers: with d in the place of its number's, without one of the number no -/
def madeD (ds : List Dom) (d : Dom) (no : Int) : Nat → List Dom
  | 0 => []
  | k + 1 => madeD ds d no k ++ (if ((k + 1 : Nat) : Int) = no then [] else if ((k + 1 : Nat) : Int) = d.1 then [d] else (domF ds ((k + 1 : Nat) : Int)).toList)
def madeV (us : List Vc) (v : Vc) (no : Int) : Nat → List Vc
  | 0 => []
  | k + 1 => madeV us v no k ++ (if ((k + 1 : Nat) : Int) = no then [] else if 0 < v.2.1 ∧ ((k + 1 : Nat) : Int) = v.1 then [v] else (vcF us ((k + 1 : Nat) : Int)).toList)
def freeK (us : List Vc) : Nat → Nat
  | 0 => 1
  | k + 1 => if (vcV us (freeK us k : Nat)).2 = true then freeK us k + 1 else freeK us k
theorem freeK_le (us : List Vc) (k : Nat) : freeK us k ≤ k + 1 := by
  induction k with
  | zero => exact Nat.le_refl _
  | succ k ih => unfold freeK; split <;> omega
def weighK (ds : List Dom) (us : List Vc) (pool : Int) : Nat → Int
  | 0 => 0
  | k + 1 => weighK ds us pool k + (if (ds.getD k zeroD).2.2.2 = pool ∧ 0 < (ofL us (ds.getD k zeroD).1).length then (ds.getD k zeroD).2.1 else 0)
theorem dgetD {l : List Dom} {k : Nat} {x : Dom} (h : l[k]? = some x) : l.getD k zeroD = x := by rw [List.getD_eq_getElem?_getD, h]; rfl
theorem vgetD {l : List Vc} {k : Nat} {x : Vc} (h : l[k]? = some x) : l.getD k zeroV = x := by rw [List.getD_eq_getElem?_getD, h]; rfl

/-! ### rows and results -/
theorem own_set {w : World} {base n size : Nat} {e : TypeId} {v : Value} {xs : List Value} (h : w.ownsRow base e size v n xs) {g : Nat} (hg : g < base) (i : Nat) (u : Value) : (w.setCell ⟨g, i, none⟩ u).ownsRow base e size v n xs := by
  refine h.kept (row := some g) ⟨rfl, rfl, rfl, by simp [World.setCell], fun k _ hne => Below.heap_setCell w _ u k (fun he => hne (by rw [he]))⟩ ?_
  cases ho : v.ownBlock with
  | none => exact .inl rfl
  | some k =>
    refine .inr (fun he => ?_)
    have := (h.lt k ho).1
    injection he with he
    omega
theorem own_down {w : World} {base base' n size : Nat} {e : TypeId} {v : Value} {xs : List Value} (h : w.ownsRow base e size v n xs) (hb : base' ≤ base) : w.ownsRow base' e size v n xs := by
  rcases h with ⟨h1, h2 | ⟨g, cap, cur, a, b, c⟩⟩
  · exact ⟨h1, .inl h2⟩
  · exact ⟨h1, .inr ⟨g, cap, cur, a, Nat.le_trans hb b, c⟩⟩
theorem own_below {w w' : World} {base n size : Nat} {e : TypeId} {v : Value} {xs : List Value} (h : w.ownsRow base e size v n xs) (hb : Below w.heap.size w w') : w'.ownsRow base e size v n xs := by
  rcases h with ⟨h1, h2 | ⟨g, cap, cur, a, b, c, r⟩⟩
  · exact ⟨h1, .inl h2⟩
  · exact ⟨h1, .inr ⟨g, cap, cur, a, b, (hb.block g (Array.getElem?_eq_some_iff.1 c).1).trans c, r⟩⟩
theorem own_off {w : World} {base n size g : Nat} {e : TypeId} {v : Value} {xs : List Value} (h : w.ownsRow base e size v n xs) (hne : ∀ k, v.ownBlock = some k → k ≠ g) (i : Nat) (u : Value) : (w.setCell ⟨g, i, none⟩ u).ownsRow base e size v n xs := by
  refine h.kept (row := some g) ⟨rfl, rfl, rfl, by simp [World.setCell], fun k _ hk => Below.heap_setCell w _ u k (fun he => hk (by rw [he]))⟩ ?_
  cases ho : v.ownBlock with
  | none => exact .inl rfl
  | some k => exact .inr (fun he => hne k ho (by injection he))
theorem info_parts9 {P : Program} {e : TypeId} {z : Value} {size bytes : Nat} (h : (P.info? e).map (fun i => (i.zero, i.size, i.bytes)) = some (some z, size, bytes)) :
    ∃ i, P.info? e = some i ∧ i.zero = some z ∧ i.size = size ∧ i.bytes = bytes := by
  cases hi : P.info? e with
  | none => rw [hi] at h; cases h
  | some i =>
    rw [hi] at h
    simp only [Option.map_some, Option.some.injEq, Prod.mk.injEq] at h
    exact ⟨i, rfl, h.1, h.2.1, h.2.2⟩
theorem results_row2 {P : Program} {fn : Func} {p q : Tmp} {ty : TypeId} (h : fn.results = #[.cell p ty, .tmp q]) (tmps : Array Value) (w : World) (g : Nat) (t : TypeId) (cs : Array Value) (d : TypeDesc)
    (hp : tmps.getD p undef = .pointer (some ⟨g, 0, none⟩)) (hg : w.heap[g]? = some (.cells cs t (0, 0)))
    (hu : P.underlying ty = some d) (hd : (match d with | .struct _ | .array _ _ => true | _ => false) = true) (hi : (P.info? ty).map (·.size) = some cs.size) :
    (results fn tmps).run P w = .ok (.tuple #[.agg cs, tmps.getD q undef]) w := by
  have hp' : tmps[p]?.getD undef = .pointer (some ⟨g, 0, none⟩) := by simpa using hp
  simp [results, h, hp', asAddr, run_loadVar_row w g t ty cs (0, 0) d hg hu hd hi]
theorem box1 (w : World) (t : TypeId) (cs : Array Value) : Blk (w.alloc (.cells cs t)) w.heap.size t cs ∧ Below w.heap.size w (w.alloc (.cells cs t)) := ⟨Blk.new _ _ _, (Below.refl _ _).alloc (Nat.le_refl _) _⟩

end Go.Proofs.Ytknimnopopnbhaa
