/-
  Words for rows of a call's own, for numbers that lie somewhere, and for rows of rows of numbers. No statement is proved here.
-/
import Derived.Test.YtkbgpmgnkegipaaDoorEf
import Derived.Deep.RegionHeld3
import Derived.Deep.DeepCutAuto
namespace Go.Proofs.YtkbgpmgnkegipaaDoor
open Go.RowKit
theorem info_parts9 {P : Program} {e : TypeId} {z : Value} {size bytes : Nat} (h : (P.info? e).map (fun i => (i.zero, i.size, i.bytes)) = some (some z, size, bytes)) :
    ∃ i, P.info? e = some i ∧ i.zero = some z ∧ i.size = size ∧ i.bytes = bytes := by
  cases hi : P.info? e with
  | none => rw [hi] at h; cases h
  | some i =>
    rw [hi] at h
    simp only [Option.map_some, Option.some.injEq, Prod.mk.injEq] at h
    exact ⟨i, rfl, h.1, h.2.1, h.2.2⟩
theorem box1 (w : World) (t : TypeId) (cs : Array Value) : Blk (w.alloc (.cells cs t)) w.heap.size t cs ∧ Below w.heap.size w (w.alloc (.cells cs t)) := ⟨Blk.new _ _ _, (Below.refl _ _).alloc (Nat.le_refl _) _⟩
theorem results_cell_row_tmp {P : Program} {fn : Func} {p q : Tmp} {ty : TypeId} (h : fn.results = #[.cell p ty, .tmp q]) (tmps : Array Value) (w : World) (g : Nat) (t : TypeId) (cs : Array Value) (d : TypeDesc)
    (hp : tmps.getD p undef = .pointer (some ⟨g, 0, none⟩)) (hg : w.heap[g]? = some (.cells cs t (0, 0)))
    (hu : P.underlying ty = some d) (hd : (match d with | .struct _ | .array _ _ => true | _ => false) = true) (hi : (P.info? ty).map (·.size) = some cs.size) :
    (results fn tmps).run P w = .ok (.tuple #[.agg cs, tmps.getD q undef]) w := by
  have hp' : tmps[p]?.getD undef = .pointer (some ⟨g, 0, none⟩) := by simpa using hp
  simp [results, h, hp', asAddr, run_loadVar_row w g t ty cs (0, 0) d hg hu hd hi]
theorem results_cell_row {P : Program} {fn : Func} {p : Tmp} {ty : TypeId} (h : fn.results = #[.cell p ty]) (tmps : Array Value) (w : World) (g : Nat) (t : TypeId) (cs : Array Value) (d : TypeDesc)
    (hp : tmps.getD p undef = .pointer (some ⟨g, 0, none⟩)) (hg : w.heap[g]? = some (.cells cs t (0, 0)))
    (hu : P.underlying ty = some d) (hd : (match d with | .struct _ | .array _ _ => true | _ => false) = true) (hi : (P.info? ty).map (·.size) = some cs.size) :
    (results fn tmps).run P w = .ok (.agg cs) w := by
  have hp' : tmps[p]?.getD undef = .pointer (some ⟨g, 0, none⟩) := by simpa using hp
  simp [results, h, hp', asAddr, run_loadVar_row w g t ty cs (0, 0) d hg hu hd hi]
/-- numbers that lie somewhere -/
structure IR (w : World) (A : Option Addr) (n : Nat) (is : List Int) : Prop where
  row : Reads w w.heap.size 1 A n (vs is)
  small : n ≤ 1000
theorem IR.len {w : World} {A : Option Addr} {n : Nat} {is : List Int} (h : IR w A n is) : is.length = n := by
  have h1 := h.row.1
  rw [length_vs] at h1
  omega
theorem IR.below {w w' : World} {A : Option Addr} {n : Nat} {is : List Int} (h : IR w A n is) (hb : Below w.heap.size w w') : IR w' A n is := ⟨(h.row.below hb).more hb.size, h.small⟩
theorem IR.at_ {w : World} {A : Option Addr} {n : Nat} {is : List Int} (h : IR w A n is) {j : Nat} {x : Int} (hx : is[j]? = some x) : ∃ ad, A = some ad ∧ ad.block < w.heap.size ∧ w.cell? (ad.add j) = some (.int .i64 x) := by
  have := (List.getElem?_eq_some_iff.1 hx).1
  obtain ⟨ad, e, hb, hc⟩ := h.row.2 (by have := h.len; omega)
  exact ⟨ad, e, hb, hc j _ (by unfold vs; rw [List.getElem?_map, hx]; rfl)⟩
theorem own_set {w : World} {base n size : Nat} {e : TypeId} {v : Value} {xs : List Value} (h : w.ownsRow base e size v n xs) {g : Nat} (hg : g < base) (i : Nat) (u : Value) : (w.setCell ⟨g, i, none⟩ u).ownsRow base e size v n xs := by
  refine h.kept (row := some g) ⟨rfl, rfl, rfl, by simp [World.setCell], fun k _ hne => Below.heap_setCell w _ u k (fun he => hne (by rw [he]))⟩ ?_
  cases ho : v.ownBlock with
  | none => exact .inl rfl
  | some k =>
    refine .inr (fun he => ?_)
    have := (h.lt k ho).1
    injection he with he
    omega
theorem own_down {w : World} {base base' n size : Nat} {e : TypeId} {v : Value} {xs : List Value} (h : w.ownsRow base e size v n xs) (hb : base' ≤ base) : w.ownsRow base' e size v n xs := by
  rcases h with ⟨h1, h2 | ⟨g, cap, cur, a, b, c⟩⟩
  · exact ⟨h1, .inl h2⟩
  · exact ⟨h1, .inr ⟨g, cap, cur, a, Nat.le_trans hb b, c⟩⟩
theorem own_below {w w' : World} {base n size : Nat} {e : TypeId} {v : Value} {xs : List Value} (h : w.ownsRow base e size v n xs) (hb : Below w.heap.size w w') : w'.ownsRow base e size v n xs := by
  rcases h with ⟨h1, h2 | ⟨g, cap, cur, a, b, c, r⟩⟩
  · exact ⟨h1, .inl h2⟩
  · exact ⟨h1, .inr ⟨g, cap, cur, a, b, (hb.block g (Array.getElem?_eq_some_iff.1 c).1).trans c, r⟩⟩
theorem own_off {w : World} {base n size g : Nat} {e : TypeId} {v : Value} {xs : List Value} (h : w.ownsRow base e size v n xs) (hne : ∀ k, v.ownBlock = some k → k ≠ g) (i : Nat) (u : Value) : (w.setCell ⟨g, i, none⟩ u).ownsRow base e size v n xs := by
  refine h.kept (row := some g) ⟨rfl, rfl, rfl, by simp [World.setCell], fun k _ hk => Below.heap_setCell w _ u k (fun he => hk (by rw [he]))⟩ ?_
  cases ho : v.ownBlock with
  | none => exact .inl rfl
  | some k => exact .inr (fun he => hne k ho (by injection he))
theorem reads_int1 (w : World) (t : TypeId) (x : Int) {g : Nat} (hg : g = w.heap.size) : Reads (w.alloc (.cells #[.int .i64 x] t)) (w.alloc (.cells #[.int .i64 x] t)).heap.size 1 (some ⟨g, 0, none⟩) 1 (vs [x]) := by
  subst hg
  refine ⟨rfl, fun _ => ⟨_, rfl, by simp, fun j u hu => ?_⟩⟩
  have hb := Blk.new w t #[.int .i64 x]
  match j, hu with
  | 0, hu => simp [vs] at hu; subst hu; exact hb.cell 0
  | j + 1, hu => simp [vs] at hu
theorem put1 {w w1 : World} {g b : Nat} {t : TypeId} {p x : Value} (K : Blk w1 g t #[p]) (B : Below b w w1) (hg : b ≤ g) : Blk (w1.setCell ⟨g, 0, none⟩ x) g t #[x] ∧ Below b w (w1.setCell ⟨g, 0, none⟩ x) := by
  refine ⟨?_, B.setCell (p := ⟨g, 0, none⟩) hg x⟩
  have := K.set_ 0 x
  simpa using this
theorem put2 {w w1 : World} {g b : Nat} {t : TypeId} {p q x y : Value} (K : Blk w1 g t #[p, q]) (B : Below b w w1) (hg : b ≤ g) :
    Blk ((w1.setCell ⟨g, 0, none⟩ x).setCell ⟨g, 1, none⟩ y) g t #[x, y] ∧ Below b w ((w1.setCell ⟨g, 0, none⟩ x).setCell ⟨g, 1, none⟩ y) :=
  ⟨K.set2, (B.setCell (p := ⟨g, 0, none⟩) hg x).setCell (p := ⟨g, 1, none⟩) hg y⟩
theorem own_other {V W : World} {base e s n : Nat} {v v1 : Value} {xs : List Value} (h : V.ownsRow base e s v n xs) (hg : V.grownBy W v1.ownBlock) (hne : ∀ k k', v.ownBlock = some k → v1.ownBlock = some k' → k ≠ k') : W.ownsRow base e s v n xs := by
  refine h.kept hg ?_
  cases ho : v.ownBlock with
  | none => exact .inl rfl
  | some k => exact .inr (fun he => hne k k ho he.symm rfl)
theorem ne_other {V : World} {base e s n : Nat} {v v1 v2 : Value} {xs : List Value} (h : V.ownsRow base e s v n xs) (hne : ∀ k k', v.ownBlock = some k → v1.ownBlock = some k' → k ≠ k')
    (hw : v2.ownBlock = v1.ownBlock ∨ v2.ownBlock = some V.heap.size) : ∀ k k', v.ownBlock = some k → v2.ownBlock = some k' → k ≠ k' := by
  intro k k' hk hk'
  rcases hw with e | e
  · rw [e] at hk'; exact hne k k' hk hk'
  · rw [e] at hk'
    injection hk' with hk'
    have := (h.lt k hk).2
    omega
theorem Blk.own {w w' : World} {g : Nat} {t : TypeId} {cs : Array Value} {base e s n : Nat} {v : Value} {xs : List Value} (h : Blk w g t cs) (ho : w.ownsRow base e s v n xs) (hg : w.grownBy w' v.ownBlock) (hb : g < base) : Blk w' g t cs :=
  h.grown hg (fun he => by have := (ho.lt g he.symm).1; omega)
theorem reads_blk {w : World} {g : Nat} {t : TypeId} {cs : Array Value} (h : Blk w g t cs) {xs : List Value} (hx : cs.toList = xs) {n k : Nat} (hl : xs.length = n * k) : Reads w w.heap.size k (some ⟨g, 0, none⟩) n xs := by
  refine ⟨hl, fun _ => ⟨_, rfl, h.lt, fun j u hj => ?_⟩⟩
  rw [Addr.add_lit, Nat.zero_add, h.cell j]
  rw [← hx] at hj
  simpa using hj
theorem slice_info : (Tryd.prog.info? 27).map (fun i => (i.zero, i.size, i.bytes)) = some (some (.slice none 0 0), 1, 24) := by kernel_rfl
theorem own_new {V W : World} {base size n : Nat} {e : TypeId} {v : Value} {xs : List Value} (h : V.ownsRow base e size v n xs) (o : Obj) (hg : (V.alloc o).grownBy W (some V.heap.size)) : W.ownsRow base e size v n xs := by
  refine (h.alloc o).kept hg ?_
  cases ho : v.ownBlock with
  | none => exact .inl rfl
  | some k => exact .inr (fun he => by have := (h.lt k ho).2; injection he with he; omega)
theorem own_nc {w : World} {base k n m c : Nat} {e : TypeId} {A : Option Addr} {xs : List Value} (h : w.ownsRow base e k (.slice A m c) n xs) : m ≤ c := by
  rcases h.2 with ⟨h2, h3⟩ | ⟨g, cap, cur, h2, _, _, h3, _⟩
  · injection h2 with _ h4 h5; omega
  · injection h2 with _ h4 h5; omega
theorem cut_reads {w : World} {B size n : Nat} {A : Option Addr} {α : Type} {f : α → List Value} (hs : ∀ a, (f a).length = size) {l : List α} (h : Reads w B size A n (flat f l)) (m : Nat) : Reads w B size A (min n m) (flat f (l.take m)) := by
  have hl := h.1
  rw [length_flat f hs] at hl
  by_cases h0 : size = 0
  · subst h0
    refine ⟨by rw [length_flat f hs]; omega, fun hn => ?_⟩
    obtain ⟨ad, e, hb, _⟩ := h.2 (by omega)
    refine ⟨ad, e, hb, fun j u hj => ?_⟩
    have := (List.getElem?_eq_some_iff.1 hj).1
    rw [length_flat f hs] at this
    omega
  have hl2 : l.length = n := Nat.eq_of_mul_eq_mul_right (by omega) hl
  refine ⟨by rw [length_flat f hs, List.length_take, hl2, Nat.min_comm], fun hn => ?_⟩
  obtain ⟨ad, e, hb, hc⟩ := h.2 (by omega)
  refine ⟨ad, e, hb, fun j u hj => hc j u ?_⟩
  have e2 : flat f l = flat f (l.take m) ++ flat f (l.drop m) := by rw [← flat_append, List.take_append_drop]
  rw [e2, List.getElem?_append_left (List.getElem?_eq_some_iff.1 hj).1]
  exact hj
theorem cut_vs {w : World} {B n : Nat} {A : Option Addr} {l : List Int} (h : Reads w B 1 A n (vs l)) (m : Nat) : Reads w B 1 A (min n m) (vs (l.take m)) := by
  have e : ∀ l : List Int, vs l = flat (fun i => [Value.int .i64 i]) l := fun l => by
    induction l with
    | nil => rfl
    | cons a l ih => rw [flat_cons, ← ih]; rfl
  rw [e] at h ⊢
  exact cut_reads (f := fun i => [Value.int .i64 i]) (fun _ => rfl) h m
/-- a gang: its slice, and what it holds -/
abbrev Gg := Option Addr × Nat × Nat × List Int
def gv (g : Gg) : List Value := [.slice g.1 g.2.1 g.2.2.1]
theorem length_gv (g : Gg) : (gv g).length = 1 := rfl
def gsI (gs : List Gg) : List (List Int) := gs.map fun g => g.2.2.2
structure GW (w : World) (A : Option Addr) (n : Nat) (gs : List Gg) : Prop where
  row : Reads w w.heap.size 1 A n (flat gv gs)
  small : n ≤ 100
  each : ∀ g ∈ gs, IR w g.1 g.2.1 g.2.2.2 ∧ g.2.1 ≤ 100
theorem GW.len {w : World} {A : Option Addr} {n : Nat} {gs : List Gg} (h : GW w A n gs) : gs.length = n := by
  have h1 := h.row.1
  rw [length_flat gv length_gv] at h1
  omega
theorem GW.below {w w' : World} {A : Option Addr} {n : Nat} {gs : List Gg} (h : GW w A n gs) (hb : Below w.heap.size w w') : GW w' A n gs :=
  ⟨(h.row.below hb).more hb.size, h.small, fun g hg => ⟨(h.each g hg).1.below hb, (h.each g hg).2⟩⟩
theorem GW.at_ {w : World} {A : Option Addr} {n : Nat} {gs : List Gg} (h : GW w A n gs) {k : Nat} {g : Gg} (hx : gs[k]? = some g) :
    ∃ ad, A = some ad ∧ ad.block < w.heap.size ∧ w.cell? (ad.add k) = some (.slice g.1 g.2.1 g.2.2.1) := by
  obtain ⟨ad, e, hb, hc⟩ := h.row.elem gv length_gv hx (by omega)
  have := hc 0 _ rfl
  rw [Nat.mul_one, Nat.add_zero] at this
  exact ⟨ad, e, hb, this⟩
theorem gsI_at {gs : List Gg} {k : Nat} {g : Gg} (h : gs[k]? = some g) : (gsI gs)[k]? = some g.2.2.2 := by unfold gsI; rw [List.getElem?_map, h]; rfl
theorem gsI_len (gs : List Gg) : (gsI gs).length = gs.length := by simp [gsI]
/-- gangs that came in -/
structure GA (w : World) (A : Option Addr) (n : Nat) (l : List Gg) : Prop where
  row : Reads w w.heap.size 1 A n (flat gv l)
  big : n ≤ maxLen
  mem : ∀ g ∈ l, Reads w w.heap.size 1 g.1 g.2.1 (vs g.2.2.2) ∧ g.2.1 ≤ g.2.2.1
theorem GA.below {w w' : World} {A : Option Addr} {n : Nat} {l : List Gg} (h : GA w A n l) (hb : Below w.heap.size w w') : GA w' A n l :=
  ⟨(h.row.below hb).more hb.size, h.big, fun e he => ⟨((h.mem e he).1.below hb).more hb.size, (h.mem e he).2⟩⟩
theorem GA.len {w : World} {A : Option Addr} {n : Nat} {l : List Gg} (h : GA w A n l) : l.length = n := by
  have h1 := h.row.1
  rw [length_flat gv length_gv] at h1
  omega
theorem GA.at_ {w : World} {A : Option Addr} {n : Nat} {gs : List Gg} (h : GA w A n gs) {k : Nat} {g : Gg} (hx : gs[k]? = some g) :
    ∃ ad, A = some ad ∧ ad.block < w.heap.size ∧ w.cell? (ad.add k) = some (.slice g.1 g.2.1 g.2.2.1) := by
  obtain ⟨ad, e, hb, hc⟩ := h.row.elem gv length_gv hx (by omega)
  have := hc 0 _ rfl
  rw [Nat.mul_one, Nat.add_zero] at this
  exact ⟨ad, e, hb, this⟩
/-- the slice of a gang -/
def slG (g : Gg) : Value := .slice g.1 g.2.1 g.2.2.1
/-- gangs in memory of their own, from B on -/
structure GO (w : World) (B : Nat) (A : Option Addr) (n c : Nat) (G : List Gg) : Prop where
  row : w.ownsRow B 27 1 (.slice A n c) n (flat gv G)
  mem : ∀ g ∈ G, w.ownsRow B 3 1 (slG g) g.2.1 (vs g.2.2.2)
  ne : ∀ g ∈ G, ∀ j j', (slG g).ownBlock = some j → (Value.slice A n c).ownBlock = some j' → j ≠ j'
section
variable {w w' : World} {B : Nat} {A : Option Addr} {n c : Nat} {G : List Gg}
theorem GO.below (h : GO w B A n c G) (hb : Below w.heap.size w w') : GO w' B A n c G := ⟨own_below h.row hb, fun e he => own_below (h.mem e he) hb, h.ne⟩
theorem GO.new (h : GO w B A n c G) (o : Obj) (hg : (w.alloc o).grownBy w' (some w.heap.size)) : GO w' B A n c G := ⟨own_new h.row o hg, fun e he => own_new (h.mem e he) o hg, h.ne⟩
theorem GO.down (h : GO w B A n c G) {B' : Nat} (hb : B' ≤ B) : GO w B' A n c G := ⟨own_down h.row hb, fun e he => own_down (h.mem e he) hb, h.ne⟩
theorem GO.len (h : GO w B A n c G) : G.length = n := by
  have h1 := h.row.1
  rw [length_flat gv length_gv] at h1
  omega
theorem GO.more {A2 : Option Addr} {c2 : Nat} {o : Obj} {e : Gg} (h : GO w B A n c G) (hm : w.ownsRow B 3 1 (slG e) e.2.1 (vs e.2.2.2)) (hne : ∀ j j', (slG e).ownBlock = some j → (Value.slice A n c).ownBlock = some j' → j ≠ j')
    (hg : (w.alloc o).grownBy w' (Value.slice A n c).ownBlock) (ho : w'.ownsRow B 27 1 (.slice A2 (n + 1) c2) (n + 1) (flat gv (G ++ [e]))) (hw : (Value.slice A2 (n + 1) c2).ownBlock = (Value.slice A n c).ownBlock ∨ (Value.slice A2 (n + 1) c2).ownBlock = some (w.alloc o).heap.size) :
    GO w' B A2 (n + 1) c2 (G ++ [e]) := by
  refine ⟨ho, fun x hx => ?_, fun x hx => ?_⟩
  · rw [List.mem_append, List.mem_singleton] at hx
    rcases hx with hx | rfl
    · exact own_other ((h.mem x hx).alloc o) hg (h.ne x hx)
    · exact own_other (hm.alloc o) hg hne
  · rw [List.mem_append, List.mem_singleton] at hx
    rcases hx with hx | rfl
    · exact ne_other ((h.mem x hx).alloc o) (h.ne x hx) hw
    · exact ne_other (hm.alloc o) hne hw
end
/-- a place, or below 0 -/
def AtI (v : Bool) (w : World) (e : Ending) (w' : World) : Prop := ∃ r : Int, e = .returned (.int .i64 r) ∧ decide (0 ≤ r) = v ∧ Below w.heap.size w w'
theorem not_take {is : List Int} {k : Nat} {x v : Int} (hx : is[k]? = some x) (h : v ∉ is.take k) (hne : v ≠ x) : v ∉ is.take (k + 1) := by
  rw [List.take_add_one, hx]
  intro hm
  rcases List.mem_append.1 hm with h1 | h1
  · exact h h1
  · exact hne (by simpa using h1)
set_option maxRecDepth 100000 in
set_option maxHeartbeats 4000000 in
theorem index_any (A : Option Addr) (n c : Nat) (is : List Int) (v : Int) (w : World) (hG : IR w A n is) :
    Calls Tryd.prog 67 #[.slice A n c, .int .i64 v] w (AtI (decide (v ∈ is)) w) := by
  have HL := Lib.hid hG.len
  have HN := hG.small
  have HR := Lib.hid hG
  clear hG
  go_enter Tryd.func67, Tryd.ntmps67
  go_wp2_with fail
  go_loopw [8] (fun iv wr => ∃ k : Nat, k ≤ n ∧ iv = .int .i64 (k : Int) ∧ Hid (v ∉ is.take k) ∧ Below w.heap.size w wr) (fun iv _ => n - (intOf iv).toNat)
  case atStart => exact ⟨0, by omega, rfl, Lib.hid (by simp), Below.refl _ _⟩
  case round =>
    obtain ⟨k, hk, rfl, HA, hB⟩ := hrel
    by_cases hlt : k < n
    · obtain ⟨x, hm⟩ := elem_at (l := is) (k := k) (by rw [HL.out]; exact hlt)
      obtain ⟨ad, rfl, hb1, c0⟩ := (HR.out.below hB).at_ hm
      have i1 : (0 : Int) ≤ (k : Int) := by omega
      have i2 : (k : Int) < (n : Int) := by omega
      by_cases hv : v = x
      · subst hv
        have HV : Hid (decide (v ∈ is) = true) := Lib.hid (decide_eq_true (List.mem_of_getElem? hm))
        have v1 : (v == v) = true := by simp
        clear hm hb1
        go_wp2_with fail
        go_ret
        exact ⟨_, rfl, by rw [HV.out]; simp, hB⟩
      · have HA2 := Lib.hid (not_take hm HA.out hv)
        have v1 : (v == x) = false := by simpa using hv
        clear hm hb1 hv
        go_wp2_with fail
        go_roundw
        case rel => exact ⟨k + 1, by omega, by go_num, HA2, hB⟩
        case measure => simp [intOf]; omega
    · obtain rfl : k = n := by omega
      have HV : Hid (decide (v ∈ is) = false) := Lib.hid (decide_eq_false (by have := HA.out; rwa [List.take_of_length_le (by rw [HL.out]; exact Nat.le_refl _)] at this))
      go_wp2
      go_ret
      exact ⟨-1, rfl, by rw [HV.out]; decide, hB⟩
set_option maxRecDepth 100000 in
set_option maxHeartbeats 2000000 in
theorem contains_any (A : Option Addr) (n c : Nat) (is : List Int) (v : Int) (w : World) (hG : IR w A n is) :
    Calls Tryd.prog 63 #[.slice A n c, .int .i64 v] w (Said (.bool (decide (v ∈ is))) w) := by
  have HI := Lib.hid (index_any A n c is v w hG)
  clear hG
  go_enter Tryd.func63, Tryd.ntmps63
  go_wp2_with fail
  refine HI.out.mono ?_
  rintro e w2 ⟨r, rfl, hr, h9⟩
  have HV := Lib.hid hr
  clear hr
  go_wp2_with fail
  go_ret
  exact ⟨retB HV.out, h9⟩

end Go.Proofs.YtkbgpmgnkegipaaDoor
