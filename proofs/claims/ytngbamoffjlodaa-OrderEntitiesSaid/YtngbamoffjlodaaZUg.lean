/-
  OrderEntities' memory: two rows cut short; members written over. No statement is proved here.
-/
import Derived.Test.YtngbamoffjlodaaZPd
import Derived.Test.YtngbamoffjlodaaZPf
import Derived.Test.YtngbamoffjlodaaZUf
import Derived.Test.YtngbamoffjlodaaZQa
namespace Go.Proofs.Ytngbamoffjlodaa
open Go.RowKit Go.Maps

/-- a row of what is put in order, cut short, in memory of its own -/
structure SH (qs : List Rn) (ws : List Wt) (gs : List Gg) (u : World) (A : Option Addr) (n c : Nat) (A' : Option Addr) (n' c' : Nat) (A2 : Option Addr) (n2 c2 : Nat) (G : List Gg) : Prop where
  q : u.ownsRow 0 59 5 (.slice A n c) n (flat rv (qs.take 17))
  w : u.ownsRow 0 67 3 (.slice A' n' c') n' (flat wtv (ws.take 17))
  g : GO u 0 A2 n2 c2 G
  gi : gsI G = shG gs ∧ (∀ g ∈ G, g.2.1 ≤ 17) ∧ n ≤ 17 ∧ n' ≤ 17 ∧ n2 ≤ 17
/-- no part of it lies in block g -/
structure SO (g : Nat) (A : Option Addr) (n c : Nat) (A' : Option Addr) (n' c' : Nat) (A2 : Option Addr) (n2 c2 : Nat) (G : List Gg) : Prop where
  q : ∀ j, (Value.slice A n c).ownBlock = some j → j ≠ g
  w : ∀ j, (Value.slice A' n' c').ownBlock = some j → j ≠ g
  r : ∀ j, (Value.slice A2 n2 c2).ownBlock = some j → j ≠ g
  m : ∀ x ∈ G, ∀ j, (slG x).ownBlock = some j → j ≠ g
section
variable {qs : List Rn} {ws : List Wt} {gs : List Gg} {u u' : World} {A A' A2 : Option Addr} {n c n' c' n2 c2 g : Nat} {G : List Gg}
theorem SH.below (h : SH qs ws gs u A n c A' n' c' A2 n2 c2 G) (hb : Below u.heap.size u u') : SH qs ws gs u' A n c A' n' c' A2 n2 c2 G := ⟨own_below h.q hb, own_below h.w hb, h.g.below hb, h.gi⟩
theorem SO.new (h : SH qs ws gs u A n c A' n' c' A2 n2 c2 G) : SO u.heap.size A n c A' n' c' A2 n2 c2 G :=
  ⟨fun j hj => by have := (h.q.lt j hj).2; omega, fun j hj => by have := (h.w.lt j hj).2; omega, fun j hj => by have := (h.g.row.lt j hj).2; omega, fun x hx j hj => by have := ((h.g.mem x hx).lt j hj).2; omega⟩
theorem SH.of {B : Nat} (hq : u.ownsRow B 59 5 (.slice A n c) n (flat rv (qs.take 17))) (hw : u.ownsRow B 67 3 (.slice A' n' c') n' (flat wtv (ws.take 17))) (hg : GO u B A2 n2 c2 G)
    (gi : gsI G = shG gs ∧ (∀ g ∈ G, g.2.1 ≤ 17) ∧ n ≤ 17 ∧ n' ≤ 17 ∧ n2 ≤ 17) : SH qs ws gs u A n c A' n' c' A2 n2 c2 G := ⟨own_down hq (Nat.zero_le _), own_down hw (Nat.zero_le _), hg.down (Nat.zero_le _), gi⟩
theorem SO.old {B : Nat} (hq : u.ownsRow B 59 5 (.slice A n c) n (flat rv (qs.take 17))) (hw : u.ownsRow B 67 3 (.slice A' n' c') n' (flat wtv (ws.take 17))) (hg : GO u B A2 n2 c2 G) (hB : g < B) : SO g A n c A' n' c' A2 n2 c2 G :=
  ⟨fun j hj => by have := (hq.lt j hj).1; omega, fun j hj => by have := (hw.lt j hj).1; omega, fun j hj => by have := (hg.row.lt j hj).1; omega, fun x hx j hj => by have := ((hg.mem x hx).lt j hj).1; omega⟩
theorem SH.set3 (h : SH qs ws gs u A n c A' n' c' A2 n2 c2 G) (o : SO g A n c A' n' c' A2 n2 c2 G) (x y z : Value) : SH qs ws gs (((u.setCell ⟨g, 0, none⟩ x).setCell ⟨g, 1, none⟩ y).setCell ⟨g, 2, none⟩ z) A n c A' n' c' A2 n2 c2 G :=
  ⟨own_off (own_off (own_off h.q o.q 0 x) o.q 1 y) o.q 2 z, own_off (own_off (own_off h.w o.w 0 x) o.w 1 y) o.w 2 z, ⟨own_off (own_off (own_off h.g.row o.r 0 x) o.r 1 y) o.r 2 z, fun e he => own_off (own_off (own_off (h.g.mem e he) (o.m e he) 0 x) (o.m e he) 1 y) (o.m e he) 2 z, h.g.ne⟩, h.gi⟩
theorem SH.qr (h : SH qs ws gs u A n c A' n' c' A2 n2 c2 G) (hU : UQ qs) : QR u A n c (qs.take 17) := qr_own h.q (by have := h.gi.2.2.1; omega) (take_uq hU 17)
theorem SH.wt (h : SH qs ws gs u A n c A' n' c' A2 n2 c2 G) (hU : ∀ x ∈ ws, x.2.1 < 2 ^ 64) : WT u A' n' c' (ws.take 17) := wt_own h.w (by have := h.gi.2.2.2.1; omega) (take_wu hU 17)
theorem SH.gw (h : SH qs ws gs u A n c A' n' c' A2 n2 c2 G) : GW u A2 n2 G := gw_own h.g h.gi.2.2.2.2 h.gi.2.1
end
theorem own_put {w : World} {B n c g j : Nat} {A : Option Addr} {xs : List Int} (h : w.ownsRow B 3 1 (.slice A n c) n (vs xs)) (v : Int) : ∃ ys, (w.setCell ⟨g, j, none⟩ (.int .i64 v)).ownsRow B 3 1 (.slice A n c) n (vs ys) := by
  by_cases hb : (Value.slice A n c).ownBlock = some g
  · by_cases h0 : 0 < n
    · obtain ⟨g1, cur, rfl, hbg, K, hnc, hcm, hsz, ht⟩ := blk_own h h0
      obtain rfl : g1 = g := by injection hb
      refine ⟨xs.set j v, own_blk (K.set_ j _) hbg hcm (by rw [Array.size_setIfInBounds, hsz]) hnc ?_⟩
      rw [Array.toList_setIfInBounds, List.take_set, ht]
      unfold vs
      rw [List.map_set]
    · obtain rfl : n = 0 := by omega
      rcases h.2 with ⟨h2, _⟩ | ⟨g1, cap, cur, h2, h3, h4, h5, h6, h7, h8⟩
      · injection h2 with h2
        subst h2
        cases hb
      · injection h2 with h2 _ h2c
        subst h2 h2c
        obtain rfl : g1 = g := by injection hb
        exact ⟨[], own_blk ((show Blk w g1 _ cur from h4).set_ j _) h3 h6 (by rw [Array.size_setIfInBounds, h7]) h5 (by simp [vs])⟩
  · exact ⟨xs, own_off h (fun k hk he => hb (by rw [hk, he])) _ _⟩
/-- entities of a call's own whose members are written over -/
structure WS (V wr : World) (A : Option Addr) (n c : Nat) (E : List En) : Prop where
  row : wr.ownsRow V.heap.size 47 6 (.slice A n c) n (flat ev E)
  mem : ∀ e ∈ E, ∃ xs, wr.ownsRow V.heap.size 3 1 (slE e) e.1.2.1 (vs xs)
  ne : ∀ e ∈ E, ∀ j j', (slE e).ownBlock = some j → (Value.slice A n c).ownBlock = some j' → j ≠ j'
  bel : Below V.heap.size V wr
section
variable {V wr w' : World} {A : Option Addr} {n c : Nat} {E : List En}
theorem WS.of {u : World} (h : ES u V.heap.size A n c E) (hb : Below V.heap.size V u) : WS V u A n c E := ⟨h.row, fun e he => ⟨_, h.mem e he⟩, h.ne, hb⟩
theorem WS.below (h : WS V wr A n c E) (hb : Below wr.heap.size wr w') : WS V w' A n c E := ⟨own_below h.row hb, fun e he => (h.mem e he).elim fun xs hx => ⟨xs, own_below hx hb⟩, h.ne, h.bel.trans (hb.mono h.bel.size)⟩
theorem WS.len (h : WS V wr A n c E) : E.length = n := by
  have h1 := h.row.1
  rw [length_flat ev length_ev] at h1
  omega
theorem WS.at_ (h : WS V wr A n c E) {k : Nat} {e : En} (hx : E[k]? = some e) : ∃ ad, A = some ad ∧ wr.cell? (ad.add (k * 6)) = some (.slice e.1.1 e.1.2.1 e.1.2.2.1) := by
  obtain ⟨ad, ea, _, hc⟩ := (Reads.of_own h.row).elem ev length_ev hx (by omega)
  have s0 := hc 0 _ rfl
  rw [Nat.add_zero] at s0
  exact ⟨ad, ea, s0⟩
theorem WS.put (h : WS V wr A n c E) {k j : Nat} {e : En} (hx : E[k]? = some e) (hj : j < e.1.2.1) :
    ∃ g3, e.1.1 = some ⟨g3, 0, none⟩ ∧ (∃ y, wr.cell? ⟨g3, j, none⟩ = some y) ∧ wr.frozen? ⟨g3, j, none⟩ = false ∧ Hid (∀ v : Int, WS V (wr.setCell ⟨g3, j, none⟩ (.int .i64 v)) A n c E) := by
  have hm := List.mem_of_getElem? hx
  obtain ⟨xs, ho⟩ := h.mem e hm
  obtain ⟨⟨⟨A3, m, c3, is⟩, t, o, f⟩, he⟩ : ∃ e' : En, e = e' := ⟨e, rfl⟩
  subst he
  obtain ⟨g3, cur, e3, hb3, K, hnc, hcm, hsz, _⟩ := blk_own (A := A3) (n := m) (c := c3) ho (by have : j < m := hj; omega)
  subst e3
  have hj : j < m := hj
  refine ⟨g3, rfl, ⟨_, by rw [K.cell]; exact Array.getElem?_eq_getElem (by rw [hsz]; omega)⟩, K.frozen _, Lib.hid (fun v => ?_)⟩
  have hset : wr.grownBy (wr.setCell ⟨g3, j, none⟩ (.int .i64 v)) (some g3) := ⟨rfl, rfl, rfl, by simp [World.setCell], fun b _ hne => Below.heap_setCell wr _ _ b (fun he => hne (by rw [he]))⟩
  exact ⟨own_off h.row (fun q hq he => h.ne _ hm g3 q rfl hq he.symm) _ _, fun x hx => (h.mem x hx).elim fun ys hy => own_put hy v, h.ne, h.bel.grown hset h.bel.size (fun b hb => by cases hb; exact hb3)⟩
end
/-- rows of what is put in order -/
structure RR (w : World) (A : Option Addr) (n : Nat) (l : List Rw) : Prop where
  row : Reads w w.heap.size 3 A n (flat rwv l)
  each : ∀ r ∈ l, RWA w r
theorem RR.len {w : World} {A : Option Addr} {n : Nat} {l : List Rw} (h : RR w A n l) : l.length = n := by
  have h1 := h.row.1
  rw [length_flat rwv length_rwv] at h1
  omega
theorem RR.at_ {w : World} {A : Option Addr} {n : Nat} {l : List Rw} (h : RR w A n l) {k : Nat} {r : Rw} (hx : l[k]? = some r) :
    ∃ ad, A = some ad ∧ Hid (∀ u, Below w.heap.size w u → u.cell? (ad.add (k * 3)) = some (.slice r.1.1 r.1.2.1 r.1.2.2.1) ∧ u.cell? ⟨(ad.add (k * 3)).block, (ad.add (k * 3)).off + 1, none⟩ = some (.slice r.2.1.1 r.2.1.2.1 r.2.1.2.2.1) ∧ u.cell? ⟨(ad.add (k * 3)).block, (ad.add (k * 3)).off + 2, none⟩ = some (.slice r.2.2.1 r.2.2.2.1 r.2.2.2.2.1)) := by
  obtain ⟨ad, e, _, _⟩ := h.row.elem rwv length_rwv hx (by omega)
  refine ⟨ad, e, Lib.hid fun u hu => ?_⟩
  obtain ⟨ad2, e2, _, hc⟩ := ((h.row.below hu).more hu.size).elem rwv length_rwv hx (by omega)
  obtain rfl : ad = ad2 := Option.some.inj (e.symm.trans e2)
  have s0 := hc 0 _ rfl
  have s1 := hc 1 _ rfl
  have s2 := hc 2 _ rfl
  rw [Nat.add_zero] at s0
  rw [add_past ad (k * 3) 0] at s1
  rw [add_past ad (k * 3) 1] at s2
  exact ⟨s0, s1, s2⟩
end Go.Proofs.Ytngbamoffjlodaa
