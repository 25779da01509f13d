/-
  What GangDoes does with gangs: cut gangs cut again; members written over in a row of a call's own. No statement is proved here.
-/
import Derived.Test.YtglphgfaknofcaaLe
import Derived.Test.YtglphgfaknofcaaKf
namespace Go.Proofs.Ytglphgfaknofcaa
open Go.RowKit Go.Maps

theorem cut_cut (g : Gm) : cutG (cutG g) = cutG g := by
  unfold cutG intsL
  rw [List.take_take]
  rfl
theorem short_short (l : List Gm) : shortL (shortL l) = shortL l := by
  unfold shortL
  rw [List.map_take, List.map_map, List.take_take, show cutG ∘ cutG = cutG from funext cut_cut]
  rfl
theorem short_right {l : List Gm} (h : rightG l = true) : shortL l = l := by
  have ha := right_all h
  have hl := all_len ha
  have hm : l.map cutG = l := by
    have : ∀ g ∈ l, cutG g = g := fun g hg => by
      have := (members_len (ha.1 g hg).2.2).2
      unfold cutG intsL
      rw [List.take_of_length_le (by omega)]
    calc l.map cutG = l.map id := List.map_congr_left this
      _ = l := List.map_id l
  unfold shortL
  rw [hm, List.take_of_length_le (by omega)]
theorem run_list {q N : Int} {ms : List Int} {l : List Gm} (h : (runV q N ms l).1 ≠ 0) : (runV q N ms l).2.2 = [] := by
  unfold runV at h ⊢
  split
  · rename_i hq; rw [if_pos hq] at h; dsimp only at h ⊢; rw [if_neg h]
  · rename_i hq
    rw [if_neg hq] at h
    split
    · rename_i h3; rw [if_pos h3] at h; dsimp only at h ⊢; rw [if_neg h]
    · rename_i h3; rw [if_neg h3] at h; dsimp only at h ⊢; rw [if_neg h]
theorem no_run {w : World} {B n c : Nat} {A : Option Addr} {G : List Gn} (h : NO w B A n c G) {q N : Int} {ms : List Int} {l : List Gm} (h6 : q = 0 ∨ q = 1 ∨ q = 2 ∨ q = 3 ∨ q = 4 ∨ q = 5) (hG : gsM G = (runV q N ms l).2.2) : NW w A n G := by
  by_cases he : (runV q N ms l).1 = 0
  · exact no_nw h (by rw [hG]; exact run_right h6 he)
  · rw [run_list he] at hG
    have h0 : G = [] := by
      cases G with
      | nil => rfl
      | cons x G => unfold gsM at hG; cases hG
    subst h0
    have := h.len
    exact h.nw (by simp at this; omega) (fun g hg => (by cases hg))
theorem six_of {K q : Int} (h : kindQ K = q) : q = 0 ∨ q = 1 ∨ q = 2 ∨ q = 3 ∨ q = 4 ∨ q = 5 := h ▸ kind_six K
/-- members of one gang written over where they lie -/
theorem NO.upd {w w1 : World} {B n c k : Nat} {A : Option Addr} {G : List Gn} {A3 : Option Addr} {m c3 : Nat} {is ls : List Int} {id : Int} (h : NO w B A n c G) (hx : G[k]? = some (id, A3, m, c3, is)) (hg1 : w.grownBy w1 (Value.slice A3 m c3).ownBlock) (ho : w1.ownsRow B 3 1 (.slice A3 m c3) m (vs ls)) :
    NO w1 B A n c (G.set k (id, A3, m, c3, ls)) := by
  have hkl := (List.getElem?_eq_some_iff.1 hx).1
  have hmx := List.mem_of_getElem? hx
  have hfl : flat gnv (G.set k (id, A3, m, c3, ls)) = flat gnv G := by
    have e : ∀ (L : List Gn) (j : Nat), L[j]? = some (id, A3, m, c3, is) → flat gnv (L.set j (id, A3, m, c3, ls)) = flat gnv L := by
      intro L
      induction L with
      | nil => intro j hj; simp at hj
      | cons y L ih =>
        intro j hj
        cases j with
        | zero =>
          obtain rfl : y = (id, A3, m, c3, is) := by simpa using hj
          rfl
        | succ j =>
          rw [List.set_cons_succ]
          have h2 := ih j (by simpa using hj)
          unfold flat at h2 ⊢
          rw [List.flatMap_cons, List.flatMap_cons, h2]
    exact e G k hx
  refine ⟨?_, fun z hz => ?_, fun z hz j j' hj hj' => ?_, ?_⟩
  · rw [hfl]; exact h.row1 hx hg1
  · rcases set_mem_split hz hkl with rfl | hz
    · exact ho
    · exact h.mem1 hx hg1 z hz
  · rcases set_mem_split hz hkl with rfl | hz
    · exact h.ne _ hmx j j' hj hj'
    · exact h.ne z (List.mem_of_mem_eraseIdx hz) j j' hj hj'
  · have ha := h.apart
    have e : G = G.take k ++ (id, A3, m, c3, is) :: G.drop (k + 1) := by rw [← drop_cons hx, List.take_append_drop]
    rw [List.set_eq_take_append_cons_drop, if_pos hkl]
    rw [e, List.pairwise_append] at ha
    rw [List.pairwise_append]
    have hc := List.pairwise_cons.1 ha.2.1
    refine ⟨ha.1, List.pairwise_cons.2 ⟨fun z hz p q hp hq => hc.1 z hz p q hp hq, hc.2⟩, fun y hy z hz p q hp hq => ?_⟩
    rcases List.mem_cons.1 hz with rfl | hz
    · exact ha.2.2 y hy (id, A3, m, c3, is) (List.mem_cons_self ..) p q hp hq
    · exact ha.2.2 y hy z (List.mem_cons_of_mem _ hz) p q hp hq
/-- gangs of a call's own, written over; what lies below and above them stays -/
structure HR (u w9 : World) (E : Nat) (A : Option Addr) (n c : Nat) (G : List Gn) (wr : World) : Prop where
  no : NO wr u.heap.size A n c G
  rb : ∀ j, (Value.slice A n c).ownBlock = some j → j < E
  mb : ∀ x ∈ G, ∀ j, (slG x.2).ownBlock = some j → j < E
  lo : Below u.heap.size u wr
  hi : ∀ k, E ≤ k → k < w9.heap.size → wr.heap[k]? = w9.heap[k]?
  sz : w9.heap.size ≤ wr.heap.size
theorem HR.put {u w9 wr : World} {E n c k j : Nat} {A : Option Addr} {G : List Gn} (h : HR u w9 E A n c G wr) {id : Int} {A3 : Option Addr} {m c3 : Nat} {is : List Int} (hx : G[k]? = some (id, A3, m, c3, is)) (hj : j < m) :
    ∃ gr g3, A = some ⟨gr, 0, none⟩ ∧ A3 = some ⟨g3, 0, none⟩ ∧ wr.cell? ⟨gr, k * 2 + 1, none⟩ = some (.slice (some ⟨g3, 0, none⟩) m c3) ∧ (∃ y, wr.cell? ⟨g3, j, none⟩ = some y) ∧ wr.frozen? ⟨g3, j, none⟩ = false ∧
      Hid (∀ v : Int, HR u w9 E A n c (G.set k (id, A3, m, c3, is.set j v)) (wr.setCell ⟨g3, j, none⟩ (.int .i64 v))) := by
  have hkl := (List.getElem?_eq_some_iff.1 hx).1
  have hlen := h.no.len
  have hmx := List.mem_of_getElem? hx
  have hm := h.no.mem _ hmx
  obtain ⟨gr, cur, rfl, hbg, K, hnc, hcm, hsz, ht⟩ := blk_own h.no.row (by omega)
  obtain ⟨g3, cur3, e3, hb3, K3, hn3, hc3, hs3, ht3⟩ := blk_own (A := A3) (n := m) (c := c3) hm (by omega)
  subst e3
  refine ⟨gr, g3, rfl, rfl, ?_, ⟨_, by rw [K3.cell]; exact Array.getElem?_eq_getElem (by rw [hs3]; omega)⟩, K3.frozen _, Lib.hid (fun v => ?_)⟩
  · have hR := Reads.of_own h.no.row
    obtain ⟨ad, ea, _, _, d1⟩ := (show NA wr (some ⟨gr, 0, none⟩) n G from ⟨hR, by omega, fun g hg => ⟨Reads.of_own (h.no.mem g hg), own_nc (h.no.mem g hg)⟩⟩).at_ hx
    obtain rfl := Option.some.inj ea
    rw [at_zero] at d1
    exact d1
  · have hE : g3 < E := h.mb _ hmx g3 rfl
    have hset : wr.grownBy (wr.setCell ⟨g3, j, none⟩ (.int .i64 v)) (some g3) := ⟨rfl, rfl, rfl, by simp [World.setCell], fun b _ hne => Below.heap_setCell wr _ _ b (fun he => hne (by rw [he]))⟩
    refine ⟨h.no.upd hx hset ?_, h.rb, fun x hxm => ?_, ?_, fun b hb hbl => ?_, by simpa [World.setCell] using h.sz⟩
    · refine own_blk (K3.set_ j _) hb3 hc3 (by rw [Array.size_setIfInBounds, hs3]) hn3 ?_
      rw [Array.toList_setIfInBounds, List.take_set, ht3]
      unfold vs
      rw [List.map_set]
    · rcases set_mem_split hxm hkl with rfl | hz
      · exact fun b hb => h.mb _ hmx b hb
      · exact h.mb x (List.mem_of_mem_eraseIdx hz)
    · exact h.lo.grown hset h.lo.size (fun b hb => by cases hb; exact hb3)
    · exact (hset.block b (Nat.lt_of_lt_of_le hbl h.sz) (fun e => by injection e with e; omega)).trans (h.hi b hb hbl)
/-- what lies above -/
theorem HR.reads {u w9 wr : World} {E n c : Nat} {A : Option Addr} {G : List Gn} (h : HR u w9 E A n c G wr) {k n2 : Nat} {A2 : Option Addr} {xs : List Value} (hr : Reads w9 w9.heap.size k A2 n2 xs) (hx : ∀ ad, A2 = some ad → 0 < n2 → E ≤ ad.block) : Reads wr wr.heap.size k A2 n2 xs := by
  refine ⟨hr.1, fun h0 => ?_⟩
  obtain ⟨ad, e, hb, hc⟩ := hr.2 h0
  refine ⟨ad, e, Nat.lt_of_lt_of_le hb h.sz, fun j v hv => ?_⟩
  rw [World.cell?_of_block (w := w9) (by rw [block_of_add]; exact h.hi _ (hx ad e h0) hb)]
  exact hc j v hv
theorem HR.blk {u w9 wr : World} {E n c g : Nat} {A : Option Addr} {G : List Gn} (h : HR u w9 E A n c G wr) {ty : TypeId} {cs : Array Value} (K : Blk w9 g ty cs) (hg : E ≤ g) : Blk wr g ty cs := (h.hi g hg K.lt).trans K
/-- gangs that may be handed in again -/
structure GV (w : World) (A : Option Addr) (n c : Nat) (G : List Gn) : Prop where
  nw : NW w A n G
  na : NA w A n G
  nc : n ≤ c
theorem GV.below {w w' : World} {A : Option Addr} {n c : Nat} {G : List Gn} (h : GV w A n c G) (hb : Below w.heap.size w w') : GV w' A n c G := ⟨h.nw.below hb, h.na.below hb, h.nc⟩
theorem GV.own {w : World} {B n c : Nat} {A : Option Addr} {G : List Gn} (h : NO w B A n c G) (hn : n ≤ 100) (hm : ∀ g ∈ G, g.2.2.1 ≤ 100) : GV w A n c G := ⟨h.nw hn hm, h.na hn, own_nc h.row⟩
theorem reads_set {w : World} {k n g : Nat} {A : Option Addr} {xs : List Value} (h : Reads w w.heap.size k A n xs) (hx : ∀ ad, A = some ad → 0 < n → ad.block ≠ g) (v : Value) : Reads (w.setCell ⟨g, 0, none⟩ v) (w.setCell ⟨g, 0, none⟩ v).heap.size k A n xs := reads_grown h hx (grownBy_setCell0 w g v)
theorem GV.set {w : World} {g n c : Nat} {A : Option Addr} {G : List Gn} (h : GV w A n c G) (hx : OffB g A n G) (v : Value) : GV (w.setCell ⟨g, 0, none⟩ v) A n c G :=
  ⟨nw_kept h.nw hx (grownBy_setCell0 w g v), ⟨reads_set h.na.row hx.row v, h.na.big, fun x hm => ⟨reads_set (h.na.mem x hm).1 (hx.mem x hm) v, (h.na.mem x hm).2⟩⟩, h.nc⟩
theorem GV.hr {u w9 wr : World} {E n c n2 c2 : Nat} {A A2 : Option Addr} {G G2 : List Gn} (h : HR u w9 E A n c G wr) (hg : GV w9 A2 n2 c2 G2) (hr : ∀ ad, A2 = some ad → 0 < n2 → E ≤ ad.block) (hm : ∀ x ∈ G2, ∀ ad, x.2.1 = some ad → 0 < x.2.2.1 → E ≤ ad.block) : GV wr A2 n2 c2 G2 :=
  ⟨⟨h.reads hg.nw.row hr, hg.nw.small, fun x hx => ⟨⟨h.reads (hg.nw.each x hx).1.row (hm x hx), (hg.nw.each x hx).1.small⟩, (hg.nw.each x hx).2⟩⟩, ⟨h.reads hg.na.row hr, hg.na.big, fun x hx => ⟨h.reads (hg.na.mem x hx).1 (hm x hx), (hg.na.mem x hx).2⟩⟩, hg.nc⟩
theorem offb_new {w : World} {A : Option Addr} {n : Nat} {G : List Gn} (h : NW w A n G) : OffB w.heap.size A n G :=
  ⟨fun ad hA h0 => by
    obtain ⟨ad', e, hb, _⟩ := h.row.2 h0
    rw [hA] at e
    injection e with e
    subst e
    omega, fun x hx ad hA h0 => by
    obtain ⟨ad', e, hb, _⟩ := (h.each x hx).1.row.2 h0
    rw [hA] at e
    injection e with e
    subst e
    omega⟩
/-- the gangs so far, in a variable -/
structure DR (w : World) (g : Nat) (A : Option Addr) (n c : Nat) (G : List Gn) (wr : World) : Prop where
  box : Blk wr g 24 #[.slice A n c]
  gv : GV wr A n c G
  sh : shortL (gsM G) = gsM G
  bel : Below w.heap.size w wr

end Go.Proofs.Ytglphgfaknofcaa
