/-
  Maps held over calls; a domain's sum; each virtual CPU's rate (for DomainParts' walk). No statement is proved here.
-/
import Derived.Test.YtknimnopopnbhaaFi
namespace Go.Proofs.Ytknimnopopnbhaa
open Go.RowKit Go.Maps

/-- block b is a map in which the numbers of L have been counted once each -/
structure MC (w : World) (b : Nat) (L : List Int) : Prop where
  own : w.ownsMap Try.prog 3 (plainElem (H := Unit) Try.prog 3) b L.length (cnt L)
section
variable {w w' : World} {b b' : Nat} {L : List Int}
theorem MC.made (w : World) : MC (w.alloc (.map #[] 0)) w.heap.size [] := ⟨World.ownsMap_made _ _ _ _⟩
theorem MC.lt (h : MC w b L) : b < w.heap.size := h.own.lt
theorem MC.alloc (h : MC w b L) (o : Obj) : MC (w.alloc o) b L := ⟨h.own.alloc o⟩
theorem MC.below (h : MC w b L) (hb : Below w.heap.size w w') : MC w' b L := by
  have hlt := h.lt
  obtain ⟨es, clock, hh, F, hs, hD⟩ := h.own
  exact ⟨es, clock, (hb.block b hlt).trans hh, F, hs, hD⟩
theorem MC.other (h : MC w b L) (hg : w.grownBy w' (some b')) (hne : b ≠ b') : MC w' b L := ⟨h.own.kept hg (by simpa using hne)⟩
theorem MC.step {x : Int} (hx : x ∉ L) {c : Int} (hat : (cnt (H := Unit) L).atKey (.int .i64 x) (.lit (.int .i64 0)) = .lit (.int .i64 c))
    (h : w'.ownsMap Try.prog 3 (plainElem (H := Unit) Try.prog 3) b (L.length + 1) ((cnt L).put (.int .i64 x) (.lit (.int .i64 (wrap64 (c + 1)))))) : MC w' b (L ++ [x]) := by
  rw [cnt_step L x hx hat, show wrap64 (0 + 1) = 1 from by unfold wrap64; omega] at h
  refine ⟨?_⟩
  rw [cnt_snoc, List.length_append]
  exact h
/-- what is a map is no row of cells -/
theorem MC.block (h : MC w b L) : ∃ es clock, w.heap[b]? = some (.map es clock) := by
  obtain ⟨es, clock, hh, _⟩ := h.own
  exact ⟨es, clock, hh⟩
theorem Blk.ofMap {g : Nat} {t : TypeId} {cs : Array Value} (h : Blk w g t cs) (m : MC w b L) (hg : w.grownBy w' (some b)) : Blk w' g t cs := by
  obtain ⟨es, clock, hh⟩ := m.block
  refine (hg.block g h.lt (fun e => ?_)).trans h
  injection e with e
  subst e
  unfold Blk at h
  rw [hh] at h
  cases h
theorem block_add (ad : Addr) (j : Nat) : (ad.add j).block = ad.block := by cases ad; unfold Addr.add; first | rfl | (split <;> rfl)
/-- a row of numbers that lies somewhere -/
structure NR (w : World) (A : Option Addr) (n : Nat) (l : List Int) : Prop where
  reads : Reads w w.heap.size 1 A n (vs l)
theorem NR.below {A : Option Addr} {n : Nat} {l : List Int} (h : NR w A n l) (hb : Below w.heap.size w w') : NR w' A n l := ⟨(h.reads.below hb).more hb.size⟩
theorem NR.alloc {A : Option Addr} {n : Nat} {l : List Int} (h : NR w A n l) (o : Obj) : NR (w.alloc o) A n l := h.below ((Below.refl _ _).alloc (Nat.le_refl _) o)
theorem NR.grown {A : Option Addr} {n : Nat} {l : List Int} (h : NR w A n l) (m : MC w b L) (hg : w.grownBy w' (some b)) (hsz : w.heap.size ≤ w'.heap.size) : NR w' A n l := by
  obtain ⟨es, clock, hh⟩ := m.block
  obtain ⟨h1, h2⟩ := h.reads
  refine ⟨h1, fun hn => ?_⟩
  obtain ⟨ad, e, hb, hc⟩ := h2 hn
  refine ⟨ad, e, by omega, fun j u hj => ?_⟩
  have q := hc j u hj
  have hne : some ad.block ≠ some b := by
    intro e
    injection e with e
    subst e
    unfold World.cell? at q
    rw [block_add, hh] at q
    cases q
  rw [World.cell?_of_block (w := w) (by rw [block_add]; exact hg.block ad.block hb hne)]
  exact q
theorem NR.at_ {A : Option Addr} {n : Nat} {l : List Int} (h : NR w A n l) {j : Nat} {x : Int} (hx : l[j]? = some x) : ∃ ad, A = some ad ∧ w.cell? (ad.add j) = some (.int .i64 x) := by
  obtain ⟨h1, h2⟩ := h.reads
  rw [length_vs] at h1
  have := (List.getElem?_eq_some_iff.1 hx).1
  obtain ⟨ad, e, _, hc⟩ := h2 (by omega)
  exact ⟨ad, e, hc j _ (by unfold vs; rw [List.getElem?_map, hx]; rfl)⟩
end
/-- x told j times -/
def tms (x : Int) : Nat → Int
  | 0 => 0
  | j + 1 => tms x j + x
theorem tms_mul (x : Int) : ∀ j : Nat, tms x j = x * (j : Int)
  | 0 => by simp [tms]
  | j + 1 => by
    unfold tms
    rw [tms_mul x j, Int.natCast_add, Int.mul_add]
    simp
theorem tms_bound {x : Int} (h0 : 0 ≤ x) (h1 : x ≤ 65535) : ∀ j : Nat, 0 ≤ tms x j ∧ tms x j ≤ 65535 * (j : Int)
  | 0 => by simp [tms]
  | j + 1 => by have := tms_bound h0 h1 j; unfold tms; omega
theorem tms_step {x : Int} (h0 : 0 ≤ x) (h1 : x ≤ 65535) {j : Nat} (hj : j < 1000) : wrap64 (tms x j + x) = tms x (j + 1) := by
  have := tms_bound h0 h1 j
  show wrap64 (tms x j + x) = tms x j + x
  unfold wrap64
  omega
theorem tms_wrap {x : Int} (h0 : 0 ≤ x) (h1 : x ≤ 65535) {j : Nat} (hj : j < 1000) : wrap64 (x * (j : Int)) = tms x j := by
  have := tms_bound h0 h1 j
  rw [← tms_mul]
  unfold wrap64
  omega
theorem ws_bound {ds : List Dom} {us : List Vc} (h : RightP ds us) : ∀ k, k ≤ ds.length → 0 ≤ wsK ds us k ∧ wsK ds us k ≤ 65535 * (k : Int)
  | 0, _ => by simp [wsK]
  | k + 1, hk => by
    have ih := ws_bound h k (by omega)
    obtain ⟨x, hx⟩ := elem_at (l := ds) (k := k) (by omega)
    have hr := rightD_iff.1 (h.od x (List.mem_of_getElem? hx))
    unfold wsK
    rw [dgetD hx]
    split <;> omega
theorem rate_of {ds : List Dom} {us : List Vc} (hP : RightP ds us) {x : Dom} (hx : x ∈ ds) {v : Int} (hv : v ∈ ofL us x.1) : rateQ ds us v = (x.2.1, (ofL us x.1).length, true) := by
  rw [← idsL_of] at hv
  obtain ⟨u, hu, h1, rfl⟩ := mem_ids.1 hv
  have h2 : u.2.1 = x.1 := eq_of_beq h1
  have e1 : vcQ ds us u.1 = (u, true) := (if_pos (rightG_iff.2 hP)).trans (vcV_some (kf_mem hP.rv hu))
  have e2 : domV ds x.1 = (x, true) := domV_some (kf_mem hP.rd hx)
  unfold rateQ
  rw [e1]
  show (if true = true then ((domV ds u.2.1).1.2.1, (ofL us u.2.1).length, true) else _) = _
  rw [if_pos rfl, h2, e2]
theorem parts_take {ds : List Dom} {us : List Vc} (hP : RightP ds us) {k : Nat} {x : Dom} (hx : ds[k]? = some x) {j : Nat} {v : Int} (hv : (ofL us x.1)[j]? = some v) : v ∉ partsK (byDom ds) us k ++ (ofL us x.1).take j := by
  have hk := (List.getElem?_eq_some_iff.1 hx).1
  rw [List.mem_append]
  have hm : v ∈ ofL us x.1 := List.mem_of_getElem? hv
  rintro (h | h)
  · obtain ⟨i, hi, u, hu, h1, h2⟩ := (mem_parts _ _).1 h
    rw [← byDom_of hx] at hm
    obtain ⟨u', hu', h3, h4⟩ := mem_ids.1 hm
    have e : u = u' := by
      have a := kf_mem hP.rv hu
      have b := kf_mem hP.rv hu'
      rw [h2, ← h4, b] at a
      injection a with a
      exact a.symm
    subst e
    have := dom_disj hP (by omega) hk h1 h3
    omega
  · exact nodup_take (by rw [← idsL_of]; exact ids_nodup hP.rv _) hv h
where
  nodup_take {l : List Int} (hN : l.Nodup) {j : Nat} {v : Int} (hv : l[j]? = some v) : v ∉ l.take j := by
    intro h
    obtain ⟨i, hi⟩ := List.mem_iff_getElem?.1 h
    obtain ⟨h1, h2⟩ := List.getElem?_eq_some_iff.1 hi
    rw [List.length_take] at h1
    rw [List.getElem_take] at h2
    obtain ⟨h3, h4⟩ := List.getElem?_eq_some_iff.1 hv
    have := (List.pairwise_iff_getElem.1 hN) i j (by omega) h3 (by omega)
    exact this (h2.trans h4.symm)
theorem dom_lt {ds : List Dom} {us : List Vc} (hP : RightP ds us) {j : Nat} {v : Vc} (hv : v ∈ us) (h : byDom ds j v = true) : j < ds.length := by
  rcases Nat.lt_or_ge j ds.length with hl | hl
  · exact hl
  · unfold byDom at h
    rw [List.getD_eq_getElem?_getD, List.getElem?_eq_none hl] at h
    have h0 : v.2.1 = 0 := eq_of_beq h
    obtain ⟨x, hx⟩ := kf_is (hP.ov v hv).2.2.1
    have q := kf_some hx
    have := rightD_iff.1 (hP.od x q.1)
    omega
theorem dom_one {ds : List Dom} {us : List Vc} (hP : RightP ds us) (j j' : Nat) (v : Vc) (hv : v ∈ us) (h1 : byDom ds j v = true) (h2 : byDom ds j' v = true) : j = j' := dom_disj hP (dom_lt hP hv h1) (dom_lt hP hv h2) h1 h2
theorem parts_len {ds : List Dom} {us : List Vc} (hP : RightP ds us) (k : Nat) : (partsK (byDom ds) us k).length ≤ 16 := by
  rw [len_parts (dom_one hP)]
  have := hP.vn
  have := List.countP_le_length (p := inSome (byDom ds) k) (l := us)
  omega
theorem id_wf {ds : List Dom} {us : List Vc} (hP : RightP ds us) {p : Vc → Bool} {v : Int} (hv : v ∈ idsL p us) : (Lit.int .i64 v).wf = true := by
  obtain ⟨u, hu, _, rfl⟩ := mem_ids.1 hv
  have := hP.ov u hu
  rw [show u.1 = wrap64 u.1 by unfold wrap64; omega]
  exact wrap64_wf _
end Go.Proofs.Ytknimnopopnbhaa
