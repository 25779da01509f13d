/-
  The landed gang: Leave's closure. No statement is proved here.
-/
import Derived.Test.YtglphgfaknofcaaGx
namespace Go.Proofs.Ytglphgfaknofcaa
open Go.RowKit Go.Maps

theorem erase_mem_split {α : Type} {l : List α} {k : Nat} {z : α} (hz : z ∈ l.eraseIdx k) : z ∈ l.take k ∨ z ∈ l.drop (k + 1) := by
  rw [List.eraseIdx_eq_take_drop_succ] at hz
  exact List.mem_append.1 hz
theorem set_mem_split {α : Type} {l : List α} {k : Nat} {y z : α} (hz : z ∈ l.set k y) (hk : k < l.length) : z = y ∨ z ∈ l.eraseIdx k := by
  rw [List.set_eq_take_append_cons_drop, if_pos hk] at hz
  rw [List.eraseIdx_eq_take_drop_succ]
  rcases List.mem_append.1 hz with h | h
  · exact .inr (List.mem_append_left _ h)
  · rcases List.mem_cons.1 h with h | h
    · exact .inl h
    · exact .inr (List.mem_append_right _ h)
theorem own_same (A : Option Addr) (m m2 c : Nat) : (Value.slice A m2 c).ownBlock = (Value.slice A m c).ownBlock := by rcases A with _ | ⟨b, o, s⟩ <;> simp [Value.ownBlock]
section
variable {w w1 : World} {B n c k : Nat} {A : Option Addr} {G : List Gn} {x : Gn}
theorem NO.ne_at (h : NO w B A n c G) (hx : G[k]? = some x) : ∀ z ∈ G.eraseIdx k, ∀ p q, (slG z.2).ownBlock = some p → (slG x.2).ownBlock = some q → p ≠ q := by
  intro z hz p q hp hq
  have ha := h.apart
  have e : G = G.take k ++ x :: G.drop (k + 1) := by rw [← drop_cons hx, List.take_append_drop]
  rw [e, List.pairwise_append] at ha
  rcases erase_mem_split hz with hz | hz
  · exact ha.2.2 z hz x (List.mem_cons_self ..) p q hp hq
  · exact fun e => (List.pairwise_cons.1 ha.2.1).1 z hz q p hq hp e.symm
theorem NO.row1 (h : NO w B A n c G) (hx : G[k]? = some x) (hg : w.grownBy w1 (slG x.2).ownBlock) : w1.ownsRow B 36 2 (.slice A n c) n (flat gnv G) :=
  own_other h.row hg (fun j j' hj hj' => (h.ne x (List.mem_of_getElem? hx) j' j hj' hj).symm)
theorem NO.mem1 (h : NO w B A n c G) (hx : G[k]? = some x) (hg : w.grownBy w1 (slG x.2).ownBlock) : ∀ z ∈ G.eraseIdx k, w1.ownsRow B 3 1 (slG z.2) z.2.2.1 (vs z.2.2.2.2) := fun z hz =>
  own_other (h.mem z (List.mem_of_mem_eraseIdx hz)) hg (h.ne_at hx z hz)
theorem NO.del2 {w2 : World} {n2 c2 : Nat} {A2 : Option Addr} (h : NO w B A n c G) (hx : G[k]? = some x) (hg1 : w.grownBy w1 (slG x.2).ownBlock) (hg : w1.grownBy w2 (Value.slice A n c).ownBlock) (ho : w2.ownsRow B 36 2 (.slice A2 n2 c2) n2 (flat gnv (G.eraseIdx k)))
    (hw : ∀ j, (Value.slice A2 n2 c2).ownBlock = some j → (Value.slice A n c).ownBlock = some j ∨ w1.heap.size ≤ j) : NO w2 B A2 n2 c2 (G.eraseIdx k) :=
  ⟨ho, fun z hz => own_other (h.mem1 hx hg1 z hz) hg (h.ne z (List.mem_of_mem_eraseIdx hz)), fun z hz j j' hj hj' => by
    rcases hw j' hj' with e | e
    · exact h.ne z (List.mem_of_mem_eraseIdx hz) j j' hj e
    · have := ((h.mem1 hx hg1 z hz).lt j hj).2
      omega, h.apart.sublist (List.eraseIdx_sublist _ _)⟩
/-- the members of one gang, changed where they lie, and the gang's own cells -/
theorem NO.mset {A3 : Option Addr} {m m2 c3 : Nat} {is ls : List Int} {id : Int} (h : NO w B A n c G) (hx : G[k]? = some (id, A3, m, c3, is)) (hg1 : w.grownBy w1 (Value.slice A3 m c3).ownBlock) (ho : w1.ownsRow B 3 1 (.slice A3 m2 c3) m2 (vs ls)) :
    ∃ gr, A = some ⟨gr, 0, none⟩ ∧ B ≤ gr ∧ (∃ u, w1.cell? ⟨gr, k * 2 + 1, none⟩ = some u) ∧ w1.frozen? ⟨gr, k * 2 + 1, none⟩ = false ∧ NO (w1.setCell ⟨gr, k * 2 + 1, none⟩ (.slice A3 m2 c3)) B A n c (G.set k (id, A3, m2, c3, ls)) := by
  have hkl := (List.getElem?_eq_some_iff.1 hx).1
  have hlen := h.len
  have hR := h.row1 hx hg1
  have hown : (Value.slice A3 m2 c3).ownBlock = (Value.slice A3 m c3).ownBlock := own_same _ _ _ _
  obtain ⟨gr, cur, rfl, hbg, K, hnc, hcm, hsz, ht⟩ := blk_own hR (by omega)
  have hne : ∀ z ∈ G, ∀ j, (slG z.2).ownBlock = some j → j ≠ gr := fun z hz j hj => h.ne z hz j gr hj rfl
  have hmx := List.mem_of_getElem? hx
  refine ⟨gr, rfl, hbg, ⟨_, by rw [K.cell]; exact Array.getElem?_eq_getElem (by rw [hsz]; omega)⟩, K.frozen _, ⟨?_, fun z hz => ?_, fun z hz j j' hj hj' => ?_, ?_⟩⟩
  · refine own_blk (K.set_ (k * 2 + 1) _) hbg hcm (by rw [Array.size_setIfInBounds, hsz]) hnc ?_
    rw [Array.toList_setIfInBounds, List.take_set, ht, flat_set2 _ k (id, A3, m, c3, is) (A3, m2, c3, ls) hx]
  · rcases set_mem_split hz hkl with rfl | hz
    · exact own_off ho (fun j hj => hne _ hmx j (hown ▸ hj)) _ _
    · exact own_off (h.mem1 hx hg1 z hz) (fun j hj => hne z (List.mem_of_mem_eraseIdx hz) j hj) _ _
  · rcases set_mem_split hz hkl with rfl | hz
    · exact h.ne _ hmx j j' (hown ▸ hj) hj'
    · exact h.ne z (List.mem_of_mem_eraseIdx hz) j j' hj hj'
  · have ha := h.apart
    have e : G = G.take k ++ (id, A3, m, c3, is) :: G.drop (k + 1) := by rw [← drop_cons hx, List.take_append_drop]
    rw [List.set_eq_take_append_cons_drop, if_pos hkl]
    rw [e, List.pairwise_append] at ha
    rw [List.pairwise_append]
    have hc := List.pairwise_cons.1 ha.2.1
    refine ⟨ha.1, List.pairwise_cons.2 ⟨fun z hz p q hp hq => hc.1 z hz p q (hown ▸ hp) hq, hc.2⟩, fun y hy z hz p q hp hq => ?_⟩
    rcases List.mem_cons.1 hz with rfl | hz
    · exact ha.2.2 y hy (id, A3, m, c3, is) (List.mem_cons_self ..) p q hp (hown ▸ hq)
    · exact ha.2.2 y hy z (List.mem_cons_of_mem _ hz) p q hp hq
end
/-- gangs where one who is in the k-th has left it -/
def leftG (l : List Gm) (k : Nat) (id v : Int) (is : List Int) : List Gm := if (lessL v is).length < 2 then l.eraseIdx k else l.set k (id, lessL v is)

set_option maxRecDepth 100000 in
set_option maxHeartbeats 8000000 in
theorem leavedo_any (B n c : Nat) (A : Option Addr) (G : List Gn) (pp vp k : Nat) (id v : Int) (A3 : Option Addr) (m c3 : Nat) (is : List Int) (w : World) (hN : NO w B A n c G) (hB : B ≤ w.heap.size) (h1 : Blk w pp 3 #[.int .i64 (k : Int)]) (h2 : Blk w vp 3 #[.int .i64 v]) (hpp : pp < B) (hvp : vp < B)
    (hx : G[k]? = some (id, A3, m, c3, is)) (hf : (lessL v is).length + 1 = m) (hn : n ≤ 100) (hm : m ≤ 100) :
    Calls Try.prog 60 #[.slice A n c, .pointer (some ⟨pp, 0, none⟩), .pointer (some ⟨vp, 0, none⟩)] w (fun e w' => ∃ A2 n2 c2 G2, e = .returned (.slice A2 n2 c2) ∧ NO w' B A2 n2 c2 G2 ∧ gsM G2 = leftG (gsM G) k id v is ∧ Below B w w') := by
  have hkl := (List.getElem?_eq_some_iff.1 hx).1
  have hkn : k < n := by have := hN.len; omega
  have HX := Lib.hid hx
  have HN := Lib.hid hN
  have HB := Lib.hid hB
  have hmx : w.ownsRow B 3 1 (.slice A3 m c3) m (vs is) := hN.mem _ (List.mem_of_getElem? hx)
  have HF := Lib.hid (delf_any B m c3 A3 is vp v w hmx h2 hvp hf (by omega))
  have HOL := Lib.hid (fun j hj => (hmx.lt j hj).1)
  have k0 := h1.cell 0
  have HK := Lib.hid h1
  obtain ⟨gr, cur, hA, hbg, KR, _, _, hsz, ht⟩ := blk_own hN.row (by omega)
  subst hA
  have HKR := Lib.hid KR
  have hcellx : ∀ (u : World), u.ownsRow B 36 2 (.slice (some ⟨gr, 0, none⟩) n c) n (flat gnv G) → u.cell? ⟨gr, k * 2 + 1, none⟩ = some (.slice A3 m c3) := fun u hu => by
    obtain ⟨g', cur', e, _, K', _, _, hsz', ht'⟩ := blk_own hu (by omega)
    injection e with e
    injection e with e
    subst e
    have h1 := flat_at gnv length_gnv hx 1 (by omega)
    rw [← ht', List.getElem?_take_of_lt (by omega)] at h1
    rw [K'.cell]
    have e2 : (gnv (id, A3, m, c3, is))[1]? = some (.slice A3 m c3) := rfl
    rw [e2] at h1
    simpa using h1
  have d0 := hcellx w hN.row
  have i1 : (0 : Int) ≤ (k : Int) := by omega
  have i2 : (k : Int) < (n : Int) := by omega
  have hW : IntKind.i64.wrap ((k : Int) + 1) = (k : Int) + 1 := by rw [IntKind.wrap_i64]; omega
  have HHM := Lib.hid hm
  have HHN := Lib.hid hn
  have HHF := Lib.hid hf
  clear hN hB h1 h2 hmx hcellx KR ht hsz hx hf
  go_enter Try.func60, Try.ntmps60
  go_wp2_with fail
  refine HF.out.mono ?_
  rintro e w1 ⟨rfl, hO, hg1, hb1⟩
  have H1 := Lib.hid (And.intro hO hg1)
  have k1 := (HK.out.grown (row := (Value.slice A3 m c3).ownBlock) hg1 (fun e => by have := HOL.out _ e.symm; omega)).cell 0
  have HBB := Lib.hid ((Below.refl B w).grown hg1 HB.out HOL.out)
  have HL : Hid (m - 1 = (lessL v is).length) := Lib.hid (by have := HHF.out; omega)
  have hE2 := Lib.hid (gsM_set G k (id, A3, m - 1, c3, lessL v is))
  have hE3 := Lib.hid (gsM_erase G k)
  have HOO := Lib.hid (own_same A3 m (m - 1) c3)
  clear hO hg1 hb1 k0 d0
  by_cases hm2 : m - 1 < 2
  · have q1 : decide (((m - 1 : Nat) : Int) < 2) = true := decide_eq_true (by omega)
    have HD := Lib.hid (gdelete_any B n c k (some ⟨gr, 0, none⟩) G w1 (HN.out.row1 HX.out H1.out.2) HN.out.len hkn (by omega))
    have HR : Hid (leftG (gsM G) k id v is = (gsM G).eraseIdx k) := Lib.hid (by unfold leftG; rw [if_pos (by have := HL.out; omega)])
    clear hm2
    go_wp2_with fail
    refine HD.out.mono ?_
    rintro e w5 ⟨⟨A5, c5, rfl, hO5, hw5⟩, hg5⟩
    have HNO := Lib.hid (HN.out.del2 HX.out H1.out.2 hg5 hO5 hw5)
    have HB5 := Lib.hid (HBB.out.grown hg5 (Nat.le_trans HB.out H1.out.2.size) (fun j hj => (HN.out.row.lt j hj).1))
    clear hO5 hw5 hg5
    go_wp2
    go_ret
    exact ⟨_, _, _, _, rfl, HNO.out, by rw [hE3.out, HR.out], HB5.out⟩
  · have q1 : decide (((m - 1 : Nat) : Int) < 2) = false := decide_eq_false (by omega)
    have HR : Hid (leftG (gsM G) k id v is = (gsM G).set k (id, lessL v is)) := Lib.hid (by unfold leftG; rw [if_neg (by have := HL.out; omega)])
    obtain ⟨gr', e, hBg, ⟨u, d1⟩, d2, hNS⟩ := HN.out.mset HX.out H1.out.2 H1.out.1
    injection e with e
    injection e with e
    subst e
    have HNS := Lib.hid hNS
    have HB5 := Lib.hid (HBB.out.setCell (p := ⟨gr, k * 2 + 1, none⟩) hBg (.slice A3 (m - 1) c3))
    clear hm2 hNS
    go_wp2_with fail
    go_ret
    exact ⟨_, _, _, _, rfl, HNS.out, by rw [hE2.out, HR.out]; rfl, HB5.out⟩

end Go.Proofs.Ytglphgfaknofcaa
