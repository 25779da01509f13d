/-
  The landed gang: Form's closure. No statement is proved here.
-/
import Derived.Test.YtkbgpmgnkegipaaDoorGm
namespace Go.Proofs.YtkbgpmgnkegipaaDoor
open Go.RowKit Go.Maps

/-- the least place whose gang has not that place's Id -/
def gapFrom : Nat → List Gm → Nat
  | i, [] => i
  | i, g :: l => if g.1 = (i : Int) + 1 then gapFrom (i + 1) l else i
def gapG (l : List Gm) : Nat := gapFrom 0 l
theorem gap_step {l : List Gm} {k : Nat} {g : Gm} (hk : l[k]? = some g) (h : gapG l = gapFrom k (l.drop k)) : (g.1 = (k : Int) + 1 → gapG l = gapFrom (k + 1) (l.drop (k + 1))) ∧ (g.1 ≠ (k : Int) + 1 → gapG l = k) := by
  rw [drop_cons hk] at h
  refine ⟨fun e => h.trans (if_pos e), fun e => h.trans (if_neg e)⟩
theorem gapFrom_le : ∀ (i : Nat) (l : List Gm), gapFrom i l ≤ i + l.length
  | i, [] => Nat.le_refl _
  | i, g :: l => by
    unfold gapFrom
    have := gapFrom_le (i + 1) l
    rw [List.length_cons]
    split <;> omega
theorem gap_le (l : List Gm) : gapG l ≤ l.length := by have := gapFrom_le 0 l; unfold gapG; omega
def formG (l : List Gm) (ms : List Int) : List Gm := l.take (gapG l) ++ ((gapG l : Int) + 1, ms) :: l.drop (gapG l)

theorem gsM_ins (G : List Gn) (k : Nat) (x : Gn) : gsM (G.take k ++ x :: G.drop k) = (gsM G).take k ++ gm x :: (gsM G).drop k := by
  unfold gsM
  rw [List.map_append, List.map_take, List.map_cons, List.map_drop]
/-- one gang more, its members in a block of their own -/
theorem NO.ins {w w' : World} {B n c n2 c2 k : Nat} {A A2 : Option Addr} {G : List Gn} (h : NO w B A n c G) {x : Gn} {V : World} (hV : Below w.heap.size w V) {Bx : Nat} (hx : V.ownsRow Bx 3 1 (slG x.2) x.2.2.1 (vs x.2.2.2.2)) (hBx : w.heap.size ≤ Bx) (hB : B ≤ w.heap.size)
    (hg : V.grownBy w' (Value.slice A n c).ownBlock) (ho : w'.ownsRow B 54 2 (.slice A2 n2 c2) n2 (flat gnv (G.take k ++ x :: G.drop k))) (hw : ∀ j, (Value.slice A2 n2 c2).ownBlock = some j → (Value.slice A n c).ownBlock = some j ∨ V.heap.size ≤ j) :
    NO w' B A2 n2 c2 (G.take k ++ x :: G.drop k) := by
  have hxl : ∀ j, (slG x.2).ownBlock = some j → w.heap.size ≤ j ∧ j < V.heap.size := fun j hj => ⟨Nat.le_trans hBx (hx.lt j hj).1, (hx.lt j hj).2⟩
  have hrl : ∀ j, (Value.slice A n c).ownBlock = some j → j < w.heap.size := fun j hj => (h.row.lt j hj).2
  have hmem : ∀ z ∈ G.take k ++ x :: G.drop k, z ∈ G ∨ z = x := fun z hz => by
    rcases List.mem_append.1 hz with hz | hz
    · exact .inl (List.mem_of_mem_take hz)
    · rcases List.mem_cons.1 hz with rfl | hz
      · exact .inr rfl
      · exact .inl (List.mem_of_mem_drop hz)
  have hzl : ∀ z ∈ G, ∀ j, (slG z.2).ownBlock = some j → j < w.heap.size := fun z hz j hj => ((h.mem z hz).lt j hj).2
  refine ⟨ho, fun z hz => ?_, fun z hz j j' hj hj' => ?_, ?_⟩
  · rcases hmem z hz with hz | rfl
    · exact own_other (own_below (h.mem z hz) hV) hg (h.ne z hz)
    · exact own_other (own_down hx (by omega)) hg (fun j j' hj hj' => by have := (hxl j hj).1; have := hrl j' hj'; omega)
  · rcases hmem z hz with hz | rfl
    · rcases hw j' hj' with e | e
      · exact h.ne z hz j j' hj e
      · have := hzl z hz j hj
        have := hV.size
        omega
    · rcases hw j' hj' with e | e
      · have := (hxl j hj).1; have := hrl j' e; omega
      · have := (hxl j hj).2; omega
  · have hp : (G.take k ++ G.drop k).Pairwise fun x y => ∀ p q, (slG x.2).ownBlock = some p → (slG y.2).ownBlock = some q → p ≠ q := by rw [List.take_append_drop]; exact h.apart
    rw [List.pairwise_append] at hp ⊢
    refine ⟨hp.1, List.pairwise_cons.2 ⟨fun z hz p q hp hq => ?_, hp.2.1⟩, fun y hy z hz p q hp' hq => ?_⟩
    · have := (hxl p hp).1
      have := hzl z (List.mem_of_mem_drop hz) q hq
      omega
    · rcases List.mem_cons.1 hz with rfl | hz
      · have := (hxl q hq).1
        have := hzl y (List.mem_of_mem_take hy) p hp'
        omega
      · exact hp.2.2 y hy z hz p q hp' hq

set_option maxRecDepth 100000 in
set_option maxHeartbeats 8000000 in
theorem formdo_any (B n c : Nat) (A : Option Addr) (G : List Gn) (gp mp k : Nat) (Am : Option Addr) (m cm : Nat) (ms : List Int) (w : World) (hN : NO w B A n c G) (hB : B ≤ w.heap.size) (h1 : Blk w gp 3 #[.int .i64 (k : Int)]) (h2 : Blk w mp 27 #[.slice Am m cm]) (hI : IR w Am m ms) (hk : k ≤ n) (hn : n ≤ 100) (hgp : gp < B) (hmp : mp < B) :
    Calls Tryd.prog 27 #[.slice A n c, .pointer (some ⟨gp, 0, none⟩), .pointer (some ⟨mp, 0, none⟩)] w (fun e w' => ∃ A2 n2 c2 G2, e = .returned (.slice A2 n2 c2) ∧ NO w' B A2 n2 c2 G2 ∧ gsM G2 = (gsM G).take k ++ ((k : Int) + 1, ms) :: (gsM G).drop k ∧ Below B w w') := by
  have HS : Hid (∀ u, Below B w u → u.cell? ⟨gp, 0, none⟩ = some (.int .i64 (k : Int)) ∧ u.cell? ⟨mp, 0, none⟩ = some (.slice Am m cm)) := Lib.hid (fun u hu => ⟨(h1.below hu hgp).cell 0, (h2.below hu hmp).cell 0⟩)
  have HCl := Lib.hid (fun (u : World) (hu : Below w.heap.size w u) => clone_any Am m cm ms u (hI.below hu))
  have HN := Lib.hid hN
  have HB := Lib.hid hB
  have HK := Lib.hid hk
  have D0 := (Below.refl w.heap.size w).drew
  have k0 := HS.out _ (D0.mono hB)
  have HW1 : Hid (IntKind.i64.wrap ((k : Int) + 1) = (k : Int) + 1) := Lib.hid (by rw [IntKind.wrap_i64]; omega)
  have hW := HW1.out
  clear hN hB h1 h2 hI hk
  go_enter Tryd.func27, Tryd.ntmps27
  go_upto_region 1 with fail
  go_region_held3 (fun w' => w'.cell? ⟨gp, 0, none⟩ = some (.int .i64 (k : Int)) ∧ w'.cell? ⟨mp, 0, none⟩ = some (.slice Am m cm))
    (first | exact k2 | exact k3 | exact k1 | exact k0)
    (first
      | (go_at_call 28; go_must ((refine (HIn.out).mono ?_); rintro e w5 ⟨⟨A5, c5, rfl, hO5, hw5⟩, hg5⟩; have HNO := Lib.hid (HN.out.ins D3 (x := ((k : Int) + 1, A4, m, c4, ms)) (O4.alloc _) (D0.size) HB.out hg5 hO5 hw5); have BB := D3.mono HB.out; have HBB := Lib.hid (BB.grown hg5 (Nat.le_trans HB.out D3.size) (fun j hj => (HN.out.row.lt j hj).1)); have k2 := HS.out _ HBB.out; clear hg5 hO5 hw5))
      | (go_at_call 29; (with_reducible refine (HCl.out _ D0).mono ?_); rintro e w4 ⟨A4, c4, rfl, O4, h9⟩; have D1 := D0.trans (h9.mono D0.size); have k1 := HS.out _ (D1.mono HB.out); have D3 := D1.alloc D1.size (.cells #[.int .i64 ((k : Int) + 1), .slice A4 m c4] 54); have k3 := HS.out _ (D3.mono HB.out); have HIn := Lib.hid (ginsert_any B n c k A G w4.heap.size ((k : Int) + 1, A4, m, c4, ms) (w4.alloc (.cells #[.int .i64 ((k : Int) + 1), .slice A4 m c4] 54)) ((own_below HN.out.row D1).alloc _) (by have := HB.out; have := D1.size; simp; omega) (Blk.new _ _ _) (fun j hj => by have := (HN.out.row.lt j hj).2; have := D1.size; omega) HN.out.len HK.out (by omega)); clear h9))
  have HE := Lib.hid (gsM_ins G k ((k : Int) + 1, A4, m, c4, ms))
  clear k0 k1 k2 k3 D0 D1 D3 O4 BB HIn
  go_wp2
  go_ret
  exact ⟨_, _, _, _, rfl, HNO.out, HE.out, HBB.out⟩

end Go.Proofs.YtkbgpmgnkegipaaDoor
