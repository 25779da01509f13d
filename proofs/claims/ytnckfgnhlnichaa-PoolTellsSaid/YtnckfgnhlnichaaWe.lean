/-
  PoolTells' walk, on what is asked of the landed calls.
-/
import Derived.Test.YtnckfgnhlnichaaWd
import Derived.Laws.BitsAllLaws
namespace Go.Proofs.Ytnckfgnhlnichaa
open Go.RowKit

theorem or_next {L : List Nat} (hr : rightP L = true) {q y : Nat} (hq : q < L.length) (hy : L[q]? = some y) : bits .or .u32 ((orK L q : Nat) : Int) ((y : Nat) : Int) = ((orK L (q + 1) : Nat) : Int) := by
  have h1 := orK_lt (right_parts8 hr).2.2.1 q (by omega)
  have h2 := u32s_right hr y (List.mem_of_getElem? hy)
  rw [u32_or_nat _ _ (by omega) h2]
  show ((orK L q ||| y : Nat) : Int) = ((orK L q ||| L.getD q 0 : Nat) : Int)
  rw [getD_at hy]

namespace T8
/-- the row is a call's own -/
def At (w : World) (A : Option Addr) (n c : Nat) (l : List Nat) : Prop := (∃ base, w.ownsRow base 29 1 (.slice A n c) n (us l)) ∧ l.length ≤ 12
/-- the row does not lie in block g -/
def NotIn (A : Option Addr) (n c g : Nat) : Prop := ∀ k, (Value.slice A n c).ownBlock = some k → k ≠ g
theorem NotIn.far {V w' : World} {n c g : Nat} {A : Option Addr} {xs : List Value} (h : w'.ownsRow V.heap.size 29 1 (.slice A n c) n xs) (hg : g < V.heap.size) : NotIn A n c g := fun k hk => by have := (h.lt k hk).1; omega
theorem NotIn.new {V : World} {A : Option Addr} {n c : Nat} {l : List Nat} (h : At V A n c l) : NotIn A n c V.heap.size := fun k hk => by
  obtain ⟨⟨base, h⟩, _⟩ := h
  have := (h.lt k hk).2
  omega
theorem At.set {w : World} {A : Option Addr} {n c g : Nat} {l : List Nat} (h : At w A n c l) (hx : NotIn A n c g) (u : Value) : At (w.setCell ⟨g, 0, none⟩ u) A n c l := by
  obtain ⟨⟨base, h⟩, hl⟩ := h
  exact ⟨⟨base, own_off h hx u⟩, hl⟩
theorem At.below {w w' : World} {A : Option Addr} {n c : Nat} {l : List Nat} (h : At w A n c l) (hb : Below w.heap.size w w') : At w' A n c l := by
  obtain ⟨⟨base, h⟩, hl⟩ := h
  exact ⟨⟨base, own_below h hb⟩, hl⟩
theorem at_far {V w' : World} {A : Option Addr} {n c : Nat} {l : List Nat} (h : w'.ownsRow V.heap.size 29 1 (.slice A n c) n (us l)) (_ : True) (_ : True) (h9 : l.length ≤ 12) : At w' A n c l := ⟨⟨_, h⟩, h9⟩
/-- what a short answers -/
def Gives (l : List Nat) (w : World) (e : Ending) (w' : World) : Prop :=
  ∃ A n c, e = .returned (.agg #[.slice A n c]) ∧ True ∧ True ∧ w'.ownsRow w.heap.size 29 1 (.slice A n c) n (us l) ∧ Below w.heap.size w w'
theorem gives {l : List Nat} {w : World} {e : Ending} {w' : World} (h : GivesP l w e w') : Gives l w e w' := by
  obtain ⟨A, c, he, ho, hb⟩ := h
  exact ⟨A, _, c, he, trivial, trivial, ho, hb⟩
end T8
open T8

set_option maxRecDepth 100000 in
set_option maxHeartbeats 32000000 in
theorem tells_walk {G : World → Prop} (hG : Steady G) (hCk : PCheckOk G) (hSa : PSameOk G) (hCp : PCpusOk G) (hOf : POfOk G) (hSe : PSetOk G) (A A' : Option Addr) (n c n' c' : Nat) (ls : List InnerP) (cs : List Int) (w : World) (hg : G w)
    (hR : Reads w w.heap.size 1 A n (ls.map InnerP.val)) (hok : ∀ (k : Nat) (x : InnerP), ls[k]? = some x → x.ok w) (hR' : Reads w w.heap.size 1 A' n' (vs cs))
    (hk : ∀ u, G u → Calls Try.prog 9 #[] u (Said (.bool true) u)) :
    Calls Try.prog 4 #[.slice A n c, .slice A' n' c'] w (Said (.bool true) w) := by
  have HGs := Lib.hid (fun (u : World) (h : Below w.heap.size w u) => hG w u hg h)
  have HK := Lib.hid (hk w hg)
  have HR := Lib.hid hR
  have HR' := Lib.hid hR'
  have HOk := Lib.hid hok
  have HCk := Lib.hid hCk
  have HSa := Lib.hid hSa
  have HCp := Lib.hid hCp
  have HOf := Lib.hid hOf
  have HSe := Lib.hid hSe
  have HG := Lib.hid hG
  clear hk hR hR' hok hCk hSa hCp hOf hSe hg hG
  go_enter Try.func4, Try.ntmps4
  go_wp2_with fail
  refine HK.out.mono ?_
  rintro e w1 ⟨rfl, h1⟩
  go_wp2_with fail
  go_loopw [25] (fun i wr => ∃ k : Nat, k ≤ n ∧ k ≤ 8 ∧ i = .int .i64 (k : Int) ∧ Below w.heap.size w wr) (fun i _ => n - (intOf i).toNat)
  case atStart => exact ⟨0, by omega, by omega, rfl, h1⟩
  case round =>
    clear h1
    obtain ⟨k, hk, hk8, rfl, hB⟩ := hrel
    by_cases hlt : k < n
    · obtain ⟨ad, v, rfl, hadb, hx, hc⟩ := (HR.out.below hB).at_ hlt
      obtain ⟨x, hs, rfl⟩ := innerP_at hx
      have hxo := HOk.out k x hs
      have j0 : (0 : Int) ≤ (k : Int) := by omega
      have j1 : (k : Int) < (n : Int) := by omega
      have n0 : 0 < n := by omega
      have hsz := hB.size
      clear hx hs
      by_cases h8 : k = 8
      · have g8 : ((k : Int) == 8) = true := by simp; omega
        have hB2 := hB.alloc hsz (.cells #[.slice x.A x.n x.c] 24)
        clear h8 hk8 hxo hB
        go_wp2
        go_ret
        exact ⟨rfl, hB2⟩
      · have g8 : ((k : Int) == 8) = false := by simp; omega
        have HJ := Lib.hid (show k + 1 ≤ n ∧ k + 1 ≤ 8 by omega)
        have j9 : k < 100 := by omega
        obtain ⟨ad0, v0, e0, _, hx0, hc0⟩ := (HR.out).at_ (k := 0) n0
        obtain rfl := Option.some.inj e0
        obtain ⟨y, hs0, rfl⟩ := innerP_at hx0
        have hyo := HOk.out 0 y hs0
        have HY : Hid (∀ u, Below w.heap.size w u → u.cell? ad = some (.slice y.A y.n y.c)) := Lib.hid (fun u hb => (hb.cell (p := ad) hadb).trans hc0)
        obtain ⟨L, hL⟩ : ∃ L, x.l.take 12 = L := ⟨_, rfl⟩
        obtain ⟨M, hM⟩ : ∃ M, y.l.take 12 = M := ⟨_, rfl⟩
        have H91 : Hid (L.length ≤ 12) := Lib.hid (by rw [← hL]; exact List.length_take_le _ _)
        have H92 : Hid (M.length ≤ 12) := Lib.hid (by rw [← hM]; exact List.length_take_le _ _)
        have HU1 : Hid (U32s L) := Lib.hid (hL ▸ u32s_take hxo.2.2 12)
        have HU2 : Hid (U32s M) := Lib.hid (hM ▸ u32s_take hyo.2.2 12)
        have HSx0 : Hid (∀ u, Below w.heap.size w u → Calls Try.prog 10 #[.agg #[.slice x.A x.n x.c]] u (GivesP L u)) := Lib.hid (fun u hb => hL ▸ shortP_any x.A x.n x.c x.l u ((hxo.1.below hb).more hb.size) hxo.2.1)
        have HS1 : Hid (∀ u, Below w.heap.size w u → Calls Try.prog 10 #[.agg #[.slice x.A x.n x.c]] u (Gives L u)) := Lib.hid (fun u hb => (HSx0.out u hb).mono fun _ _ h => gives h)
        have HS2 : Hid (∀ u, Below w.heap.size w u → Calls Try.prog 10 #[.agg #[.slice y.A y.n y.c]] u (Gives M u)) := Lib.hid (fun u hb => (hM ▸ shortP_any y.A y.n y.c y.l u ((hyo.1.below hb).more hb.size) hyo.2.1 : Calls _ _ _ u (GivesP M u)).mono fun _ _ h => gives h)
        have KB := Blk.new wr 24 #[.slice x.A x.n x.c]
        have GB := hB.alloc hsz (.cells #[.slice x.A x.n x.c] 24)
        clear h8 hk8 hxo hyo hL hM hs0 hx0 hc0 e0 hB
        go_upto_region 7 with fail
        generalize wr.alloc (.cells #[.slice x.A x.n x.c] 24) = W0 at KB GB ⊢
        generalize wr.heap.size = g6 at KB hsz ⊢
        replace KB : Blk W0.drew _ _ _ := KB
        replace GB := GB.drew
        clear hc
        go_cut [7, 8] (fun s7 s8 X => ∃ (g7 g8 : Nat) (A1 : Option Addr) (n1 c1 : Nat) (A2 : Option Addr) (n2 c2 : Nat), s7 = .pointer (some ⟨g7, 0, none⟩) ∧ s8 = .pointer (some ⟨g8, 0, none⟩) ∧ w.heap.size ≤ g7 ∧ w.heap.size ≤ g8 ∧
          Blk X g7 24 #[.slice A1 n1 c1] ∧ Blk X g8 24 #[.slice A2 n2 c2] ∧ At X A1 n1 c1 L ∧ At X A2 n2 c2 M ∧ Blk X g6 24 #[.slice x.A x.n x.c] ∧ Below w.heap.size w X)
        case first =>
          as_aux_lemma =>
            refine wp_region_held_drew (S := fun W => Blk W g6 24 #[.slice x.A x.n x.c] ∧ Below w.heap.size w W) (by kernel_rfl) ⟨KB, GB⟩ (fun hS => ?_)
            generalize W0.drew = V at KB GB hS ⊢
            refine wpAnyH_take (i := 0) (v := .agg #[.slice x.A x.n x.c]) rfl (by kernel_rfl) (by kernel_rfl) (by kernel_rfl) (fun _ _ _ h => h) (Or.inl ⟨by rfl, fun u hSw => (by have c0 : u.cell? ⟨g6, 0, none⟩ = some (.slice x.A x.n x.c) := hSw.1.cell 0; go_simp)⟩) hS ?_
            refine wpAnyH_take (i := 2) (v := .slice (some ad) n c) rfl (by kernel_rfl) (by kernel_rfl) (by kernel_rfl) (fun _ _ _ h => h) (Or.inl ⟨by rfl, fun u hSw => (by go_simp)⟩) hS ?_
            refine wpAnyH_take (i := 3) (v := .pointer (some ad)) rfl (by kernel_rfl) (by kernel_rfl) (by kernel_rfl) (fun _ _ _ h => h) (Or.inl ⟨by rfl, fun u hSw => (by go_simp)⟩) hS ?_
            refine wpAnyH_take (i := 4) (v := .agg #[.slice y.A y.n y.c]) rfl (by kernel_rfl) (by kernel_rfl) (by kernel_rfl) (fun _ _ _ h => h) (Or.inl ⟨by rfl, fun u hSw => (by have c0 := HY.out u hSw.2; go_simp)⟩) hS ?_
            refine wpAnyH_ready (rs := [1, 6, 7]) (by kernel_rfl) (by simp) ?_
            refine AllReadyH.cons rfl (fun K hK => ?_) (AllReadyH.cons rfl (fun K hK => ?_) (AllReadyH.cons rfl (fun K hK => ?_) (AllReadyH.nil)))
            · skip
              go_simp
              refine (HS1.out _ GB).mono ?_
              rintro e w1 ⟨A1, n1, c1, rfl, hl1, hc1, hf1, h1⟩
              replace KB := KB.below h1 KB.lt
              have hA1 : At w1 A1 n1 c1 L := at_far hf1 hc1 hl1 H91.out
              replace GB := GB.trans (h1.mono GB.size)
              clear h1 hf1 hc1 hl1
              refine hK.out _ _ ⟨KB, GB⟩ (fun hS => ?_)
              clear hK K
              refine wpAnyH_ready (rs := [5, 6, 7]) (by kernel_rfl) (by simp) ?_
              refine AllReadyH.cons rfl (fun K hK => ?_) (AllReadyH.cons rfl (fun K hK => ?_) (AllReadyH.cons rfl (fun K hK => ?_) (AllReadyH.nil)))
              · skip
                go_simp
                refine (HS2.out _ GB).mono ?_
                rintro e w2 ⟨A2, n2, c2, rfl, hl2, hc2, hf2, h2⟩
                replace KB := KB.below h2 KB.lt
                replace hA1 := hA1.below h2
                have hA2 : At w2 A2 n2 c2 M := at_far hf2 hc2 hl2 H92.out
                replace GB := GB.trans (h2.mono GB.size)
                clear h2 hf2 hc2 hl2
                refine hK.out _ _ ⟨KB, GB⟩ (fun hS => ?_)
                clear hK K
                refine wpAnyH_ready (rs := [6, 7]) (by kernel_rfl) (by simp) ?_
                refine AllReadyH.cons rfl (fun K hK => ?_) (AllReadyH.cons rfl (fun K hK => ?_) (AllReadyH.nil))
                · skip
                  go_simp
                  have F7 := Blk.new w2 24 #[.slice none 0 0]
                  have lk7 := KB.lt
                  have lb7 := GB.size
                  have x1_7 := NotIn.new hA1
                  have x2_7 := NotIn.new hA2
                  replace KB := KB.alloc (.cells #[.slice none 0 0] 24)
                  replace hA1 := hA1.below ((Below.refl _ _).alloc (Nat.le_refl _) (.cells #[.slice none 0 0] 24))
                  replace hA2 := hA2.below ((Below.refl _ _).alloc (Nat.le_refl _) (.cells #[.slice none 0 0] 24))
                  replace GB := GB.alloc GB.size (.cells #[.slice none 0 0] 24)
                  refine hK.out _ _ ⟨KB, GB⟩ (fun hS => ?_)
                  clear hK K
                  generalize w2.alloc (.cells #[.slice none 0 0] 24) = U3 at KB GB hS F7 hA1 hA2 ⊢
                  generalize w2.heap.size = g7 at F7 lk7 lb7 x1_7 x2_7 ⊢
                  refine wpAnyH_ready (rs := [7]) (by kernel_rfl) (by simp) ?_
                  refine AllReadyH.cons rfl (fun K hK => ?_) (AllReadyH.nil)
                  go_simp
                  have F8 := Blk.new U3 24 #[.slice none 0 0]
                  have lk8 := KB.lt
                  have lb8 := GB.size
                  have l78 := F7.lt
                  have x1_8 := NotIn.new hA1
                  have x2_8 := NotIn.new hA2
                  replace KB := KB.alloc (.cells #[.slice none 0 0] 24)
                  replace F7 := F7.alloc (.cells #[.slice none 0 0] 24)
                  replace hA1 := hA1.below ((Below.refl _ _).alloc (Nat.le_refl _) (.cells #[.slice none 0 0] 24))
                  replace hA2 := hA2.below ((Below.refl _ _).alloc (Nat.le_refl _) (.cells #[.slice none 0 0] 24))
                  replace GB := GB.alloc GB.size (.cells #[.slice none 0 0] 24)
                  refine hK.out _ _ ⟨KB, GB⟩ (fun hS => ?_)
                  clear hK K
                  generalize U3.alloc (.cells #[.slice none 0 0] 24) = U4 at KB GB hS F8 F7 hA1 hA2 ⊢
                  generalize U3.heap.size = g8 at F8 lk8 lb8 l78 x1_8 x2_8 ⊢
                  refine wpAnyH_ready (rs := [8]) (by kernel_rfl) (by simp) ?_
                  refine AllReadyH.cons rfl (fun K hK => ?_) (AllReadyH.nil)
                  have d0 := F7.cell 0
                  have f0 := F7.frozen 0
                  have KB2 := KB.far (p := ⟨g7, 0, none⟩) (by simp; omega) (.slice A1 n1 c1)
                  have GB2 := GB.setCell (p := ⟨g7, 0, none⟩) (by simp; omega) (.slice A1 n1 c1)
                  have G7 := (put1 (x := (.slice A1 n1 c1)) F7 GB (by omega)).1
                  have G8 := F8.far (p := ⟨g7, 0, none⟩) (by simp; omega) (.slice A1 n1 c1)
                  have hB1 := hA1.set x1_7 (.slice A1 n1 c1)
                  have hB2 := hA2.set x2_7 (.slice A1 n1 c1)
                  clear KB GB F7 F8 hA1 hA2 hS
                  go_simp
                  refine hK.out _ _ ⟨KB2, GB2⟩ (fun hS => ?_)
                  clear hK K d0 f0
                  generalize U4.setCell ⟨g7, 0, none⟩ (.slice A1 n1 c1) = U5 at KB2 GB2 hS G7 G8 hB1 hB2 ⊢
                  have KB := KB2
                  have GB := GB2
                  have F7 := G7
                  have F8 := G8
                  have hA1 := hB1
                  have hA2 := hB2
                  clear KB2 GB2 G7 G8 hB1 hB2
                  refine wpAnyH_ready (rs := [9]) (by kernel_rfl) (by simp) ?_
                  refine AllReadyH.cons rfl (fun K hK => ?_) (AllReadyH.nil)
                  have d0 := F8.cell 0
                  have f0 := F8.frozen 0
                  have KB2 := KB.far (p := ⟨g8, 0, none⟩) (by simp; omega) (.slice A2 n2 c2)
                  have GB2 := GB.setCell (p := ⟨g8, 0, none⟩) (by simp; omega) (.slice A2 n2 c2)
                  have G8 := (put1 (x := (.slice A2 n2 c2)) F8 GB (by omega)).1
                  have G7 := F7.far (p := ⟨g8, 0, none⟩) (by simp; omega) (.slice A2 n2 c2)
                  have hB1 := hA1.set x1_8 (.slice A2 n2 c2)
                  have hB2 := hA2.set x2_8 (.slice A2 n2 c2)
                  clear KB GB F8 F7 hA1 hA2 hS
                  go_simp
                  refine hK.out _ _ ⟨KB2, GB2⟩ (fun hS => ?_)
                  clear hK K d0 f0
                  generalize U5.setCell ⟨g8, 0, none⟩ (.slice A2 n2 c2) = U6 at KB2 GB2 hS G7 G8 hB1 hB2 ⊢
                  have KB := KB2
                  have GB := GB2
                  have F7 := G7
                  have F8 := G8
                  have hA1 := hB1
                  have hA2 := hB2
                  clear KB2 GB2 G7 G8 hB1 hB2
                  refine wpAnyH_done (by kernel_rfl) ?_ _
                  go_wp2_with fail
                  go_meet
                  exact ⟨g7, g8, A1, n1, c1, A2, n2, c2, rfl, rfl, by omega, by omega, F7, F8, hA1, hA2, KB, GB⟩
                · skip
                  go_simp
                  have F8 := Blk.new w2 24 #[.slice none 0 0]
                  have lk8 := KB.lt
                  have lb8 := GB.size
                  have x1_8 := NotIn.new hA1
                  have x2_8 := NotIn.new hA2
                  replace KB := KB.alloc (.cells #[.slice none 0 0] 24)
                  replace hA1 := hA1.below ((Below.refl _ _).alloc (Nat.le_refl _) (.cells #[.slice none 0 0] 24))
                  replace hA2 := hA2.below ((Below.refl _ _).alloc (Nat.le_refl _) (.cells #[.slice none 0 0] 24))
                  replace GB := GB.alloc GB.size (.cells #[.slice none 0 0] 24)
                  refine hK.out _ _ ⟨KB, GB⟩ (fun hS => ?_)
                  clear hK K
                  generalize w2.alloc (.cells #[.slice none 0 0] 24) = U7 at KB GB hS F8 hA1 hA2 ⊢
                  generalize w2.heap.size = g8 at F8 lk8 lb8 x1_8 x2_8 ⊢
                  refine wpAnyH_ready (rs := [6]) (by kernel_rfl) (by simp) ?_
                  refine AllReadyH.cons rfl (fun K hK => ?_) (AllReadyH.nil)
                  go_simp
                  have F7 := Blk.new U7 24 #[.slice none 0 0]
                  have lk7 := KB.lt
                  have lb7 := GB.size
                  have l87 := F8.lt
                  have x1_7 := NotIn.new hA1
                  have x2_7 := NotIn.new hA2
                  replace KB := KB.alloc (.cells #[.slice none 0 0] 24)
                  replace F8 := F8.alloc (.cells #[.slice none 0 0] 24)
                  replace hA1 := hA1.below ((Below.refl _ _).alloc (Nat.le_refl _) (.cells #[.slice none 0 0] 24))
                  replace hA2 := hA2.below ((Below.refl _ _).alloc (Nat.le_refl _) (.cells #[.slice none 0 0] 24))
                  replace GB := GB.alloc GB.size (.cells #[.slice none 0 0] 24)
                  refine hK.out _ _ ⟨KB, GB⟩ (fun hS => ?_)
                  clear hK K
                  generalize U7.alloc (.cells #[.slice none 0 0] 24) = U8 at KB GB hS F7 F8 hA1 hA2 ⊢
                  generalize U7.heap.size = g7 at F7 lk7 lb7 l87 x1_7 x2_7 ⊢
                  refine wpAnyH_ready (rs := [8]) (by kernel_rfl) (by simp) ?_
                  refine AllReadyH.cons rfl (fun K hK => ?_) (AllReadyH.nil)
                  have d0 := F7.cell 0
                  have f0 := F7.frozen 0
                  have KB2 := KB.far (p := ⟨g7, 0, none⟩) (by simp; omega) (.slice A1 n1 c1)
                  have GB2 := GB.setCell (p := ⟨g7, 0, none⟩) (by simp; omega) (.slice A1 n1 c1)
                  have G7 := (put1 (x := (.slice A1 n1 c1)) F7 GB (by omega)).1
                  have G8 := F8.far (p := ⟨g7, 0, none⟩) (by simp; omega) (.slice A1 n1 c1)
                  have hB1 := hA1.set x1_7 (.slice A1 n1 c1)
                  have hB2 := hA2.set x2_7 (.slice A1 n1 c1)
                  clear KB GB F7 F8 hA1 hA2 hS
                  go_simp
                  refine hK.out _ _ ⟨KB2, GB2⟩ (fun hS => ?_)
                  clear hK K d0 f0
                  generalize U8.setCell ⟨g7, 0, none⟩ (.slice A1 n1 c1) = U9 at KB2 GB2 hS G7 G8 hB1 hB2 ⊢
                  have KB := KB2
                  have GB := GB2
                  have F7 := G7
                  have F8 := G8
                  have hA1 := hB1
                  have hA2 := hB2
                  clear KB2 GB2 G7 G8 hB1 hB2
                  refine wpAnyH_ready (rs := [9]) (by kernel_rfl) (by simp) ?_
                  refine AllReadyH.cons rfl (fun K hK => ?_) (AllReadyH.nil)
                  have d0 := F8.cell 0
                  have f0 := F8.frozen 0
                  have KB2 := KB.far (p := ⟨g8, 0, none⟩) (by simp; omega) (.slice A2 n2 c2)
                  have GB2 := GB.setCell (p := ⟨g8, 0, none⟩) (by simp; omega) (.slice A2 n2 c2)
                  have G8 := (put1 (x := (.slice A2 n2 c2)) F8 GB (by omega)).1
                  have G7 := F7.far (p := ⟨g8, 0, none⟩) (by simp; omega) (.slice A2 n2 c2)
                  have hB1 := hA1.set x1_8 (.slice A2 n2 c2)
                  have hB2 := hA2.set x2_8 (.slice A2 n2 c2)
                  clear KB GB F8 F7 hA1 hA2 hS
                  go_simp
                  refine hK.out _ _ ⟨KB2, GB2⟩ (fun hS => ?_)
                  clear hK K d0 f0
                  generalize U9.setCell ⟨g8, 0, none⟩ (.slice A2 n2 c2) = U10 at KB2 GB2 hS G7 G8 hB1 hB2 ⊢
                  have KB := KB2
                  have GB := GB2
                  have F7 := G7
                  have F8 := G8
                  have hA1 := hB1
                  have hA2 := hB2
                  clear KB2 GB2 G7 G8 hB1 hB2
                  refine wpAnyH_done (by kernel_rfl) ?_ _
                  go_wp2_with fail
                  go_meet
                  exact ⟨g7, g8, A1, n1, c1, A2, n2, c2, rfl, rfl, by omega, by omega, F7, F8, hA1, hA2, KB, GB⟩
              · skip
                go_simp
                have F7 := Blk.new w1 24 #[.slice none 0 0]
                have lk7 := KB.lt
                have lb7 := GB.size
                have x1_7 := NotIn.new hA1
                replace KB := KB.alloc (.cells #[.slice none 0 0] 24)
                replace hA1 := hA1.below ((Below.refl _ _).alloc (Nat.le_refl _) (.cells #[.slice none 0 0] 24))
                replace GB := GB.alloc GB.size (.cells #[.slice none 0 0] 24)
                refine hK.out _ _ ⟨KB, GB⟩ (fun hS => ?_)
                clear hK K
                generalize w1.alloc (.cells #[.slice none 0 0] 24) = U11 at KB GB hS F7 hA1 ⊢
                generalize w1.heap.size = g7 at F7 lk7 lb7 x1_7 ⊢
                refine wpAnyH_ready (rs := [5, 7]) (by kernel_rfl) (by simp) ?_
                refine AllReadyH.cons rfl (fun K hK => ?_) (AllReadyH.cons rfl (fun K hK => ?_) (AllReadyH.nil))
                · skip
                  go_simp
                  refine (HS2.out _ GB).mono ?_
                  rintro e w12 ⟨A2, n2, c2, rfl, hl2, hc2, hf2, h12⟩
                  have x2_7 := NotIn.far hf2 F7.lt
                  replace KB := KB.below h12 KB.lt
                  replace F7 := F7.below h12 F7.lt
                  replace hA1 := hA1.below h12
                  have hA2 : At w12 A2 n2 c2 M := at_far hf2 hc2 hl2 H92.out
                  replace GB := GB.trans (h12.mono GB.size)
                  clear h12 hf2 hc2 hl2
                  refine hK.out _ _ ⟨KB, GB⟩ (fun hS => ?_)
                  clear hK K
                  refine wpAnyH_ready (rs := [7]) (by kernel_rfl) (by simp) ?_
                  refine AllReadyH.cons rfl (fun K hK => ?_) (AllReadyH.nil)
                  go_simp
                  have F8 := Blk.new w12 24 #[.slice none 0 0]
                  have lk8 := KB.lt
                  have lb8 := GB.size
                  have l78 := F7.lt
                  have x1_8 := NotIn.new hA1
                  have x2_8 := NotIn.new hA2
                  replace KB := KB.alloc (.cells #[.slice none 0 0] 24)
                  replace F7 := F7.alloc (.cells #[.slice none 0 0] 24)
                  replace hA1 := hA1.below ((Below.refl _ _).alloc (Nat.le_refl _) (.cells #[.slice none 0 0] 24))
                  replace hA2 := hA2.below ((Below.refl _ _).alloc (Nat.le_refl _) (.cells #[.slice none 0 0] 24))
                  replace GB := GB.alloc GB.size (.cells #[.slice none 0 0] 24)
                  refine hK.out _ _ ⟨KB, GB⟩ (fun hS => ?_)
                  clear hK K
                  generalize w12.alloc (.cells #[.slice none 0 0] 24) = U13 at KB GB hS F8 F7 hA1 hA2 ⊢
                  generalize w12.heap.size = g8 at F8 lk8 lb8 l78 x1_8 x2_8 ⊢
                  refine wpAnyH_ready (rs := [8]) (by kernel_rfl) (by simp) ?_
                  refine AllReadyH.cons rfl (fun K hK => ?_) (AllReadyH.nil)
                  have d0 := F7.cell 0
                  have f0 := F7.frozen 0
                  have KB2 := KB.far (p := ⟨g7, 0, none⟩) (by simp; omega) (.slice A1 n1 c1)
                  have GB2 := GB.setCell (p := ⟨g7, 0, none⟩) (by simp; omega) (.slice A1 n1 c1)
                  have G7 := (put1 (x := (.slice A1 n1 c1)) F7 GB (by omega)).1
                  have G8 := F8.far (p := ⟨g7, 0, none⟩) (by simp; omega) (.slice A1 n1 c1)
                  have hB1 := hA1.set x1_7 (.slice A1 n1 c1)
                  have hB2 := hA2.set x2_7 (.slice A1 n1 c1)
                  clear KB GB F7 F8 hA1 hA2 hS
                  go_simp
                  refine hK.out _ _ ⟨KB2, GB2⟩ (fun hS => ?_)
                  clear hK K d0 f0
                  generalize U13.setCell ⟨g7, 0, none⟩ (.slice A1 n1 c1) = U14 at KB2 GB2 hS G7 G8 hB1 hB2 ⊢
                  have KB := KB2
                  have GB := GB2
                  have F7 := G7
                  have F8 := G8
                  have hA1 := hB1
                  have hA2 := hB2
                  clear KB2 GB2 G7 G8 hB1 hB2
                  refine wpAnyH_ready (rs := [9]) (by kernel_rfl) (by simp) ?_
                  refine AllReadyH.cons rfl (fun K hK => ?_) (AllReadyH.nil)
                  have d0 := F8.cell 0
                  have f0 := F8.frozen 0
                  have KB2 := KB.far (p := ⟨g8, 0, none⟩) (by simp; omega) (.slice A2 n2 c2)
                  have GB2 := GB.setCell (p := ⟨g8, 0, none⟩) (by simp; omega) (.slice A2 n2 c2)
                  have G8 := (put1 (x := (.slice A2 n2 c2)) F8 GB (by omega)).1
                  have G7 := F7.far (p := ⟨g8, 0, none⟩) (by simp; omega) (.slice A2 n2 c2)
                  have hB1 := hA1.set x1_8 (.slice A2 n2 c2)
                  have hB2 := hA2.set x2_8 (.slice A2 n2 c2)
                  clear KB GB F8 F7 hA1 hA2 hS
                  go_simp
                  refine hK.out _ _ ⟨KB2, GB2⟩ (fun hS => ?_)
                  clear hK K d0 f0
                  generalize U14.setCell ⟨g8, 0, none⟩ (.slice A2 n2 c2) = U15 at KB2 GB2 hS G7 G8 hB1 hB2 ⊢
                  have KB := KB2
                  have GB := GB2
                  have F7 := G7
                  have F8 := G8
                  have hA1 := hB1
                  have hA2 := hB2
                  clear KB2 GB2 G7 G8 hB1 hB2
                  refine wpAnyH_done (by kernel_rfl) ?_ _
                  go_wp2_with fail
                  go_meet
                  exact ⟨g7, g8, A1, n1, c1, A2, n2, c2, rfl, rfl, by omega, by omega, F7, F8, hA1, hA2, KB, GB⟩
                · skip
                  go_simp
                  have F8 := Blk.new U11 24 #[.slice none 0 0]
                  have lk8 := KB.lt
                  have lb8 := GB.size
                  have l78 := F7.lt
                  have x1_8 := NotIn.new hA1
                  replace KB := KB.alloc (.cells #[.slice none 0 0] 24)
                  replace F7 := F7.alloc (.cells #[.slice none 0 0] 24)
                  replace hA1 := hA1.below ((Below.refl _ _).alloc (Nat.le_refl _) (.cells #[.slice none 0 0] 24))
                  replace GB := GB.alloc GB.size (.cells #[.slice none 0 0] 24)
                  refine hK.out _ _ ⟨KB, GB⟩ (fun hS => ?_)
                  clear hK K
                  generalize U11.alloc (.cells #[.slice none 0 0] 24) = U16 at KB GB hS F8 F7 hA1 ⊢
                  generalize U11.heap.size = g8 at F8 lk8 lb8 l78 x1_8 ⊢
                  refine wpAnyH_ready (rs := [5]) (by kernel_rfl) (by simp) ?_
                  refine AllReadyH.cons rfl (fun K hK => ?_) (AllReadyH.nil)
                  go_simp
                  refine (HS2.out _ GB).mono ?_
                  rintro e w17 ⟨A2, n2, c2, rfl, hl2, hc2, hf2, h17⟩
                  have x2_7 := NotIn.far hf2 F7.lt
                  have x2_8 := NotIn.far hf2 F8.lt
                  replace KB := KB.below h17 KB.lt
                  replace F7 := F7.below h17 F7.lt
                  replace F8 := F8.below h17 F8.lt
                  replace hA1 := hA1.below h17
                  have hA2 : At w17 A2 n2 c2 M := at_far hf2 hc2 hl2 H92.out
                  replace GB := GB.trans (h17.mono GB.size)
                  clear h17 hf2 hc2 hl2
                  refine hK.out _ _ ⟨KB, GB⟩ (fun hS => ?_)
                  clear hK K
                  refine wpAnyH_ready (rs := [8]) (by kernel_rfl) (by simp) ?_
                  refine AllReadyH.cons rfl (fun K hK => ?_) (AllReadyH.nil)
                  have d0 := F7.cell 0
                  have f0 := F7.frozen 0
                  have KB2 := KB.far (p := ⟨g7, 0, none⟩) (by simp; omega) (.slice A1 n1 c1)
                  have GB2 := GB.setCell (p := ⟨g7, 0, none⟩) (by simp; omega) (.slice A1 n1 c1)
                  have G7 := (put1 (x := (.slice A1 n1 c1)) F7 GB (by omega)).1
                  have G8 := F8.far (p := ⟨g7, 0, none⟩) (by simp; omega) (.slice A1 n1 c1)
                  have hB1 := hA1.set x1_7 (.slice A1 n1 c1)
                  have hB2 := hA2.set x2_7 (.slice A1 n1 c1)
                  clear KB GB F7 F8 hA1 hA2 hS
                  go_simp
                  refine hK.out _ _ ⟨KB2, GB2⟩ (fun hS => ?_)
                  clear hK K d0 f0
                  generalize w17.setCell ⟨g7, 0, none⟩ (.slice A1 n1 c1) = U18 at KB2 GB2 hS G7 G8 hB1 hB2 ⊢
                  have KB := KB2
                  have GB := GB2
                  have F7 := G7
                  have F8 := G8
                  have hA1 := hB1
                  have hA2 := hB2
                  clear KB2 GB2 G7 G8 hB1 hB2
                  refine wpAnyH_ready (rs := [9]) (by kernel_rfl) (by simp) ?_
                  refine AllReadyH.cons rfl (fun K hK => ?_) (AllReadyH.nil)
                  have d0 := F8.cell 0
                  have f0 := F8.frozen 0
                  have KB2 := KB.far (p := ⟨g8, 0, none⟩) (by simp; omega) (.slice A2 n2 c2)
                  have GB2 := GB.setCell (p := ⟨g8, 0, none⟩) (by simp; omega) (.slice A2 n2 c2)
                  have G8 := (put1 (x := (.slice A2 n2 c2)) F8 GB (by omega)).1
                  have G7 := F7.far (p := ⟨g8, 0, none⟩) (by simp; omega) (.slice A2 n2 c2)
                  have hB1 := hA1.set x1_8 (.slice A2 n2 c2)
                  have hB2 := hA2.set x2_8 (.slice A2 n2 c2)
                  clear KB GB F8 F7 hA1 hA2 hS
                  go_simp
                  refine hK.out _ _ ⟨KB2, GB2⟩ (fun hS => ?_)
                  clear hK K d0 f0
                  generalize U18.setCell ⟨g8, 0, none⟩ (.slice A2 n2 c2) = U19 at KB2 GB2 hS G7 G8 hB1 hB2 ⊢
                  have KB := KB2
                  have GB := GB2
                  have F7 := G7
                  have F8 := G8
                  have hA1 := hB1
                  have hA2 := hB2
                  clear KB2 GB2 G7 G8 hB1 hB2
                  refine wpAnyH_done (by kernel_rfl) ?_ _
                  go_wp2_with fail
                  go_meet
                  exact ⟨g7, g8, A1, n1, c1, A2, n2, c2, rfl, rfl, by omega, by omega, F7, F8, hA1, hA2, KB, GB⟩
              · skip
                go_simp
                have F8 := Blk.new w1 24 #[.slice none 0 0]
                have lk8 := KB.lt
                have lb8 := GB.size
                have x1_8 := NotIn.new hA1
                replace KB := KB.alloc (.cells #[.slice none 0 0] 24)
                replace hA1 := hA1.below ((Below.refl _ _).alloc (Nat.le_refl _) (.cells #[.slice none 0 0] 24))
                replace GB := GB.alloc GB.size (.cells #[.slice none 0 0] 24)
                refine hK.out _ _ ⟨KB, GB⟩ (fun hS => ?_)
                clear hK K
                generalize w1.alloc (.cells #[.slice none 0 0] 24) = U20 at KB GB hS F8 hA1 ⊢
                generalize w1.heap.size = g8 at F8 lk8 lb8 x1_8 ⊢
                refine wpAnyH_ready (rs := [5, 6]) (by kernel_rfl) (by simp) ?_
                refine AllReadyH.cons rfl (fun K hK => ?_) (AllReadyH.cons rfl (fun K hK => ?_) (AllReadyH.nil))
                · skip
                  go_simp
                  refine (HS2.out _ GB).mono ?_
                  rintro e w21 ⟨A2, n2, c2, rfl, hl2, hc2, hf2, h21⟩
                  have x2_8 := NotIn.far hf2 F8.lt
                  replace KB := KB.below h21 KB.lt
                  replace F8 := F8.below h21 F8.lt
                  replace hA1 := hA1.below h21
                  have hA2 : At w21 A2 n2 c2 M := at_far hf2 hc2 hl2 H92.out
                  replace GB := GB.trans (h21.mono GB.size)
                  clear h21 hf2 hc2 hl2
                  refine hK.out _ _ ⟨KB, GB⟩ (fun hS => ?_)
                  clear hK K
                  refine wpAnyH_ready (rs := [6]) (by kernel_rfl) (by simp) ?_
                  refine AllReadyH.cons rfl (fun K hK => ?_) (AllReadyH.nil)
                  go_simp
                  have F7 := Blk.new w21 24 #[.slice none 0 0]
                  have lk7 := KB.lt
                  have lb7 := GB.size
                  have l87 := F8.lt
                  have x1_7 := NotIn.new hA1
                  have x2_7 := NotIn.new hA2
                  replace KB := KB.alloc (.cells #[.slice none 0 0] 24)
                  replace F8 := F8.alloc (.cells #[.slice none 0 0] 24)
                  replace hA1 := hA1.below ((Below.refl _ _).alloc (Nat.le_refl _) (.cells #[.slice none 0 0] 24))
                  replace hA2 := hA2.below ((Below.refl _ _).alloc (Nat.le_refl _) (.cells #[.slice none 0 0] 24))
                  replace GB := GB.alloc GB.size (.cells #[.slice none 0 0] 24)
                  refine hK.out _ _ ⟨KB, GB⟩ (fun hS => ?_)
                  clear hK K
                  generalize w21.alloc (.cells #[.slice none 0 0] 24) = U22 at KB GB hS F7 F8 hA1 hA2 ⊢
                  generalize w21.heap.size = g7 at F7 lk7 lb7 l87 x1_7 x2_7 ⊢
                  refine wpAnyH_ready (rs := [8]) (by kernel_rfl) (by simp) ?_
                  refine AllReadyH.cons rfl (fun K hK => ?_) (AllReadyH.nil)
                  have d0 := F7.cell 0
                  have f0 := F7.frozen 0
                  have KB2 := KB.far (p := ⟨g7, 0, none⟩) (by simp; omega) (.slice A1 n1 c1)
                  have GB2 := GB.setCell (p := ⟨g7, 0, none⟩) (by simp; omega) (.slice A1 n1 c1)
                  have G7 := (put1 (x := (.slice A1 n1 c1)) F7 GB (by omega)).1
                  have G8 := F8.far (p := ⟨g7, 0, none⟩) (by simp; omega) (.slice A1 n1 c1)
                  have hB1 := hA1.set x1_7 (.slice A1 n1 c1)
                  have hB2 := hA2.set x2_7 (.slice A1 n1 c1)
                  clear KB GB F7 F8 hA1 hA2 hS
                  go_simp
                  refine hK.out _ _ ⟨KB2, GB2⟩ (fun hS => ?_)
                  clear hK K d0 f0
                  generalize U22.setCell ⟨g7, 0, none⟩ (.slice A1 n1 c1) = U23 at KB2 GB2 hS G7 G8 hB1 hB2 ⊢
                  have KB := KB2
                  have GB := GB2
                  have F7 := G7
                  have F8 := G8
                  have hA1 := hB1
                  have hA2 := hB2
                  clear KB2 GB2 G7 G8 hB1 hB2
                  refine wpAnyH_ready (rs := [9]) (by kernel_rfl) (by simp) ?_
                  refine AllReadyH.cons rfl (fun K hK => ?_) (AllReadyH.nil)
                  have d0 := F8.cell 0
                  have f0 := F8.frozen 0
                  have KB2 := KB.far (p := ⟨g8, 0, none⟩) (by simp; omega) (.slice A2 n2 c2)
                  have GB2 := GB.setCell (p := ⟨g8, 0, none⟩) (by simp; omega) (.slice A2 n2 c2)
                  have G8 := (put1 (x := (.slice A2 n2 c2)) F8 GB (by omega)).1
                  have G7 := F7.far (p := ⟨g8, 0, none⟩) (by simp; omega) (.slice A2 n2 c2)
                  have hB1 := hA1.set x1_8 (.slice A2 n2 c2)
                  have hB2 := hA2.set x2_8 (.slice A2 n2 c2)
                  clear KB GB F8 F7 hA1 hA2 hS
                  go_simp
                  refine hK.out _ _ ⟨KB2, GB2⟩ (fun hS => ?_)
                  clear hK K d0 f0
                  generalize U23.setCell ⟨g8, 0, none⟩ (.slice A2 n2 c2) = U24 at KB2 GB2 hS G7 G8 hB1 hB2 ⊢
                  have KB := KB2
                  have GB := GB2
                  have F7 := G7
                  have F8 := G8
                  have hA1 := hB1
                  have hA2 := hB2
                  clear KB2 GB2 G7 G8 hB1 hB2
                  refine wpAnyH_done (by kernel_rfl) ?_ _
                  go_wp2_with fail
                  go_meet
                  exact ⟨g7, g8, A1, n1, c1, A2, n2, c2, rfl, rfl, by omega, by omega, F7, F8, hA1, hA2, KB, GB⟩
                · skip
                  go_simp
                  have F7 := Blk.new U20 24 #[.slice none 0 0]
                  have lk7 := KB.lt
                  have lb7 := GB.size
                  have l87 := F8.lt
                  have x1_7 := NotIn.new hA1
                  replace KB := KB.alloc (.cells #[.slice none 0 0] 24)
                  replace F8 := F8.alloc (.cells #[.slice none 0 0] 24)
                  replace hA1 := hA1.below ((Below.refl _ _).alloc (Nat.le_refl _) (.cells #[.slice none 0 0] 24))
                  replace GB := GB.alloc GB.size (.cells #[.slice none 0 0] 24)
                  refine hK.out _ _ ⟨KB, GB⟩ (fun hS => ?_)
                  clear hK K
                  generalize U20.alloc (.cells #[.slice none 0 0] 24) = U25 at KB GB hS F7 F8 hA1 ⊢
                  generalize U20.heap.size = g7 at F7 lk7 lb7 l87 x1_7 ⊢
                  refine wpAnyH_ready (rs := [5]) (by kernel_rfl) (by simp) ?_
                  refine AllReadyH.cons rfl (fun K hK => ?_) (AllReadyH.nil)
                  go_simp
                  refine (HS2.out _ GB).mono ?_
                  rintro e w26 ⟨A2, n2, c2, rfl, hl2, hc2, hf2, h26⟩
                  have x2_7 := NotIn.far hf2 F7.lt
                  have x2_8 := NotIn.far hf2 F8.lt
                  replace KB := KB.below h26 KB.lt
                  replace F7 := F7.below h26 F7.lt
                  replace F8 := F8.below h26 F8.lt
                  replace hA1 := hA1.below h26
                  have hA2 : At w26 A2 n2 c2 M := at_far hf2 hc2 hl2 H92.out
                  replace GB := GB.trans (h26.mono GB.size)
                  clear h26 hf2 hc2 hl2
                  refine hK.out _ _ ⟨KB, GB⟩ (fun hS => ?_)
                  clear hK K
                  refine wpAnyH_ready (rs := [8]) (by kernel_rfl) (by simp) ?_
                  refine AllReadyH.cons rfl (fun K hK => ?_) (AllReadyH.nil)
                  have d0 := F7.cell 0
                  have f0 := F7.frozen 0
                  have KB2 := KB.far (p := ⟨g7, 0, none⟩) (by simp; omega) (.slice A1 n1 c1)
                  have GB2 := GB.setCell (p := ⟨g7, 0, none⟩) (by simp; omega) (.slice A1 n1 c1)
                  have G7 := (put1 (x := (.slice A1 n1 c1)) F7 GB (by omega)).1
                  have G8 := F8.far (p := ⟨g7, 0, none⟩) (by simp; omega) (.slice A1 n1 c1)
                  have hB1 := hA1.set x1_7 (.slice A1 n1 c1)
                  have hB2 := hA2.set x2_7 (.slice A1 n1 c1)
                  clear KB GB F7 F8 hA1 hA2 hS
                  go_simp
                  refine hK.out _ _ ⟨KB2, GB2⟩ (fun hS => ?_)
                  clear hK K d0 f0
                  generalize w26.setCell ⟨g7, 0, none⟩ (.slice A1 n1 c1) = U27 at KB2 GB2 hS G7 G8 hB1 hB2 ⊢
                  have KB := KB2
                  have GB := GB2
                  have F7 := G7
                  have F8 := G8
                  have hA1 := hB1
                  have hA2 := hB2
                  clear KB2 GB2 G7 G8 hB1 hB2
                  refine wpAnyH_ready (rs := [9]) (by kernel_rfl) (by simp) ?_
                  refine AllReadyH.cons rfl (fun K hK => ?_) (AllReadyH.nil)
                  have d0 := F8.cell 0
                  have f0 := F8.frozen 0
                  have KB2 := KB.far (p := ⟨g8, 0, none⟩) (by simp; omega) (.slice A2 n2 c2)
                  have GB2 := GB.setCell (p := ⟨g8, 0, none⟩) (by simp; omega) (.slice A2 n2 c2)
                  have G8 := (put1 (x := (.slice A2 n2 c2)) F8 GB (by omega)).1
                  have G7 := F7.far (p := ⟨g8, 0, none⟩) (by simp; omega) (.slice A2 n2 c2)
                  have hB1 := hA1.set x1_8 (.slice A2 n2 c2)
                  have hB2 := hA2.set x2_8 (.slice A2 n2 c2)
                  clear KB GB F8 F7 hA1 hA2 hS
                  go_simp
                  refine hK.out _ _ ⟨KB2, GB2⟩ (fun hS => ?_)
                  clear hK K d0 f0
                  generalize U27.setCell ⟨g8, 0, none⟩ (.slice A2 n2 c2) = U28 at KB2 GB2 hS G7 G8 hB1 hB2 ⊢
                  have KB := KB2
                  have GB := GB2
                  have F7 := G7
                  have F8 := G8
                  have hA1 := hB1
                  have hA2 := hB2
                  clear KB2 GB2 G7 G8 hB1 hB2
                  refine wpAnyH_done (by kernel_rfl) ?_ _
                  go_wp2_with fail
                  go_meet
                  exact ⟨g7, g8, A1, n1, c1, A2, n2, c2, rfl, rfl, by omega, by omega, F7, F8, hA1, hA2, KB, GB⟩
            · skip
              go_simp
              have F7 := Blk.new V 24 #[.slice none 0 0]
              have lk7 := KB.lt
              have lb7 := GB.size
              replace KB := KB.alloc (.cells #[.slice none 0 0] 24)
              replace GB := GB.alloc GB.size (.cells #[.slice none 0 0] 24)
              refine hK.out _ _ ⟨KB, GB⟩ (fun hS => ?_)
              clear hK K
              generalize V.alloc (.cells #[.slice none 0 0] 24) = U29 at KB GB hS F7 ⊢
              generalize V.heap.size = g7 at F7 lk7 lb7  ⊢
              refine wpAnyH_ready (rs := [1, 7]) (by kernel_rfl) (by simp) ?_
              refine AllReadyH.cons rfl (fun K hK => ?_) (AllReadyH.cons rfl (fun K hK => ?_) (AllReadyH.nil))
              · skip
                go_simp
                refine (HS1.out _ GB).mono ?_
                rintro e w30 ⟨A1, n1, c1, rfl, hl1, hc1, hf1, h30⟩
                have x1_7 := NotIn.far hf1 F7.lt
                replace KB := KB.below h30 KB.lt
                replace F7 := F7.below h30 F7.lt
                have hA1 : At w30 A1 n1 c1 L := at_far hf1 hc1 hl1 H91.out
                replace GB := GB.trans (h30.mono GB.size)
                clear h30 hf1 hc1 hl1
                refine hK.out _ _ ⟨KB, GB⟩ (fun hS => ?_)
                clear hK K
                refine wpAnyH_ready (rs := [5, 7]) (by kernel_rfl) (by simp) ?_
                refine AllReadyH.cons rfl (fun K hK => ?_) (AllReadyH.cons rfl (fun K hK => ?_) (AllReadyH.nil))
                · skip
                  go_simp
                  refine (HS2.out _ GB).mono ?_
                  rintro e w31 ⟨A2, n2, c2, rfl, hl2, hc2, hf2, h31⟩
                  have x2_7 := NotIn.far hf2 F7.lt
                  replace KB := KB.below h31 KB.lt
                  replace F7 := F7.below h31 F7.lt
                  replace hA1 := hA1.below h31
                  have hA2 : At w31 A2 n2 c2 M := at_far hf2 hc2 hl2 H92.out
                  replace GB := GB.trans (h31.mono GB.size)
                  clear h31 hf2 hc2 hl2
                  refine hK.out _ _ ⟨KB, GB⟩ (fun hS => ?_)
                  clear hK K
                  refine wpAnyH_ready (rs := [7]) (by kernel_rfl) (by simp) ?_
                  refine AllReadyH.cons rfl (fun K hK => ?_) (AllReadyH.nil)
                  go_simp
                  have F8 := Blk.new w31 24 #[.slice none 0 0]
                  have lk8 := KB.lt
                  have lb8 := GB.size
                  have l78 := F7.lt
                  have x1_8 := NotIn.new hA1
                  have x2_8 := NotIn.new hA2
                  replace KB := KB.alloc (.cells #[.slice none 0 0] 24)
                  replace F7 := F7.alloc (.cells #[.slice none 0 0] 24)
                  replace hA1 := hA1.below ((Below.refl _ _).alloc (Nat.le_refl _) (.cells #[.slice none 0 0] 24))
                  replace hA2 := hA2.below ((Below.refl _ _).alloc (Nat.le_refl _) (.cells #[.slice none 0 0] 24))
                  replace GB := GB.alloc GB.size (.cells #[.slice none 0 0] 24)
                  refine hK.out _ _ ⟨KB, GB⟩ (fun hS => ?_)
                  clear hK K
                  generalize w31.alloc (.cells #[.slice none 0 0] 24) = U32 at KB GB hS F8 F7 hA1 hA2 ⊢
                  generalize w31.heap.size = g8 at F8 lk8 lb8 l78 x1_8 x2_8 ⊢
                  refine wpAnyH_ready (rs := [8]) (by kernel_rfl) (by simp) ?_
                  refine AllReadyH.cons rfl (fun K hK => ?_) (AllReadyH.nil)
                  have d0 := F7.cell 0
                  have f0 := F7.frozen 0
                  have KB2 := KB.far (p := ⟨g7, 0, none⟩) (by simp; omega) (.slice A1 n1 c1)
                  have GB2 := GB.setCell (p := ⟨g7, 0, none⟩) (by simp; omega) (.slice A1 n1 c1)
                  have G7 := (put1 (x := (.slice A1 n1 c1)) F7 GB (by omega)).1
                  have G8 := F8.far (p := ⟨g7, 0, none⟩) (by simp; omega) (.slice A1 n1 c1)
                  have hB1 := hA1.set x1_7 (.slice A1 n1 c1)
                  have hB2 := hA2.set x2_7 (.slice A1 n1 c1)
                  clear KB GB F7 F8 hA1 hA2 hS
                  go_simp
                  refine hK.out _ _ ⟨KB2, GB2⟩ (fun hS => ?_)
                  clear hK K d0 f0
                  generalize U32.setCell ⟨g7, 0, none⟩ (.slice A1 n1 c1) = U33 at KB2 GB2 hS G7 G8 hB1 hB2 ⊢
                  have KB := KB2
                  have GB := GB2
                  have F7 := G7
                  have F8 := G8
                  have hA1 := hB1
                  have hA2 := hB2
                  clear KB2 GB2 G7 G8 hB1 hB2
                  refine wpAnyH_ready (rs := [9]) (by kernel_rfl) (by simp) ?_
                  refine AllReadyH.cons rfl (fun K hK => ?_) (AllReadyH.nil)
                  have d0 := F8.cell 0
                  have f0 := F8.frozen 0
                  have KB2 := KB.far (p := ⟨g8, 0, none⟩) (by simp; omega) (.slice A2 n2 c2)
                  have GB2 := GB.setCell (p := ⟨g8, 0, none⟩) (by simp; omega) (.slice A2 n2 c2)
                  have G8 := (put1 (x := (.slice A2 n2 c2)) F8 GB (by omega)).1
                  have G7 := F7.far (p := ⟨g8, 0, none⟩) (by simp; omega) (.slice A2 n2 c2)
                  have hB1 := hA1.set x1_8 (.slice A2 n2 c2)
                  have hB2 := hA2.set x2_8 (.slice A2 n2 c2)
                  clear KB GB F8 F7 hA1 hA2 hS
                  go_simp
                  refine hK.out _ _ ⟨KB2, GB2⟩ (fun hS => ?_)
                  clear hK K d0 f0
                  generalize U33.setCell ⟨g8, 0, none⟩ (.slice A2 n2 c2) = U34 at KB2 GB2 hS G7 G8 hB1 hB2 ⊢
                  have KB := KB2
                  have GB := GB2
                  have F7 := G7
                  have F8 := G8
                  have hA1 := hB1
                  have hA2 := hB2
                  clear KB2 GB2 G7 G8 hB1 hB2
                  refine wpAnyH_done (by kernel_rfl) ?_ _
                  go_wp2_with fail
                  go_meet
                  exact ⟨g7, g8, A1, n1, c1, A2, n2, c2, rfl, rfl, by omega, by omega, F7, F8, hA1, hA2, KB, GB⟩
                · skip
                  go_simp
                  have F8 := Blk.new w30 24 #[.slice none 0 0]
                  have lk8 := KB.lt
                  have lb8 := GB.size
                  have l78 := F7.lt
                  have x1_8 := NotIn.new hA1
                  replace KB := KB.alloc (.cells #[.slice none 0 0] 24)
                  replace F7 := F7.alloc (.cells #[.slice none 0 0] 24)
                  replace hA1 := hA1.below ((Below.refl _ _).alloc (Nat.le_refl _) (.cells #[.slice none 0 0] 24))
                  replace GB := GB.alloc GB.size (.cells #[.slice none 0 0] 24)
                  refine hK.out _ _ ⟨KB, GB⟩ (fun hS => ?_)
                  clear hK K
                  generalize w30.alloc (.cells #[.slice none 0 0] 24) = U35 at KB GB hS F8 F7 hA1 ⊢
                  generalize w30.heap.size = g8 at F8 lk8 lb8 l78 x1_8 ⊢
                  refine wpAnyH_ready (rs := [5]) (by kernel_rfl) (by simp) ?_
                  refine AllReadyH.cons rfl (fun K hK => ?_) (AllReadyH.nil)
                  go_simp
                  refine (HS2.out _ GB).mono ?_
                  rintro e w36 ⟨A2, n2, c2, rfl, hl2, hc2, hf2, h36⟩
                  have x2_7 := NotIn.far hf2 F7.lt
                  have x2_8 := NotIn.far hf2 F8.lt
                  replace KB := KB.below h36 KB.lt
                  replace F7 := F7.below h36 F7.lt
                  replace F8 := F8.below h36 F8.lt
                  replace hA1 := hA1.below h36
                  have hA2 : At w36 A2 n2 c2 M := at_far hf2 hc2 hl2 H92.out
                  replace GB := GB.trans (h36.mono GB.size)
                  clear h36 hf2 hc2 hl2
                  refine hK.out _ _ ⟨KB, GB⟩ (fun hS => ?_)
                  clear hK K
                  refine wpAnyH_ready (rs := [8]) (by kernel_rfl) (by simp) ?_
                  refine AllReadyH.cons rfl (fun K hK => ?_) (AllReadyH.nil)
                  have d0 := F7.cell 0
                  have f0 := F7.frozen 0
                  have KB2 := KB.far (p := ⟨g7, 0, none⟩) (by simp; omega) (.slice A1 n1 c1)
                  have GB2 := GB.setCell (p := ⟨g7, 0, none⟩) (by simp; omega) (.slice A1 n1 c1)
                  have G7 := (put1 (x := (.slice A1 n1 c1)) F7 GB (by omega)).1
                  have G8 := F8.far (p := ⟨g7, 0, none⟩) (by simp; omega) (.slice A1 n1 c1)
                  have hB1 := hA1.set x1_7 (.slice A1 n1 c1)
                  have hB2 := hA2.set x2_7 (.slice A1 n1 c1)
                  clear KB GB F7 F8 hA1 hA2 hS
                  go_simp
                  refine hK.out _ _ ⟨KB2, GB2⟩ (fun hS => ?_)
                  clear hK K d0 f0
                  generalize w36.setCell ⟨g7, 0, none⟩ (.slice A1 n1 c1) = U37 at KB2 GB2 hS G7 G8 hB1 hB2 ⊢
                  have KB := KB2
                  have GB := GB2
                  have F7 := G7
                  have F8 := G8
                  have hA1 := hB1
                  have hA2 := hB2
                  clear KB2 GB2 G7 G8 hB1 hB2
                  refine wpAnyH_ready (rs := [9]) (by kernel_rfl) (by simp) ?_
                  refine AllReadyH.cons rfl (fun K hK => ?_) (AllReadyH.nil)
                  have d0 := F8.cell 0
                  have f0 := F8.frozen 0
                  have KB2 := KB.far (p := ⟨g8, 0, none⟩) (by simp; omega) (.slice A2 n2 c2)
                  have GB2 := GB.setCell (p := ⟨g8, 0, none⟩) (by simp; omega) (.slice A2 n2 c2)
                  have G8 := (put1 (x := (.slice A2 n2 c2)) F8 GB (by omega)).1
                  have G7 := F7.far (p := ⟨g8, 0, none⟩) (by simp; omega) (.slice A2 n2 c2)
                  have hB1 := hA1.set x1_8 (.slice A2 n2 c2)
                  have hB2 := hA2.set x2_8 (.slice A2 n2 c2)
                  clear KB GB F8 F7 hA1 hA2 hS
                  go_simp
                  refine hK.out _ _ ⟨KB2, GB2⟩ (fun hS => ?_)
                  clear hK K d0 f0
                  generalize U37.setCell ⟨g8, 0, none⟩ (.slice A2 n2 c2) = U38 at KB2 GB2 hS G7 G8 hB1 hB2 ⊢
                  have KB := KB2
                  have GB := GB2
                  have F7 := G7
                  have F8 := G8
                  have hA1 := hB1
                  have hA2 := hB2
                  clear KB2 GB2 G7 G8 hB1 hB2
                  refine wpAnyH_done (by kernel_rfl) ?_ _
                  go_wp2_with fail
                  go_meet
                  exact ⟨g7, g8, A1, n1, c1, A2, n2, c2, rfl, rfl, by omega, by omega, F7, F8, hA1, hA2, KB, GB⟩
              · skip
                go_simp
                have F8 := Blk.new U29 24 #[.slice none 0 0]
                have lk8 := KB.lt
                have lb8 := GB.size
                have l78 := F7.lt
                replace KB := KB.alloc (.cells #[.slice none 0 0] 24)
                replace F7 := F7.alloc (.cells #[.slice none 0 0] 24)
                replace GB := GB.alloc GB.size (.cells #[.slice none 0 0] 24)
                refine hK.out _ _ ⟨KB, GB⟩ (fun hS => ?_)
                clear hK K
                generalize U29.alloc (.cells #[.slice none 0 0] 24) = U39 at KB GB hS F8 F7 ⊢
                generalize U29.heap.size = g8 at F8 lk8 lb8 l78 ⊢
                refine wpAnyH_ready (rs := [1]) (by kernel_rfl) (by simp) ?_
                refine AllReadyH.cons rfl (fun K hK => ?_) (AllReadyH.nil)
                go_simp
                refine (HS1.out _ GB).mono ?_
                rintro e w40 ⟨A1, n1, c1, rfl, hl1, hc1, hf1, h40⟩
                have x1_7 := NotIn.far hf1 F7.lt
                have x1_8 := NotIn.far hf1 F8.lt
                replace KB := KB.below h40 KB.lt
                replace F7 := F7.below h40 F7.lt
                replace F8 := F8.below h40 F8.lt
                have hA1 : At w40 A1 n1 c1 L := at_far hf1 hc1 hl1 H91.out
                replace GB := GB.trans (h40.mono GB.size)
                clear h40 hf1 hc1 hl1
                refine hK.out _ _ ⟨KB, GB⟩ (fun hS => ?_)
                clear hK K
                refine wpAnyH_ready (rs := [5]) (by kernel_rfl) (by simp) ?_
                refine AllReadyH.cons rfl (fun K hK => ?_) (AllReadyH.nil)
                go_simp
                refine (HS2.out _ GB).mono ?_
                rintro e w41 ⟨A2, n2, c2, rfl, hl2, hc2, hf2, h41⟩
                have x2_7 := NotIn.far hf2 F7.lt
                have x2_8 := NotIn.far hf2 F8.lt
                replace KB := KB.below h41 KB.lt
                replace F7 := F7.below h41 F7.lt
                replace F8 := F8.below h41 F8.lt
                replace hA1 := hA1.below h41
                have hA2 : At w41 A2 n2 c2 M := at_far hf2 hc2 hl2 H92.out
                replace GB := GB.trans (h41.mono GB.size)
                clear h41 hf2 hc2 hl2
                refine hK.out _ _ ⟨KB, GB⟩ (fun hS => ?_)
                clear hK K
                refine wpAnyH_ready (rs := [8]) (by kernel_rfl) (by simp) ?_
                refine AllReadyH.cons rfl (fun K hK => ?_) (AllReadyH.nil)
                have d0 := F7.cell 0
                have f0 := F7.frozen 0
                have KB2 := KB.far (p := ⟨g7, 0, none⟩) (by simp; omega) (.slice A1 n1 c1)
                have GB2 := GB.setCell (p := ⟨g7, 0, none⟩) (by simp; omega) (.slice A1 n1 c1)
                have G7 := (put1 (x := (.slice A1 n1 c1)) F7 GB (by omega)).1
                have G8 := F8.far (p := ⟨g7, 0, none⟩) (by simp; omega) (.slice A1 n1 c1)
                have hB1 := hA1.set x1_7 (.slice A1 n1 c1)
                have hB2 := hA2.set x2_7 (.slice A1 n1 c1)
                clear KB GB F7 F8 hA1 hA2 hS
                go_simp
                refine hK.out _ _ ⟨KB2, GB2⟩ (fun hS => ?_)
                clear hK K d0 f0
                generalize w41.setCell ⟨g7, 0, none⟩ (.slice A1 n1 c1) = U42 at KB2 GB2 hS G7 G8 hB1 hB2 ⊢
                have KB := KB2
                have GB := GB2
                have F7 := G7
                have F8 := G8
                have hA1 := hB1
                have hA2 := hB2
                clear KB2 GB2 G7 G8 hB1 hB2
                refine wpAnyH_ready (rs := [9]) (by kernel_rfl) (by simp) ?_
                refine AllReadyH.cons rfl (fun K hK => ?_) (AllReadyH.nil)
                have d0 := F8.cell 0
                have f0 := F8.frozen 0
                have KB2 := KB.far (p := ⟨g8, 0, none⟩) (by simp; omega) (.slice A2 n2 c2)
                have GB2 := GB.setCell (p := ⟨g8, 0, none⟩) (by simp; omega) (.slice A2 n2 c2)
                have G8 := (put1 (x := (.slice A2 n2 c2)) F8 GB (by omega)).1
                have G7 := F7.far (p := ⟨g8, 0, none⟩) (by simp; omega) (.slice A2 n2 c2)
                have hB1 := hA1.set x1_8 (.slice A2 n2 c2)
                have hB2 := hA2.set x2_8 (.slice A2 n2 c2)
                clear KB GB F8 F7 hA1 hA2 hS
                go_simp
                refine hK.out _ _ ⟨KB2, GB2⟩ (fun hS => ?_)
                clear hK K d0 f0
                generalize U42.setCell ⟨g8, 0, none⟩ (.slice A2 n2 c2) = U43 at KB2 GB2 hS G7 G8 hB1 hB2 ⊢
                have KB := KB2
                have GB := GB2
                have F7 := G7
                have F8 := G8
                have hA1 := hB1
                have hA2 := hB2
                clear KB2 GB2 G7 G8 hB1 hB2
                refine wpAnyH_done (by kernel_rfl) ?_ _
                go_wp2_with fail
                go_meet
                exact ⟨g7, g8, A1, n1, c1, A2, n2, c2, rfl, rfl, by omega, by omega, F7, F8, hA1, hA2, KB, GB⟩
            · skip
              go_simp
              have F8 := Blk.new V 24 #[.slice none 0 0]
              have lk8 := KB.lt
              have lb8 := GB.size
              replace KB := KB.alloc (.cells #[.slice none 0 0] 24)
              replace GB := GB.alloc GB.size (.cells #[.slice none 0 0] 24)
              refine hK.out _ _ ⟨KB, GB⟩ (fun hS => ?_)
              clear hK K
              generalize V.alloc (.cells #[.slice none 0 0] 24) = U44 at KB GB hS F8 ⊢
              generalize V.heap.size = g8 at F8 lk8 lb8  ⊢
              refine wpAnyH_ready (rs := [1, 6]) (by kernel_rfl) (by simp) ?_
              refine AllReadyH.cons rfl (fun K hK => ?_) (AllReadyH.cons rfl (fun K hK => ?_) (AllReadyH.nil))
              · skip
                go_simp
                refine (HS1.out _ GB).mono ?_
                rintro e w45 ⟨A1, n1, c1, rfl, hl1, hc1, hf1, h45⟩
                have x1_8 := NotIn.far hf1 F8.lt
                replace KB := KB.below h45 KB.lt
                replace F8 := F8.below h45 F8.lt
                have hA1 : At w45 A1 n1 c1 L := at_far hf1 hc1 hl1 H91.out
                replace GB := GB.trans (h45.mono GB.size)
                clear h45 hf1 hc1 hl1
                refine hK.out _ _ ⟨KB, GB⟩ (fun hS => ?_)
                clear hK K
                refine wpAnyH_ready (rs := [5, 6]) (by kernel_rfl) (by simp) ?_
                refine AllReadyH.cons rfl (fun K hK => ?_) (AllReadyH.cons rfl (fun K hK => ?_) (AllReadyH.nil))
                · skip
                  go_simp
                  refine (HS2.out _ GB).mono ?_
                  rintro e w46 ⟨A2, n2, c2, rfl, hl2, hc2, hf2, h46⟩
                  have x2_8 := NotIn.far hf2 F8.lt
                  replace KB := KB.below h46 KB.lt
                  replace F8 := F8.below h46 F8.lt
                  replace hA1 := hA1.below h46
                  have hA2 : At w46 A2 n2 c2 M := at_far hf2 hc2 hl2 H92.out
                  replace GB := GB.trans (h46.mono GB.size)
                  clear h46 hf2 hc2 hl2
                  refine hK.out _ _ ⟨KB, GB⟩ (fun hS => ?_)
                  clear hK K
                  refine wpAnyH_ready (rs := [6]) (by kernel_rfl) (by simp) ?_
                  refine AllReadyH.cons rfl (fun K hK => ?_) (AllReadyH.nil)
                  go_simp
                  have F7 := Blk.new w46 24 #[.slice none 0 0]
                  have lk7 := KB.lt
                  have lb7 := GB.size
                  have l87 := F8.lt
                  have x1_7 := NotIn.new hA1
                  have x2_7 := NotIn.new hA2
                  replace KB := KB.alloc (.cells #[.slice none 0 0] 24)
                  replace F8 := F8.alloc (.cells #[.slice none 0 0] 24)
                  replace hA1 := hA1.below ((Below.refl _ _).alloc (Nat.le_refl _) (.cells #[.slice none 0 0] 24))
                  replace hA2 := hA2.below ((Below.refl _ _).alloc (Nat.le_refl _) (.cells #[.slice none 0 0] 24))
                  replace GB := GB.alloc GB.size (.cells #[.slice none 0 0] 24)
                  refine hK.out _ _ ⟨KB, GB⟩ (fun hS => ?_)
                  clear hK K
                  generalize w46.alloc (.cells #[.slice none 0 0] 24) = U47 at KB GB hS F7 F8 hA1 hA2 ⊢
                  generalize w46.heap.size = g7 at F7 lk7 lb7 l87 x1_7 x2_7 ⊢
                  refine wpAnyH_ready (rs := [8]) (by kernel_rfl) (by simp) ?_
                  refine AllReadyH.cons rfl (fun K hK => ?_) (AllReadyH.nil)
                  have d0 := F7.cell 0
                  have f0 := F7.frozen 0
                  have KB2 := KB.far (p := ⟨g7, 0, none⟩) (by simp; omega) (.slice A1 n1 c1)
                  have GB2 := GB.setCell (p := ⟨g7, 0, none⟩) (by simp; omega) (.slice A1 n1 c1)
                  have G7 := (put1 (x := (.slice A1 n1 c1)) F7 GB (by omega)).1
                  have G8 := F8.far (p := ⟨g7, 0, none⟩) (by simp; omega) (.slice A1 n1 c1)
                  have hB1 := hA1.set x1_7 (.slice A1 n1 c1)
                  have hB2 := hA2.set x2_7 (.slice A1 n1 c1)
                  clear KB GB F7 F8 hA1 hA2 hS
                  go_simp
                  refine hK.out _ _ ⟨KB2, GB2⟩ (fun hS => ?_)
                  clear hK K d0 f0
                  generalize U47.setCell ⟨g7, 0, none⟩ (.slice A1 n1 c1) = U48 at KB2 GB2 hS G7 G8 hB1 hB2 ⊢
                  have KB := KB2
                  have GB := GB2
                  have F7 := G7
                  have F8 := G8
                  have hA1 := hB1
                  have hA2 := hB2
                  clear KB2 GB2 G7 G8 hB1 hB2
                  refine wpAnyH_ready (rs := [9]) (by kernel_rfl) (by simp) ?_
                  refine AllReadyH.cons rfl (fun K hK => ?_) (AllReadyH.nil)
                  have d0 := F8.cell 0
                  have f0 := F8.frozen 0
                  have KB2 := KB.far (p := ⟨g8, 0, none⟩) (by simp; omega) (.slice A2 n2 c2)
                  have GB2 := GB.setCell (p := ⟨g8, 0, none⟩) (by simp; omega) (.slice A2 n2 c2)
                  have G8 := (put1 (x := (.slice A2 n2 c2)) F8 GB (by omega)).1
                  have G7 := F7.far (p := ⟨g8, 0, none⟩) (by simp; omega) (.slice A2 n2 c2)
                  have hB1 := hA1.set x1_8 (.slice A2 n2 c2)
                  have hB2 := hA2.set x2_8 (.slice A2 n2 c2)
                  clear KB GB F8 F7 hA1 hA2 hS
                  go_simp
                  refine hK.out _ _ ⟨KB2, GB2⟩ (fun hS => ?_)
                  clear hK K d0 f0
                  generalize U48.setCell ⟨g8, 0, none⟩ (.slice A2 n2 c2) = U49 at KB2 GB2 hS G7 G8 hB1 hB2 ⊢
                  have KB := KB2
                  have GB := GB2
                  have F7 := G7
                  have F8 := G8
                  have hA1 := hB1
                  have hA2 := hB2
                  clear KB2 GB2 G7 G8 hB1 hB2
                  refine wpAnyH_done (by kernel_rfl) ?_ _
                  go_wp2_with fail
                  go_meet
                  exact ⟨g7, g8, A1, n1, c1, A2, n2, c2, rfl, rfl, by omega, by omega, F7, F8, hA1, hA2, KB, GB⟩
                · skip
                  go_simp
                  have F7 := Blk.new w45 24 #[.slice none 0 0]
                  have lk7 := KB.lt
                  have lb7 := GB.size
                  have l87 := F8.lt
                  have x1_7 := NotIn.new hA1
                  replace KB := KB.alloc (.cells #[.slice none 0 0] 24)
                  replace F8 := F8.alloc (.cells #[.slice none 0 0] 24)
                  replace hA1 := hA1.below ((Below.refl _ _).alloc (Nat.le_refl _) (.cells #[.slice none 0 0] 24))
                  replace GB := GB.alloc GB.size (.cells #[.slice none 0 0] 24)
                  refine hK.out _ _ ⟨KB, GB⟩ (fun hS => ?_)
                  clear hK K
                  generalize w45.alloc (.cells #[.slice none 0 0] 24) = U50 at KB GB hS F7 F8 hA1 ⊢
                  generalize w45.heap.size = g7 at F7 lk7 lb7 l87 x1_7 ⊢
                  refine wpAnyH_ready (rs := [5]) (by kernel_rfl) (by simp) ?_
                  refine AllReadyH.cons rfl (fun K hK => ?_) (AllReadyH.nil)
                  go_simp
                  refine (HS2.out _ GB).mono ?_
                  rintro e w51 ⟨A2, n2, c2, rfl, hl2, hc2, hf2, h51⟩
                  have x2_7 := NotIn.far hf2 F7.lt
                  have x2_8 := NotIn.far hf2 F8.lt
                  replace KB := KB.below h51 KB.lt
                  replace F7 := F7.below h51 F7.lt
                  replace F8 := F8.below h51 F8.lt
                  replace hA1 := hA1.below h51
                  have hA2 : At w51 A2 n2 c2 M := at_far hf2 hc2 hl2 H92.out
                  replace GB := GB.trans (h51.mono GB.size)
                  clear h51 hf2 hc2 hl2
                  refine hK.out _ _ ⟨KB, GB⟩ (fun hS => ?_)
                  clear hK K
                  refine wpAnyH_ready (rs := [8]) (by kernel_rfl) (by simp) ?_
                  refine AllReadyH.cons rfl (fun K hK => ?_) (AllReadyH.nil)
                  have d0 := F7.cell 0
                  have f0 := F7.frozen 0
                  have KB2 := KB.far (p := ⟨g7, 0, none⟩) (by simp; omega) (.slice A1 n1 c1)
                  have GB2 := GB.setCell (p := ⟨g7, 0, none⟩) (by simp; omega) (.slice A1 n1 c1)
                  have G7 := (put1 (x := (.slice A1 n1 c1)) F7 GB (by omega)).1
                  have G8 := F8.far (p := ⟨g7, 0, none⟩) (by simp; omega) (.slice A1 n1 c1)
                  have hB1 := hA1.set x1_7 (.slice A1 n1 c1)
                  have hB2 := hA2.set x2_7 (.slice A1 n1 c1)
                  clear KB GB F7 F8 hA1 hA2 hS
                  go_simp
                  refine hK.out _ _ ⟨KB2, GB2⟩ (fun hS => ?_)
                  clear hK K d0 f0
                  generalize w51.setCell ⟨g7, 0, none⟩ (.slice A1 n1 c1) = U52 at KB2 GB2 hS G7 G8 hB1 hB2 ⊢
                  have KB := KB2
                  have GB := GB2
                  have F7 := G7
                  have F8 := G8
                  have hA1 := hB1
                  have hA2 := hB2
                  clear KB2 GB2 G7 G8 hB1 hB2
                  refine wpAnyH_ready (rs := [9]) (by kernel_rfl) (by simp) ?_
                  refine AllReadyH.cons rfl (fun K hK => ?_) (AllReadyH.nil)
                  have d0 := F8.cell 0
                  have f0 := F8.frozen 0
                  have KB2 := KB.far (p := ⟨g8, 0, none⟩) (by simp; omega) (.slice A2 n2 c2)
                  have GB2 := GB.setCell (p := ⟨g8, 0, none⟩) (by simp; omega) (.slice A2 n2 c2)
                  have G8 := (put1 (x := (.slice A2 n2 c2)) F8 GB (by omega)).1
                  have G7 := F7.far (p := ⟨g8, 0, none⟩) (by simp; omega) (.slice A2 n2 c2)
                  have hB1 := hA1.set x1_8 (.slice A2 n2 c2)
                  have hB2 := hA2.set x2_8 (.slice A2 n2 c2)
                  clear KB GB F8 F7 hA1 hA2 hS
                  go_simp
                  refine hK.out _ _ ⟨KB2, GB2⟩ (fun hS => ?_)
                  clear hK K d0 f0
                  generalize U52.setCell ⟨g8, 0, none⟩ (.slice A2 n2 c2) = U53 at KB2 GB2 hS G7 G8 hB1 hB2 ⊢
                  have KB := KB2
                  have GB := GB2
                  have F7 := G7
                  have F8 := G8
                  have hA1 := hB1
                  have hA2 := hB2
                  clear KB2 GB2 G7 G8 hB1 hB2
                  refine wpAnyH_done (by kernel_rfl) ?_ _
                  go_wp2_with fail
                  go_meet
                  exact ⟨g7, g8, A1, n1, c1, A2, n2, c2, rfl, rfl, by omega, by omega, F7, F8, hA1, hA2, KB, GB⟩
              · skip
                go_simp
                have F7 := Blk.new U44 24 #[.slice none 0 0]
                have lk7 := KB.lt
                have lb7 := GB.size
                have l87 := F8.lt
                replace KB := KB.alloc (.cells #[.slice none 0 0] 24)
                replace F8 := F8.alloc (.cells #[.slice none 0 0] 24)
                replace GB := GB.alloc GB.size (.cells #[.slice none 0 0] 24)
                refine hK.out _ _ ⟨KB, GB⟩ (fun hS => ?_)
                clear hK K
                generalize U44.alloc (.cells #[.slice none 0 0] 24) = U54 at KB GB hS F7 F8 ⊢
                generalize U44.heap.size = g7 at F7 lk7 lb7 l87 ⊢
                refine wpAnyH_ready (rs := [1]) (by kernel_rfl) (by simp) ?_
                refine AllReadyH.cons rfl (fun K hK => ?_) (AllReadyH.nil)
                go_simp
                refine (HS1.out _ GB).mono ?_
                rintro e w55 ⟨A1, n1, c1, rfl, hl1, hc1, hf1, h55⟩
                have x1_7 := NotIn.far hf1 F7.lt
                have x1_8 := NotIn.far hf1 F8.lt
                replace KB := KB.below h55 KB.lt
                replace F7 := F7.below h55 F7.lt
                replace F8 := F8.below h55 F8.lt
                have hA1 : At w55 A1 n1 c1 L := at_far hf1 hc1 hl1 H91.out
                replace GB := GB.trans (h55.mono GB.size)
                clear h55 hf1 hc1 hl1
                refine hK.out _ _ ⟨KB, GB⟩ (fun hS => ?_)
                clear hK K
                refine wpAnyH_ready (rs := [5]) (by kernel_rfl) (by simp) ?_
                refine AllReadyH.cons rfl (fun K hK => ?_) (AllReadyH.nil)
                go_simp
                refine (HS2.out _ GB).mono ?_
                rintro e w56 ⟨A2, n2, c2, rfl, hl2, hc2, hf2, h56⟩
                have x2_7 := NotIn.far hf2 F7.lt
                have x2_8 := NotIn.far hf2 F8.lt
                replace KB := KB.below h56 KB.lt
                replace F7 := F7.below h56 F7.lt
                replace F8 := F8.below h56 F8.lt
                replace hA1 := hA1.below h56
                have hA2 : At w56 A2 n2 c2 M := at_far hf2 hc2 hl2 H92.out
                replace GB := GB.trans (h56.mono GB.size)
                clear h56 hf2 hc2 hl2
                refine hK.out _ _ ⟨KB, GB⟩ (fun hS => ?_)
                clear hK K
                refine wpAnyH_ready (rs := [8]) (by kernel_rfl) (by simp) ?_
                refine AllReadyH.cons rfl (fun K hK => ?_) (AllReadyH.nil)
                have d0 := F7.cell 0
                have f0 := F7.frozen 0
                have KB2 := KB.far (p := ⟨g7, 0, none⟩) (by simp; omega) (.slice A1 n1 c1)
                have GB2 := GB.setCell (p := ⟨g7, 0, none⟩) (by simp; omega) (.slice A1 n1 c1)
                have G7 := (put1 (x := (.slice A1 n1 c1)) F7 GB (by omega)).1
                have G8 := F8.far (p := ⟨g7, 0, none⟩) (by simp; omega) (.slice A1 n1 c1)
                have hB1 := hA1.set x1_7 (.slice A1 n1 c1)
                have hB2 := hA2.set x2_7 (.slice A1 n1 c1)
                clear KB GB F7 F8 hA1 hA2 hS
                go_simp
                refine hK.out _ _ ⟨KB2, GB2⟩ (fun hS => ?_)
                clear hK K d0 f0
                generalize w56.setCell ⟨g7, 0, none⟩ (.slice A1 n1 c1) = U57 at KB2 GB2 hS G7 G8 hB1 hB2 ⊢
                have KB := KB2
                have GB := GB2
                have F7 := G7
                have F8 := G8
                have hA1 := hB1
                have hA2 := hB2
                clear KB2 GB2 G7 G8 hB1 hB2
                refine wpAnyH_ready (rs := [9]) (by kernel_rfl) (by simp) ?_
                refine AllReadyH.cons rfl (fun K hK => ?_) (AllReadyH.nil)
                have d0 := F8.cell 0
                have f0 := F8.frozen 0
                have KB2 := KB.far (p := ⟨g8, 0, none⟩) (by simp; omega) (.slice A2 n2 c2)
                have GB2 := GB.setCell (p := ⟨g8, 0, none⟩) (by simp; omega) (.slice A2 n2 c2)
                have G8 := (put1 (x := (.slice A2 n2 c2)) F8 GB (by omega)).1
                have G7 := F7.far (p := ⟨g8, 0, none⟩) (by simp; omega) (.slice A2 n2 c2)
                have hB1 := hA1.set x1_8 (.slice A2 n2 c2)
                have hB2 := hA2.set x2_8 (.slice A2 n2 c2)
                clear KB GB F8 F7 hA1 hA2 hS
                go_simp
                refine hK.out _ _ ⟨KB2, GB2⟩ (fun hS => ?_)
                clear hK K d0 f0
                generalize U57.setCell ⟨g8, 0, none⟩ (.slice A2 n2 c2) = U58 at KB2 GB2 hS G7 G8 hB1 hB2 ⊢
                have KB := KB2
                have GB := GB2
                have F7 := G7
                have F8 := G8
                have hA1 := hB1
                have hA2 := hB2
                clear KB2 GB2 G7 G8 hB1 hB2
                refine wpAnyH_done (by kernel_rfl) ?_ _
                go_wp2_with fail
                go_meet
                exact ⟨g7, g8, A1, n1, c1, A2, n2, c2, rfl, rfl, by omega, by omega, F7, F8, hA1, hA2, KB, GB⟩
        case rest =>
          clear KB GB
          obtain ⟨g7, g8, A1, n1, c1, A2, n2, c2, rfl, rfl, l7, l8, F7, F8, hA1, hA2, KB, B⟩ := hcut
          rename World => X
          have HL1 : Hid (L.length = n1) := Lib.hid (by obtain ⟨⟨b, h⟩, _⟩ := hA1; have := h.1; rw [length_us] at this; omega)
          have HL2 : Hid (M.length = n2) := Lib.hid (by obtain ⟨⟨b, h⟩, _⟩ := hA2; have := h.1; rw [length_us] at this; omega)
          have H12 : Hid (n1 ≤ 12) := Lib.hid (by have := HL1.out; have := H91.out; omega)
          have HBw : Hid (∀ u, Below X.heap.size X u → Below w.heap.size w u) := Lib.hid (fun u h => B.trans (h.mono B.size))
          have HP1 : Hid (∀ u, Below X.heap.size X u → PAt G u A1 n1 c1 L) := Lib.hid (fun u h => by
            obtain ⟨⟨b, ho⟩, _⟩ := hA1
            exact (PAt.own ho (by have := H12.out; omega) HU1.out (HGs.out _ B)).below HG.out h)
          have HP2 : Hid (∀ u, Below X.heap.size X u → PAt G u A2 n2 c2 M) := Lib.hid (fun u h => by
            obtain ⟨⟨b, ho⟩, _⟩ := hA2
            exact (PAt.own ho (by have := HL2.out; have := H92.out; omega) HU2.out (HGs.out _ B)).below HG.out h)
          have HP3 : Hid (∀ (u : World) {base : Nat} {A3 : Option Addr} {c3 : Nat}, u.ownsRow base 29 1 (.slice A3 n1 c3) n1 (us L) → Below X.heap.size X u → PAt G u A3 n1 c3 L) := Lib.hid (fun u _ _ _ h hb => PAt.own h (by have := H12.out; omega) HU1.out (HGs.out _ (HBw.out _ hb)))
          have HF7 : Hid (∀ u, Below X.heap.size X u → Blk u g7 24 #[.slice A1 n1 c1]) := Lib.hid (fun u h => F7.below h F7.lt)
          have HF8 : Hid (∀ u, Below X.heap.size X u → Blk u g8 24 #[.slice A2 n2 c2]) := Lib.hid (fun u h => F8.below h F8.lt)
          have HF6 : Hid (∀ u, Below X.heap.size X u → Blk u g6 24 #[.slice x.A x.n x.c]) := Lib.hid (fun u h => KB.below h KB.lt)
          have HSx : Hid (∀ u, Below X.heap.size X u → Calls Try.prog 10 #[.agg #[.slice x.A x.n x.c]] u (GivesP L u)) := Lib.hid (fun u h => HSx0.out u (HBw.out u h))
          obtain ⟨sm, hsm⟩ : ∃ sm, sameP L M = sm := ⟨_, rfl⟩
          have HSm : Hid (∀ u, Below X.heap.size X u → Calls Try.prog 17 #[.agg #[.slice A1 n1 c1], .agg #[.slice A2 n2 c2]] u (Said (.bool sm) u)) := Lib.hid (fun u h => hsm ▸ HSa.out A1 A2 n1 c1 n2 c2 L M u (HP1.out u h) (HP2.out u h))
          have HSr : Hid (∀ u, Below X.heap.size X u → Calls Try.prog 13 #[.agg #[.slice A1 n1 c1], .agg #[.slice A2 n2 c2]] u (Said (.bool sm) u)) := Lib.hid (fun u h => hsm ▸ rsameP_any A1 A2 n1 c1 n2 c2 L M u (HP1.out u h).1 (HP2.out u h).1 (HP1.out u h).2.2.1)
          have HSs : Hid (∀ (A3 : Option Addr) (c3 : Nat) (u : World), PAt G u A3 n1 c3 L ∧ Below X.heap.size X u → Calls Try.prog 17 #[.agg #[.slice A1 n1 c1], .agg #[.slice A3 n1 c3]] u (Said (.bool true) u)) := Lib.hid (fun A3 c3 u h => by
            have := HSa.out A1 A3 n1 c1 n1 c3 L L u (HP1.out u h.2) h.1
            rwa [sameP_self] at this)
          have b9 : (sm != sm) = false := by simp
          have GB := Below.refl X.heap.size X
          clear hsm F7 F8 hA1 hA2 KB B l7 l8 HS1 HS2 HSx0
          cases hr : rightP L with
          | false =>
            have HRx : Hid (∀ u, Below X.heap.size X u → Calls Try.prog 15 #[.agg #[.slice A1 n1 c1]] u (Said (.bool false) u)) := Lib.hid (fun u h => by
              have := rrightP_any A1 n1 c1 L u (HP1.out u h).1 (HP1.out u h).2.2.1
              rwa [hr] at this)
            have HCx : Hid (∀ u, Below X.heap.size X u → Calls Try.prog 16 #[.agg #[.slice A1 n1 c1]] u (Said (.int .i64 180) u)) := Lib.hid (fun u h => by
              have := HCk.out A1 n1 c1 L u (HP1.out u h)
              rw [hr] at this
              exact this)
            have HAx : Hid (∀ u, Below X.heap.size X u → Calls Try.prog 18 #[.agg #[.slice A1 n1 c1]] u (Said (.int .u32 (0)) u)) := Lib.hid (fun u h => by
              have := HCp.out A1 n1 c1 L u (HP1.out u h)
              rwa [show cpusR L = 0 by unfold cpusR; rw [hr]; rfl] at this)
            have p6 := (HF6.out _ GB).cell 0
            have p7 := (HF7.out _ GB).cell 0
            have p8 := (HF8.out _ GB).cell 0
            go_wp2_with fail
            refine (HRx.out _ GB).mono ?_
            rintro e w2 ⟨rfl, h2⟩
            replace GB := GB.trans (h2.mono GB.size)
            clear h2 p6 p7 p8
            have p6 := (HF6.out _ GB).cell 0
            have p7 := (HF7.out _ GB).cell 0
            have p8 := (HF8.out _ GB).cell 0
            go_wp2_with fail
            refine (HCx.out _ GB).mono ?_
            rintro e w3 ⟨rfl, h2⟩
            replace GB := GB.trans (h2.mono GB.size)
            clear h2 p6 p7 p8
            have p6 := (HF6.out _ GB).cell 0
            have p7 := (HF7.out _ GB).cell 0
            have p8 := (HF8.out _ GB).cell 0
            clear p6 p7 p8 HRx HCx
            go_upto_region 10 with fail
            replace GB := GB.drew
            go_cut [69] (fun s69 wx => s69 = .bool false ∧ Below X.heap.size X wx)
            case first =>
                refine wp_region_held_drew (S := fun W => Below X.heap.size X W) (by kernel_rfl) GB (fun hS => ?_)
                generalize w3.drew = V at GB hS ⊢
                refine wpAnyH_take (i := 0) (v := .int .i64 180) rfl (by kernel_rfl) (by kernel_rfl) (by kernel_rfl) (fun _ _ _ h => h) (Or.inl ⟨by kernel_rfl, fun u hSw => (by go_simp)⟩) hS ?_
                change wpAnyH _ _ _ _ _ _ _ (Act.put _ (some 42) _) _
                simp only [Act.put]
                refine wpAnyH_take (i := 1) (v := .bool false) rfl (by kernel_rfl) (by kernel_rfl) (by kernel_rfl) (fun _ _ _ h => h) (Or.inl ⟨by kernel_rfl, fun u hSw => (by go_simp)⟩) hS ?_
                change wpAnyH _ _ _ _ _ _ _ (Act.put _ (some 43) _) _
                simp only [Act.put]
                refine wpAnyH_take (i := 2) (v := .bool false) rfl (by kernel_rfl) (by kernel_rfl) (by kernel_rfl) (fun _ _ _ h => h) (Or.inl ⟨by kernel_rfl, fun u hSw => (by go_simp)⟩) hS ?_
                change wpAnyH _ _ _ _ _ _ _ (Act.put _ (some 44) _) _
                simp only [Act.put]
                refine wpAnyH_take (i := 3) (v := .bool false) rfl (by kernel_rfl) (by kernel_rfl) (by kernel_rfl) (fun _ _ _ h => h) (Or.inl ⟨by kernel_rfl, fun u hSw => (by go_simp)⟩) hS ?_
                change wpAnyH _ _ _ _ _ _ _ (Act.put _ (some 45) _) _
                simp only [Act.put]
                refine wpAnyH_take (i := 4) (v := .bool false) rfl (by kernel_rfl) (by kernel_rfl) (by kernel_rfl) (fun _ _ _ h => h) (Or.inl ⟨by kernel_rfl, fun u hSw => (by go_simp)⟩) hS ?_
                change wpAnyH _ _ _ _ _ _ _ (Act.put _ (some 46) _) _
                simp only [Act.put]
                refine wpAnyH_take (i := 5) (v := .bool false) rfl (by kernel_rfl) (by kernel_rfl) (by kernel_rfl) (fun _ _ _ h => h) (Or.inl ⟨by kernel_rfl, fun u hSw => (by go_simp)⟩) hS ?_
                change wpAnyH _ _ _ _ _ _ _ (Act.put _ (some 47) _) _
                simp only [Act.put]
                refine wpAnyH_take (i := 6) (v := .bool true) rfl (by kernel_rfl) (by kernel_rfl) (by kernel_rfl) (fun _ _ _ h => h) (Or.inl ⟨by kernel_rfl, fun u hSw => (by go_simp)⟩) hS ?_
                change wpAnyH _ _ _ _ _ _ _ (Act.put _ (some 48) _) _
                simp only [Act.put]
                refine wpAnyH_take (i := 7) (v := .bool true) rfl (by kernel_rfl) (by kernel_rfl) (by kernel_rfl) (fun _ _ _ h => h) (Or.inl ⟨by kernel_rfl, fun u hSw => (by go_simp)⟩) hS ?_
                change wpAnyH _ _ _ _ _ _ _ (Act.put _ (some 49) _) _
                simp only [Act.put]
                refine wpAnyH_take (i := 8) (v := .int .i64 180) rfl (by kernel_rfl) (by kernel_rfl) (by kernel_rfl) (fun _ _ _ h => h) (Or.inl ⟨by kernel_rfl, fun u hSw => (by go_simp)⟩) hS ?_
                change wpAnyH _ _ _ _ _ _ _ (Act.put _ (some 50) _) _
                simp only [Act.put]
                refine wpAnyH_take (i := 9) (v := .bool false) rfl (by kernel_rfl) (by kernel_rfl) (by kernel_rfl) (fun _ _ _ h => h) (Or.inl ⟨by kernel_rfl, fun u hSw => (by go_simp)⟩) hS ?_
                change wpAnyH _ _ _ _ _ _ _ (Act.put _ (some 51) _) _
                simp only [Act.put]
                refine wpAnyH_take (i := 10) (v := .bool false) rfl (by kernel_rfl) (by kernel_rfl) (by kernel_rfl) (fun _ _ _ h => h) (Or.inl ⟨by kernel_rfl, fun u hSw => (by go_simp)⟩) hS ?_
                change wpAnyH _ _ _ _ _ _ _ (Act.put _ (some 52) _) _
                simp only [Act.put]
                refine wpAnyH_take (i := 11) (v := .bool false) rfl (by kernel_rfl) (by kernel_rfl) (by kernel_rfl) (fun _ _ _ h => h) (Or.inl ⟨by kernel_rfl, fun u hSw => (by go_simp)⟩) hS ?_
                change wpAnyH _ _ _ _ _ _ _ (Act.put _ (some 53) _) _
                simp only [Act.put]
                refine wpAnyH_take (i := 12) (v := .bool false) rfl (by kernel_rfl) (by kernel_rfl) (by kernel_rfl) (fun _ _ _ h => h) (Or.inl ⟨by kernel_rfl, fun u hSw => (by go_simp)⟩) hS ?_
                change wpAnyH _ _ _ _ _ _ _ (Act.put _ (some 54) _) _
                simp only [Act.put]
                refine wpAnyH_take (i := 13) (v := .agg #[.slice A1 n1 c1]) rfl (by kernel_rfl) (by kernel_rfl) (by kernel_rfl) (fun _ _ _ h => h) (Or.inl ⟨by kernel_rfl, fun u hSw => (by have c0 : u.cell? ⟨g7, 0, none⟩ = some (.slice A1 n1 c1) := (HF7.out u hSw).cell 0; go_simp)⟩) hS ?_
                change wpAnyH _ _ _ _ _ _ _ (Act.put _ (some 55) _) _
                simp only [Act.put]
                refine wpAnyH_take (i := 14) (v := .agg #[.slice A2 n2 c2]) rfl (by kernel_rfl) (by kernel_rfl) (by kernel_rfl) (fun _ _ _ h => h) (Or.inl ⟨by kernel_rfl, fun u hSw => (by have c0 : u.cell? ⟨g8, 0, none⟩ = some (.slice A2 n2 c2) := (HF8.out u hSw).cell 0; go_simp)⟩) hS ?_
                change wpAnyH _ _ _ _ _ _ _ (Act.put _ (some 56) _) _
                simp only [Act.put]
                refine wpAnyH_take (i := 16) (v := .agg #[.slice A1 n1 c1]) rfl (by kernel_rfl) (by kernel_rfl) (by kernel_rfl) (fun _ _ _ h => h) (Or.inl ⟨by kernel_rfl, fun u hSw => (by have c0 : u.cell? ⟨g7, 0, none⟩ = some (.slice A1 n1 c1) := (HF7.out u hSw).cell 0; go_simp)⟩) hS ?_
                change wpAnyH _ _ _ _ _ _ _ (Act.put _ (some 58) _) _
                simp only [Act.put]
                refine wpAnyH_take (i := 17) (v := .agg #[.slice A2 n2 c2]) rfl (by kernel_rfl) (by kernel_rfl) (by kernel_rfl) (fun _ _ _ h => h) (Or.inl ⟨by kernel_rfl, fun u hSw => (by have c0 : u.cell? ⟨g8, 0, none⟩ = some (.slice A2 n2 c2) := (HF8.out u hSw).cell 0; go_simp)⟩) hS ?_
                change wpAnyH _ _ _ _ _ _ _ (Act.put _ (some 59) _) _
                simp only [Act.put]
                refine wpAnyH_ready (rs := [15]) (by kernel_rfl) (by simp) ?_
                refine AllReadyH.cons rfl (fun K hK => ?_) (AllReadyH.nil)
                go_simp
                refine (HSm.out _ GB).mono ?_
                rintro e w1 ⟨rfl, h2⟩
                replace GB := GB.trans (h2.mono GB.size)
                clear h2
                refine hK.out _ _ GB (fun hS => ?_)
                clear hK K
                refine wpAnyH_ready (rs := [18]) (by kernel_rfl) (by simp) ?_
                refine AllReadyH.cons rfl (fun K hK => ?_) (AllReadyH.nil)
                go_simp
                refine (HSr.out _ GB).mono ?_
                rintro e w2 ⟨rfl, h2⟩
                replace GB := GB.trans (h2.mono GB.size)
                clear h2
                refine hK.out _ _ GB (fun hS => ?_)
                clear hK K
                refine wpAnyH_take (i := 19) (v := .bool false) rfl (by kernel_rfl) (by kernel_rfl) (by kernel_rfl) (fun _ _ _ h => h) (Or.inl ⟨by kernel_rfl, fun u hSw => (by go_simp)⟩) hS ?_
                change wpAnyH _ _ _ _ _ _ _ (Act.put _ (some 61) _) _
                simp only [Act.put]
                refine wpAnyH_take (i := 20) (v := .bool false) rfl (by kernel_rfl) (by kernel_rfl) (by kernel_rfl) (fun _ _ _ h => h) (Or.inl ⟨by kernel_rfl, fun u hSw => (by go_simp)⟩) hS ?_
                change wpAnyH _ _ _ _ _ _ _ (Act.put _ (some 62) _) _
                simp only [Act.put]
                refine wpAnyH_take (i := 21) (v := .bool false) rfl (by kernel_rfl) (by kernel_rfl) (by kernel_rfl) (fun _ _ _ h => h) (Or.inl ⟨by kernel_rfl, fun u hSw => (by go_simp)⟩) hS ?_
                change wpAnyH _ _ _ _ _ _ _ (Act.put _ (some 63) _) _
                simp only [Act.put]
                refine wpAnyH_take (i := 22) (v := .agg #[.slice A1 n1 c1]) rfl (by kernel_rfl) (by kernel_rfl) (by kernel_rfl) (fun _ _ _ h => h) (Or.inl ⟨by kernel_rfl, fun u hSw => (by have c0 : u.cell? ⟨g7, 0, none⟩ = some (.slice A1 n1 c1) := (HF7.out u hSw).cell 0; go_simp)⟩) hS ?_
                change wpAnyH _ _ _ _ _ _ _ (Act.put _ (some 64) _) _
                simp only [Act.put]
                refine wpAnyH_take (i := 23) (v := .agg #[.slice x.A x.n x.c]) rfl (by kernel_rfl) (by kernel_rfl) (by kernel_rfl) (fun _ _ _ h => h) (Or.inl ⟨by kernel_rfl, fun u hSw => (by have c0 : u.cell? ⟨g6, 0, none⟩ = some (.slice x.A x.n x.c) := (HF6.out u hSw).cell 0; go_simp)⟩) hS ?_
                change wpAnyH _ _ _ _ _ _ _ (Act.put _ (some 65) _) _
                simp only [Act.put]
                refine wpAnyH_ready (rs := [24]) (by kernel_rfl) (by simp) ?_
                refine AllReadyH.cons rfl (fun K hK => ?_) (AllReadyH.nil)
                go_simp
                refine (HSx.out _ GB).mono ?_
                rintro e w3 ⟨A3, c3, rfl, own3, h2⟩
                replace GB := GB.trans (h2.mono GB.size)
                rw [HL1.out] at own3 ⊢
                have hA3 := Lib.hid (And.intro (HP3.out _ own3 GB) GB)
                clear own3
                clear h2
                refine hK.out _ _ GB (fun hS => ?_)
                clear hK K
                refine wpAnyH_ready (rs := [25]) (by kernel_rfl) (by simp) ?_
                refine AllReadyH.cons rfl (fun K hK => ?_) (AllReadyH.nil)
                go_simp
                refine (HSs.out A3 c3 _ hA3.out).mono ?_
                rintro e w4 ⟨rfl, h2⟩
                replace GB := GB.trans (h2.mono GB.size)
                clear h2
                refine hK.out _ _ GB (fun hS => ?_)
                clear hK K
                refine wpAnyH_take (i := 26) (v := .bool false) rfl (by kernel_rfl) (by kernel_rfl) (by kernel_rfl) (fun _ _ _ h => h) (Or.inl ⟨by kernel_rfl, fun u hSw => (by go_simp)⟩) hS ?_
                change wpAnyH _ _ _ _ _ _ _ (Act.put _ (some 68) _) _
                simp only [Act.put]
                refine wpAnyH_take (i := 27) (v := .bool false) rfl (by kernel_rfl) (by kernel_rfl) (by kernel_rfl) (fun _ _ _ h => h) (Or.inl ⟨by kernel_rfl, fun u hSw => (by go_simp)⟩) hS ?_
                change wpAnyH _ _ _ _ _ _ _ (Act.put _ (some 69) _) _
                simp only [Act.put]
                refine wpAnyH_done (by kernel_rfl) ?_ _
                go_wp2_with fail
                try go_simp
                go_meet
                exact ⟨rfl, GB⟩
            case rest =>
              clear GB
              obtain ⟨rfl, GB⟩ := hcut
              have p6 := (HF6.out _ GB).cell 0
              have p7 := (HF7.out _ GB).cell 0
              have p8 := (HF8.out _ GB).cell 0
              go_wp2_with fail
              clear p6 p7 p8
              go_loopw [11, 73] (fun s iv wr => ∃ q : Nat, q ≤ n1 ∧ s = .int .u32 (0) ∧ iv = .int .i64 (q : Int) ∧ Below X.heap.size X wr) (fun _ iv _ => n1 - (intOf iv).toNat)
              case atStart => exact ⟨0, by omega, rfl, rfl, GB⟩
              case round =>
                clear GB
                obtain ⟨q, hq, rfl, rfl, GB⟩ := hrel
                by_cases hqn : q < n1
                · obtain ⟨ad4, yy, rfl, _, hyy, dy⟩ := uset_at (HP1.out _ GB).1 hqn
                  have q0 : (0 : Int) ≤ (q : Int) := by omega
                  have q1 : (q : Int) < (n1 : Int) := by omega
                  have q9 : q < 100 := by have := H12.out; omega
                  have HQ := Lib.hid (show q + 1 ≤ n1 by omega)
                  skip
                  clear hyy hq hqn
                  go_wp2
                  go_roundw
                  case rel => exact ⟨q + 1, HQ.out, rfl, by go_num, GB⟩
                  case measure => have := HQ.out; simp [intOf] <;> omega
                · obtain rfl : n1 = q := by omega
                  clear hq hqn
                  skip
                  have p6 := (HF6.out _ GB).cell 0
                  have p7 := (HF7.out _ GB).cell 0
                  have p8 := (HF8.out _ GB).cell 0
                  go_wp2_with fail
                  refine (HAx.out _ GB).mono ?_
                  rintro e w4 ⟨rfl, h2⟩
                  replace GB := GB.trans (h2.mono GB.size)
                  clear h2 p6 p7 p8
                  have p6 := (HF6.out _ GB).cell 0
                  have p7 := (HF7.out _ GB).cell 0
                  have p8 := (HF8.out _ GB).cell 0
                  clear p6 p7 p8 HAx
                  skip
                  go_wp2_with fail
                  go_loopw [88] (fun iv wr => ∃ i : Nat, i ≤ n' ∧ i ≤ 12 ∧ iv = .int .i64 (i : Int) ∧ Below X.heap.size X wr) (fun iv _ => n' - (intOf iv).toNat)
                  case atStart => exact ⟨0, by omega, by omega, rfl, GB⟩
                  case round =>
                    clear GB
                    obtain ⟨i, hi, hi12, rfl, GB⟩ := hrel
                    by_cases him : i < n'
                    · obtain ⟨ad3, v3, rfl, _, hx3, hc3⟩ := (HR'.out.below (HBw.out _ GB)).at_ him
                      obtain ⟨v, hv3, rfl⟩ := vs_at hx3
                      have k2 : (0 : Int) ≤ (i : Int) := by omega
                      have k3 : (i : Int) < (n' : Int) := by omega
                      clear hx3 hv3
                      by_cases h12 : i = 12
                      · have e12 : ((i : Int) == 12) = true := by simp; omega
                        have HBf := Lib.hid (HBw.out _ GB)
                        clear h12 hi12
                        go_wp2
                        go_roundw
                        case rel => exact ⟨k + 1, HJ.out.1, HJ.out.2, by go_num, HBf.out⟩
                        case measure => have := HJ.out.1; simp [intOf]; omega
                      · have e12 : ((i : Int) == 12) = false := by simp; omega
                        have HI := Lib.hid (show i + 1 ≤ n' ∧ i + 1 ≤ 12 by omega)
                        have i9 : i < 100 := by omega
                        clear h12 hi12 hi him
                        have HOf1 : Hid (∀ u, Below X.heap.size X u → Calls Try.prog 19 #[.agg #[.slice A1 n1 c1], .int .i64 v] u (Said (.tuple #[.int .i64 0, .bool false]) u)) := Lib.hid (fun u h => by
                          have := HOf.out A1 n1 c1 L v u (HP1.out u h)
                          rwa [show ofR L v = (0, false) from if_neg (by rw [hr]; simp)] at this)
                        have HSe1 : Hid (∀ u, Below X.heap.size X u → Calls Try.prog 22 #[.agg #[.slice A1 n1 c1], .int .i64 v] u (Said (.int .u32 0) u)) := Lib.hid (fun u h => by
                          have := HSe.out A1 n1 c1 L v u (HP1.out u h)
                          rwa [show setR L v = 0 from if_neg (by rw [hr]; simp)] at this)
                        have p6 := (HF6.out _ GB).cell 0
                        have p7 := (HF7.out _ GB).cell 0
                        have p8 := (HF8.out _ GB).cell 0
                        go_wp2_with fail
                        refine (HOf1.out _ GB).mono ?_
                        rintro e w5 ⟨rfl, h2⟩
                        replace GB := GB.trans (h2.mono GB.size)
                        clear h2 p6 p7 p8
                        have p6 := (HF6.out _ GB).cell 0
                        have p7 := (HF7.out _ GB).cell 0
                        have p8 := (HF8.out _ GB).cell 0
                        go_wp2_with fail
                        refine (HSe1.out _ GB).mono ?_
                        rintro e w6 ⟨rfl, h2⟩
                        replace GB := GB.trans (h2.mono GB.size)
                        clear h2 p6 p7 p8
                        have p6 := (HF6.out _ GB).cell 0
                        have p7 := (HF7.out _ GB).cell 0
                        have p8 := (HF8.out _ GB).cell 0
                        clear p6 p7 p8 HOf1 HSe1
                        go_wp2
                        go_roundw
                        case rel => exact ⟨i + 1, HI.out.1, HI.out.2, by go_num, GB⟩
                        case measure => have := HI.out.1; simp [intOf]; omega
                    · obtain rfl : n' = i := by omega
                      have HBf := Lib.hid (HBw.out _ GB)
                      clear hi12
                      go_wp2
                      go_roundw
                      case rel => exact ⟨k + 1, HJ.out.1, HJ.out.2, by go_num, HBf.out⟩
                      case measure => have := HJ.out.1; simp [intOf]; omega
          | true =>
            have HRx : Hid (∀ u, Below X.heap.size X u → Calls Try.prog 15 #[.agg #[.slice A1 n1 c1]] u (Said (.bool true) u)) := Lib.hid (fun u h => by
              have := rrightP_any A1 n1 c1 L u (HP1.out u h).1 (HP1.out u h).2.2.1
              rwa [hr] at this)
            have HCx : Hid (∀ u, Below X.heap.size X u → Calls Try.prog 16 #[.agg #[.slice A1 n1 c1]] u (Said (.int .i64 0) u)) := Lib.hid (fun u h => by
              have := HCk.out A1 n1 c1 L u (HP1.out u h)
              rw [hr] at this
              exact this)
            have HAx : Hid (∀ u, Below X.heap.size X u → Calls Try.prog 18 #[.agg #[.slice A1 n1 c1]] u (Said (.int .u32 (((orK L n1 : Nat) : Int))) u)) := Lib.hid (fun u h => by
              have := HCp.out A1 n1 c1 L u (HP1.out u h)
              rwa [show cpusR L = orK L n1 by unfold cpusR; rw [if_pos hr, HL1.out]] at this)
            have p6 := (HF6.out _ GB).cell 0
            have p7 := (HF7.out _ GB).cell 0
            have p8 := (HF8.out _ GB).cell 0
            go_wp2_with fail
            refine (HRx.out _ GB).mono ?_
            rintro e w2 ⟨rfl, h2⟩
            replace GB := GB.trans (h2.mono GB.size)
            clear h2 p6 p7 p8
            have p6 := (HF6.out _ GB).cell 0
            have p7 := (HF7.out _ GB).cell 0
            have p8 := (HF8.out _ GB).cell 0
            go_wp2_with fail
            refine (HCx.out _ GB).mono ?_
            rintro e w3 ⟨rfl, h2⟩
            replace GB := GB.trans (h2.mono GB.size)
            clear h2 p6 p7 p8
            have p6 := (HF6.out _ GB).cell 0
            have p7 := (HF7.out _ GB).cell 0
            have p8 := (HF8.out _ GB).cell 0
            clear p6 p7 p8 HRx HCx
            go_upto_region 10 with fail
            replace GB := GB.drew
            go_cut [69] (fun s69 wx => s69 = .bool false ∧ Below X.heap.size X wx)
            case first =>
                refine wp_region_held_drew (S := fun W => Below X.heap.size X W) (by kernel_rfl) GB (fun hS => ?_)
                generalize w3.drew = V at GB hS ⊢
                refine wpAnyH_take (i := 0) (v := .int .i64 0) rfl (by kernel_rfl) (by kernel_rfl) (by kernel_rfl) (fun _ _ _ h => h) (Or.inl ⟨by kernel_rfl, fun u hSw => (by go_simp)⟩) hS ?_
                change wpAnyH _ _ _ _ _ _ _ (Act.put _ (some 42) _) _
                simp only [Act.put]
                refine wpAnyH_take (i := 1) (v := .bool true) rfl (by kernel_rfl) (by kernel_rfl) (by kernel_rfl) (fun _ _ _ h => h) (Or.inl ⟨by kernel_rfl, fun u hSw => (by go_simp)⟩) hS ?_
                change wpAnyH _ _ _ _ _ _ _ (Act.put _ (some 43) _) _
                simp only [Act.put]
                refine wpAnyH_take (i := 2) (v := .bool true) rfl (by kernel_rfl) (by kernel_rfl) (by kernel_rfl) (fun _ _ _ h => h) (Or.inl ⟨by kernel_rfl, fun u hSw => (by go_simp)⟩) hS ?_
                change wpAnyH _ _ _ _ _ _ _ (Act.put _ (some 44) _) _
                simp only [Act.put]
                refine wpAnyH_take (i := 3) (v := .bool false) rfl (by kernel_rfl) (by kernel_rfl) (by kernel_rfl) (fun _ _ _ h => h) (Or.inl ⟨by kernel_rfl, fun u hSw => (by go_simp)⟩) hS ?_
                change wpAnyH _ _ _ _ _ _ _ (Act.put _ (some 45) _) _
                simp only [Act.put]
                refine wpAnyH_take (i := 4) (v := .bool false) rfl (by kernel_rfl) (by kernel_rfl) (by kernel_rfl) (fun _ _ _ h => h) (Or.inl ⟨by kernel_rfl, fun u hSw => (by go_simp)⟩) hS ?_
                change wpAnyH _ _ _ _ _ _ _ (Act.put _ (some 46) _) _
                simp only [Act.put]
                refine wpAnyH_take (i := 5) (v := .bool true) rfl (by kernel_rfl) (by kernel_rfl) (by kernel_rfl) (fun _ _ _ h => h) (Or.inl ⟨by kernel_rfl, fun u hSw => (by go_simp)⟩) hS ?_
                change wpAnyH _ _ _ _ _ _ _ (Act.put _ (some 47) _) _
                simp only [Act.put]
                refine wpAnyH_take (i := 6) (v := .bool false) rfl (by kernel_rfl) (by kernel_rfl) (by kernel_rfl) (fun _ _ _ h => h) (Or.inl ⟨by kernel_rfl, fun u hSw => (by go_simp)⟩) hS ?_
                change wpAnyH _ _ _ _ _ _ _ (Act.put _ (some 48) _) _
                simp only [Act.put]
                refine wpAnyH_take (i := 7) (v := .bool false) rfl (by kernel_rfl) (by kernel_rfl) (by kernel_rfl) (fun _ _ _ h => h) (Or.inl ⟨by kernel_rfl, fun u hSw => (by go_simp)⟩) hS ?_
                change wpAnyH _ _ _ _ _ _ _ (Act.put _ (some 49) _) _
                simp only [Act.put]
                refine wpAnyH_take (i := 8) (v := undef) rfl (by kernel_rfl) (by kernel_rfl) (by kernel_rfl) (fun _ _ _ h => h) (Or.inr ⟨by kernel_rfl, rfl⟩) hS ?_
                change wpAnyH _ _ _ _ _ _ _ (Act.put _ (some 50) _) _
                simp only [Act.put]
                refine wpAnyH_take (i := 9) (v := undef) rfl (by kernel_rfl) (by kernel_rfl) (by kernel_rfl) (fun _ _ _ h => h) (Or.inr ⟨by kernel_rfl, rfl⟩) hS ?_
                change wpAnyH _ _ _ _ _ _ _ (Act.put _ (some 51) _) _
                simp only [Act.put]
                refine wpAnyH_take (i := 10) (v := .bool false) rfl (by kernel_rfl) (by kernel_rfl) (by kernel_rfl) (fun _ _ _ h => h) (Or.inl ⟨by kernel_rfl, fun u hSw => (by go_simp)⟩) hS ?_
                change wpAnyH _ _ _ _ _ _ _ (Act.put _ (some 52) _) _
                simp only [Act.put]
                refine wpAnyH_take (i := 11) (v := .bool false) rfl (by kernel_rfl) (by kernel_rfl) (by kernel_rfl) (fun _ _ _ h => h) (Or.inl ⟨by kernel_rfl, fun u hSw => (by go_simp)⟩) hS ?_
                change wpAnyH _ _ _ _ _ _ _ (Act.put _ (some 53) _) _
                simp only [Act.put]
                refine wpAnyH_take (i := 12) (v := .bool false) rfl (by kernel_rfl) (by kernel_rfl) (by kernel_rfl) (fun _ _ _ h => h) (Or.inl ⟨by kernel_rfl, fun u hSw => (by go_simp)⟩) hS ?_
                change wpAnyH _ _ _ _ _ _ _ (Act.put _ (some 54) _) _
                simp only [Act.put]
                refine wpAnyH_take (i := 13) (v := .agg #[.slice A1 n1 c1]) rfl (by kernel_rfl) (by kernel_rfl) (by kernel_rfl) (fun _ _ _ h => h) (Or.inl ⟨by kernel_rfl, fun u hSw => (by have c0 : u.cell? ⟨g7, 0, none⟩ = some (.slice A1 n1 c1) := (HF7.out u hSw).cell 0; go_simp)⟩) hS ?_
                change wpAnyH _ _ _ _ _ _ _ (Act.put _ (some 55) _) _
                simp only [Act.put]
                refine wpAnyH_take (i := 14) (v := .agg #[.slice A2 n2 c2]) rfl (by kernel_rfl) (by kernel_rfl) (by kernel_rfl) (fun _ _ _ h => h) (Or.inl ⟨by kernel_rfl, fun u hSw => (by have c0 : u.cell? ⟨g8, 0, none⟩ = some (.slice A2 n2 c2) := (HF8.out u hSw).cell 0; go_simp)⟩) hS ?_
                change wpAnyH _ _ _ _ _ _ _ (Act.put _ (some 56) _) _
                simp only [Act.put]
                refine wpAnyH_take (i := 16) (v := .agg #[.slice A1 n1 c1]) rfl (by kernel_rfl) (by kernel_rfl) (by kernel_rfl) (fun _ _ _ h => h) (Or.inl ⟨by kernel_rfl, fun u hSw => (by have c0 : u.cell? ⟨g7, 0, none⟩ = some (.slice A1 n1 c1) := (HF7.out u hSw).cell 0; go_simp)⟩) hS ?_
                change wpAnyH _ _ _ _ _ _ _ (Act.put _ (some 58) _) _
                simp only [Act.put]
                refine wpAnyH_take (i := 17) (v := .agg #[.slice A2 n2 c2]) rfl (by kernel_rfl) (by kernel_rfl) (by kernel_rfl) (fun _ _ _ h => h) (Or.inl ⟨by kernel_rfl, fun u hSw => (by have c0 : u.cell? ⟨g8, 0, none⟩ = some (.slice A2 n2 c2) := (HF8.out u hSw).cell 0; go_simp)⟩) hS ?_
                change wpAnyH _ _ _ _ _ _ _ (Act.put _ (some 59) _) _
                simp only [Act.put]
                refine wpAnyH_ready (rs := [15]) (by kernel_rfl) (by simp) ?_
                refine AllReadyH.cons rfl (fun K hK => ?_) (AllReadyH.nil)
                go_simp
                refine (HSm.out _ GB).mono ?_
                rintro e w1 ⟨rfl, h2⟩
                replace GB := GB.trans (h2.mono GB.size)
                clear h2
                refine hK.out _ _ GB (fun hS => ?_)
                clear hK K
                refine wpAnyH_ready (rs := [18]) (by kernel_rfl) (by simp) ?_
                refine AllReadyH.cons rfl (fun K hK => ?_) (AllReadyH.nil)
                go_simp
                refine (HSr.out _ GB).mono ?_
                rintro e w2 ⟨rfl, h2⟩
                replace GB := GB.trans (h2.mono GB.size)
                clear h2
                refine hK.out _ _ GB (fun hS => ?_)
                clear hK K
                refine wpAnyH_take (i := 19) (v := .bool false) rfl (by kernel_rfl) (by kernel_rfl) (by kernel_rfl) (fun _ _ _ h => h) (Or.inl ⟨by kernel_rfl, fun u hSw => (by go_simp)⟩) hS ?_
                change wpAnyH _ _ _ _ _ _ _ (Act.put _ (some 61) _) _
                simp only [Act.put]
                refine wpAnyH_take (i := 20) (v := .bool false) rfl (by kernel_rfl) (by kernel_rfl) (by kernel_rfl) (fun _ _ _ h => h) (Or.inl ⟨by kernel_rfl, fun u hSw => (by go_simp)⟩) hS ?_
                change wpAnyH _ _ _ _ _ _ _ (Act.put _ (some 62) _) _
                simp only [Act.put]
                refine wpAnyH_take (i := 21) (v := .bool false) rfl (by kernel_rfl) (by kernel_rfl) (by kernel_rfl) (fun _ _ _ h => h) (Or.inl ⟨by kernel_rfl, fun u hSw => (by go_simp)⟩) hS ?_
                change wpAnyH _ _ _ _ _ _ _ (Act.put _ (some 63) _) _
                simp only [Act.put]
                refine wpAnyH_take (i := 22) (v := .agg #[.slice A1 n1 c1]) rfl (by kernel_rfl) (by kernel_rfl) (by kernel_rfl) (fun _ _ _ h => h) (Or.inl ⟨by kernel_rfl, fun u hSw => (by have c0 : u.cell? ⟨g7, 0, none⟩ = some (.slice A1 n1 c1) := (HF7.out u hSw).cell 0; go_simp)⟩) hS ?_
                change wpAnyH _ _ _ _ _ _ _ (Act.put _ (some 64) _) _
                simp only [Act.put]
                refine wpAnyH_take (i := 23) (v := .agg #[.slice x.A x.n x.c]) rfl (by kernel_rfl) (by kernel_rfl) (by kernel_rfl) (fun _ _ _ h => h) (Or.inl ⟨by kernel_rfl, fun u hSw => (by have c0 : u.cell? ⟨g6, 0, none⟩ = some (.slice x.A x.n x.c) := (HF6.out u hSw).cell 0; go_simp)⟩) hS ?_
                change wpAnyH _ _ _ _ _ _ _ (Act.put _ (some 65) _) _
                simp only [Act.put]
                refine wpAnyH_ready (rs := [24]) (by kernel_rfl) (by simp) ?_
                refine AllReadyH.cons rfl (fun K hK => ?_) (AllReadyH.nil)
                go_simp
                refine (HSx.out _ GB).mono ?_
                rintro e w3 ⟨A3, c3, rfl, own3, h2⟩
                replace GB := GB.trans (h2.mono GB.size)
                rw [HL1.out] at own3 ⊢
                have hA3 := Lib.hid (And.intro (HP3.out _ own3 GB) GB)
                clear own3
                clear h2
                refine hK.out _ _ GB (fun hS => ?_)
                clear hK K
                refine wpAnyH_ready (rs := [25]) (by kernel_rfl) (by simp) ?_
                refine AllReadyH.cons rfl (fun K hK => ?_) (AllReadyH.nil)
                go_simp
                refine (HSs.out A3 c3 _ hA3.out).mono ?_
                rintro e w4 ⟨rfl, h2⟩
                replace GB := GB.trans (h2.mono GB.size)
                clear h2
                refine hK.out _ _ GB (fun hS => ?_)
                clear hK K
                refine wpAnyH_take (i := 26) (v := .bool false) rfl (by kernel_rfl) (by kernel_rfl) (by kernel_rfl) (fun _ _ _ h => h) (Or.inl ⟨by kernel_rfl, fun u hSw => (by go_simp)⟩) hS ?_
                change wpAnyH _ _ _ _ _ _ _ (Act.put _ (some 68) _) _
                simp only [Act.put]
                refine wpAnyH_take (i := 27) (v := .bool false) rfl (by kernel_rfl) (by kernel_rfl) (by kernel_rfl) (fun _ _ _ h => h) (Or.inl ⟨by kernel_rfl, fun u hSw => (by go_simp)⟩) hS ?_
                change wpAnyH _ _ _ _ _ _ _ (Act.put _ (some 69) _) _
                simp only [Act.put]
                refine wpAnyH_done (by kernel_rfl) ?_ _
                go_wp2_with fail
                try go_simp
                go_meet
                exact ⟨rfl, GB⟩
            case rest =>
              clear GB
              obtain ⟨rfl, GB⟩ := hcut
              have p6 := (HF6.out _ GB).cell 0
              have p7 := (HF7.out _ GB).cell 0
              have p8 := (HF8.out _ GB).cell 0
              go_wp2_with fail
              clear p6 p7 p8
              go_loopw [11, 73] (fun s iv wr => ∃ q : Nat, q ≤ n1 ∧ s = .int .u32 (((orK L q : Nat) : Int)) ∧ iv = .int .i64 (q : Int) ∧ Below X.heap.size X wr) (fun _ iv _ => n1 - (intOf iv).toNat)
              case atStart => exact ⟨0, by omega, rfl, rfl, GB⟩
              case round =>
                clear GB
                obtain ⟨q, hq, rfl, rfl, GB⟩ := hrel
                by_cases hqn : q < n1
                · obtain ⟨ad4, yy, rfl, _, hyy, dy⟩ := uset_at (HP1.out _ GB).1 hqn
                  have q0 : (0 : Int) ≤ (q : Int) := by omega
                  have q1 : (q : Int) < (n1 : Int) := by omega
                  have q9 : q < 100 := by have := H12.out; omega
                  have HQ := Lib.hid (show q + 1 ≤ n1 by omega)
                  have HN := Lib.hid (or_next hr (by rw [HL1.out]; exact hqn) hyy)
                  clear hyy hq hqn
                  go_wp2
                  go_roundw
                  case rel => exact ⟨q + 1, HQ.out, congrArg (Value.int .u32) HN.out, by go_num, GB⟩
                  case measure => have := HQ.out; simp [intOf] <;> omega
                · obtain rfl : n1 = q := by omega
                  clear hq hqn
                  generalize ((orK L n1 : Nat) : Int) = av at HAx ⊢
                  have p6 := (HF6.out _ GB).cell 0
                  have p7 := (HF7.out _ GB).cell 0
                  have p8 := (HF8.out _ GB).cell 0
                  go_wp2_with fail
                  refine (HAx.out _ GB).mono ?_
                  rintro e w4 ⟨rfl, h2⟩
                  replace GB := GB.trans (h2.mono GB.size)
                  clear h2 p6 p7 p8
                  have p6 := (HF6.out _ GB).cell 0
                  have p7 := (HF7.out _ GB).cell 0
                  have p8 := (HF8.out _ GB).cell 0
                  clear p6 p7 p8 HAx
                  have b0 : (av != av) = false := by simp
                  go_wp2_with fail
                  go_loopw [88] (fun iv wr => ∃ i : Nat, i ≤ n' ∧ i ≤ 12 ∧ iv = .int .i64 (i : Int) ∧ Below X.heap.size X wr) (fun iv _ => n' - (intOf iv).toNat)
                  case atStart => exact ⟨0, by omega, by omega, rfl, GB⟩
                  case round =>
                    clear GB
                    obtain ⟨i, hi, hi12, rfl, GB⟩ := hrel
                    by_cases him : i < n'
                    · obtain ⟨ad3, v3, rfl, _, hx3, hc3⟩ := (HR'.out.below (HBw.out _ GB)).at_ him
                      obtain ⟨v, hv3, rfl⟩ := vs_at hx3
                      have k2 : (0 : Int) ≤ (i : Int) := by omega
                      have k3 : (i : Int) < (n' : Int) := by omega
                      clear hx3 hv3
                      by_cases h12 : i = 12
                      · have e12 : ((i : Int) == 12) = true := by simp; omega
                        have HBf := Lib.hid (HBw.out _ GB)
                        clear h12 hi12
                        go_wp2
                        go_roundw
                        case rel => exact ⟨k + 1, HJ.out.1, HJ.out.2, by go_num, HBf.out⟩
                        case measure => have := HJ.out.1; simp [intOf]; omega
                      · have e12 : ((i : Int) == 12) = false := by simp; omega
                        have HI := Lib.hid (show i + 1 ≤ n' ∧ i + 1 ≤ 12 by omega)
                        have i9 : i < 100 := by omega
                        clear h12 hi12 hi him
                        obtain ⟨ov, ob, hov⟩ : ∃ ov ob, ofV L v = (ov, ob) := ⟨_, _, rfl⟩
                        have HOf1 : Hid (∀ u, Below X.heap.size X u → Calls Try.prog 19 #[.agg #[.slice A1 n1 c1], .int .i64 v] u (Said (.tuple #[.int .i64 ov, .bool ob]) u)) := Lib.hid (fun u h => by
                          have := HOf.out A1 n1 c1 L v u (HP1.out u h)
                          rwa [show ofR L v = (ov, ob) from (if_pos hr).trans hov] at this)
                        have HOf2 : Hid (∀ u, Below X.heap.size X u → Calls Try.prog 20 #[.agg #[.slice A1 n1 c1], .int .i64 v] u (Said (.tuple #[.int .i64 ov, .bool ob]) u)) := Lib.hid (fun u h => by
                          have := rof_any A1 n1 c1 L v u (HP1.out u h).1 (HP1.out u h).2.2.1
                          rwa [hov] at this)
                        have b1 : (ov != ov) = false := by simp
                        have b2 : (ob != ob) = false := by simp
                        clear hov
                        cases hp : poolB L v with
                        | false =>
                          have HPo : Hid (∀ u, Below X.heap.size X u → Calls Try.prog 21 #[.agg #[.slice A1 n1 c1], .int .i64 v] u (Said (.bool false) u)) := Lib.hid (fun u h => by
                            have := rpool_any A1 n1 c1 L v u HL1.out
                            rwa [hp] at this)
                          have HSe1 : Hid (∀ u, Below X.heap.size X u → Calls Try.prog 22 #[.agg #[.slice A1 n1 c1], .int .i64 v] u (Said (.int .u32 0) u)) := Lib.hid (fun u h => by
                            have := HSe.out A1 n1 c1 L v u (HP1.out u h)
                            rwa [show setR L v = 0 from if_neg (by rw [hp]; simp)] at this)
                          clear hp
                          have p6 := (HF6.out _ GB).cell 0
                          have p7 := (HF7.out _ GB).cell 0
                          have p8 := (HF8.out _ GB).cell 0
                          go_wp2_with fail
                          refine (HOf1.out _ GB).mono ?_
                          rintro e w5 ⟨rfl, h2⟩
                          replace GB := GB.trans (h2.mono GB.size)
                          clear h2 p6 p7 p8
                          have p6 := (HF6.out _ GB).cell 0
                          have p7 := (HF7.out _ GB).cell 0
                          have p8 := (HF8.out _ GB).cell 0
                          go_wp2_with fail
                          refine (HOf2.out _ GB).mono ?_
                          rintro e w6 ⟨rfl, h2⟩
                          replace GB := GB.trans (h2.mono GB.size)
                          clear h2 p6 p7 p8
                          have p6 := (HF6.out _ GB).cell 0
                          have p7 := (HF7.out _ GB).cell 0
                          have p8 := (HF8.out _ GB).cell 0
                          go_wp2_with fail
                          refine (HPo.out _ GB).mono ?_
                          rintro e w7 ⟨rfl, h2⟩
                          replace GB := GB.trans (h2.mono GB.size)
                          clear h2 p6 p7 p8
                          have p6 := (HF6.out _ GB).cell 0
                          have p7 := (HF7.out _ GB).cell 0
                          have p8 := (HF8.out _ GB).cell 0
                          go_wp2_with fail
                          refine (HSe1.out _ GB).mono ?_
                          rintro e w8 ⟨rfl, h2⟩
                          replace GB := GB.trans (h2.mono GB.size)
                          clear h2 p6 p7 p8
                          have p6 := (HF6.out _ GB).cell 0
                          have p7 := (HF7.out _ GB).cell 0
                          have p8 := (HF8.out _ GB).cell 0
                          clear p6 p7 p8 HOf1 HOf2 HPo HSe1
                          go_wp2
                          go_roundw
                          case rel => exact ⟨i + 1, HI.out.1, HI.out.2, by go_num, GB⟩
                          case measure => have := HI.out.1; simp [intOf]; omega
                        | true =>
                          have HPo : Hid (∀ u, Below X.heap.size X u → Calls Try.prog 21 #[.agg #[.slice A1 n1 c1], .int .i64 v] u (Said (.bool true) u)) := Lib.hid (fun u h => by
                            have := rpool_any A1 n1 c1 L v u HL1.out
                            rwa [hp] at this)
                          obtain ⟨m, rfl, hm⟩ := poolB_true hp
                          have hm1 : m < n1 := by have := HL1.out; omega
                          have hcc : n1 ≤ c1 := (HP1.out _ GB).2.1
                          obtain ⟨ad5, yy, rfl, _, hyy, _⟩ := uset_at (HP1.out _ GB).1 hm1
                          have HYc : Hid (∀ u, Below X.heap.size X u → u.cell? (ad5.add m) = some (.int .u32 (yy : Int))) := Lib.hid (fun u h => by
                            obtain ⟨ad6, y6, e6, _, h6, h7⟩ := uset_at (HP1.out u h).1 hm1
                            obtain rfl := Option.some.inj e6
                            rw [hyy] at h6
                            obtain rfl := Option.some.inj h6
                            exact h7)
                          have HSe1 : Hid (∀ u, Below X.heap.size X u → Calls Try.prog 22 #[.agg #[.slice (some ad5) n1 c1], .int .i64 (m : Int)] u (Said (.int .u32 (yy : Int)) u)) := Lib.hid (fun u h => by
                            have := HSe.out (some ad5) n1 c1 L (m : Int) u (HP1.out u h)
                            rwa [set_at hr hyy] at this)
                          have m0 : (0 : Int) ≤ (m : Int) := by omega
                          have m1 : (m : Int) < (n1 : Int) := by omega
                          have b3 : ((yy : Int) != (yy : Int)) = false := by simp
                          clear hp hm hm1 hyy hcc
                          have p6 := (HF6.out _ GB).cell 0
                          have p7 := (HF7.out _ GB).cell 0
                          have p8 := (HF8.out _ GB).cell 0
                          go_wp2_with fail
                          refine (HOf1.out _ GB).mono ?_
                          rintro e w5 ⟨rfl, h2⟩
                          replace GB := GB.trans (h2.mono GB.size)
                          clear h2 p6 p7 p8
                          have p6 := (HF6.out _ GB).cell 0
                          have p7 := (HF7.out _ GB).cell 0
                          have p8 := (HF8.out _ GB).cell 0
                          go_wp2_with fail
                          refine (HOf2.out _ GB).mono ?_
                          rintro e w6 ⟨rfl, h2⟩
                          replace GB := GB.trans (h2.mono GB.size)
                          clear h2 p6 p7 p8
                          have p6 := (HF6.out _ GB).cell 0
                          have p7 := (HF7.out _ GB).cell 0
                          have p8 := (HF8.out _ GB).cell 0
                          go_wp2_with fail
                          refine (HPo.out _ GB).mono ?_
                          rintro e w7 ⟨rfl, h2⟩
                          replace GB := GB.trans (h2.mono GB.size)
                          clear h2 p6 p7 p8
                          have p6 := (HF6.out _ GB).cell 0
                          have p7 := (HF7.out _ GB).cell 0
                          have p8 := (HF8.out _ GB).cell 0
                          have p9 := HYc.out _ GB
                          go_wp2_with fail
                          refine (HSe1.out _ GB).mono ?_
                          rintro e w8 ⟨rfl, h2⟩
                          replace GB := GB.trans (h2.mono GB.size)
                          clear h2 p6 p7 p8
                          have p6 := (HF6.out _ GB).cell 0
                          have p7 := (HF7.out _ GB).cell 0
                          have p8 := (HF8.out _ GB).cell 0
                          clear p6 p7 p8 p9 HOf1 HOf2 HPo HSe1
                          go_wp2
                          go_roundw
                          case rel => exact ⟨i + 1, HI.out.1, HI.out.2, by go_num, GB⟩
                          case measure => have := HI.out.1; simp [intOf]; omega
                    · obtain rfl : n' = i := by omega
                      have HBf := Lib.hid (HBw.out _ GB)
                      clear hi12
                      go_wp2
                      go_roundw
                      case rel => exact ⟨k + 1, HJ.out.1, HJ.out.2, by go_num, HBf.out⟩
                      case measure => have := HJ.out.1; simp [intOf]; omega
    · obtain rfl : n = k := by omega
      clear hk8
      go_wp2
      go_ret
      exact ⟨rfl, hB⟩

end Go.Proofs.Ytnckfgnhlnichaa
